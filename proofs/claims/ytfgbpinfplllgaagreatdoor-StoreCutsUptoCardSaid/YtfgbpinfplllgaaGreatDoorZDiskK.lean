/- SWEPT -/
import Derived.Carry
import Derived.Deep.RegionHeld3
import Derived.Deep.RegionLaw
import Derived.Lib.SliceRun
import Derived.Maps.AppendAt
import Derived.Maps.OwnSet
import Derived.Maps.RangeWalk
import Derived.RegionTactic
import Derived.StillTailTactics
import Derived.Test.YtfgbpinfplllgaaGreatDoorZWordsK
set_option linter.unusedVariables false
set_option linter.unusedSimpArgs false
open List (getElem_toArray getElem_cons_succ getElem_cons_zero setIfInBounds_toArray set_cons_succ set_cons_zero)
open Go.Lib (hid)
namespace Go.Proofs.YtfgbpinfplllgaaGreatDoor
open Go.RowKit Go.Shelf Go.Maps
set_option maxRecDepth 100000
def blkElem : Value → Option (DataW Unit × List MemPlace)
  | .agg cs => if cs.size = 64 ∧ cs.toList.all isU8 = true then some (.lit (.string (cs.toList.map byteOf)), []) else none
  | _ => none
theorem blkElem_mk {l : Blk} (h : l.length = 64) : blkElem (bv l) = some (.lit (.string l), []) := by
  unfold blkElem bv
  simp only
  rw [if_pos ⟨by simp [cellsOf, h], by simpa using cells_u8 l⟩]
  simp [byte_cells]
theorem blkElem_inv {v : Value} {z : DataW Unit × List MemPlace} (h : blkElem v = some z) : ∃ l : Blk, l.length = 64 ∧ v = bv l ∧ z = (.lit (.string l), []) := by
  unfold blkElem at h
  split at h
  · rename_i cs
    split at h
    · rename_i hc
      cases h
      refine ⟨cs.toList.map byteOf, by simp [hc.1], ?_, rfl⟩
      unfold bv
      rw [cells_byte _ hc.2]
    · cases h
  · cases h
section
variable {w : World} {ops : Array Oper} {rest : List Oper} {o : Oper} {a : Act} {Q : Exit → Act → World → Prop} {K : Act → World → Prop}
end
abbrev ky (k : Int) : Lit := .int .i64 k
def look (D : DataW Unit) (k : Int) : Option Blk := if Maps.has D (ky k) = true then (match D.atKey (ky k) (.lit (.string [])) with | .lit (.string l) => some l | _ => none) else none
def KeysIn (B : Nat) (D : DataW Unit) : Prop := ∃ es, D = .map es ∧ ∀ p ∈ es, ∃ k : Nat, p.1 = ky (k : Int) ∧ k < B
theorem keys_size : ∀ (B : Nat) (es : List (Lit × DataW Unit)), es.Pairwise (fun p q => p.1 ≠ q.1) → (∀ p ∈ es, ∃ k : Nat, p.1 = ky (k : Int) ∧ k < B) → es.length ≤ B
  | 0, [], _, _ => Nat.le_refl _
  | 0, p :: es, _, h => by obtain ⟨k, _, hk⟩ := h p (by simp); omega
  | B + 1, es, hp, h => by
    have key : ∀ es : List (Lit × DataW Unit), es.Pairwise (fun p q => p.1 ≠ q.1) → es.length ≤ (es.filter fun p => !(p.1.sameKey (ky (B : Int)))).length + 1 := by
      intro es hp
      induction es with
      | nil => simp
      | cons p es ih =>
        rw [List.pairwise_cons] at hp
        rw [List.filter_cons]
        split
        · rw [List.length_cons, List.length_cons]; have := ih hp.2; omega
        · rename_i hs
          have hk : p.1 = ky (B : Int) := by
            by_cases e : p.1 = ky (B : Int)
            · exact e
            · exact absurd (by rw [Maps.sameKey_ne e]; rfl) hs
          have e : (es.filter fun p => !(p.1.sameKey (ky (B : Int)))) = es := List.filter_eq_self.2 fun q hq => by
            rw [Maps.sameKey_ne (fun e => hp.1 q hq (hk.trans e.symm))]; rfl
          rw [e, List.length_cons]
          exact Nat.le_refl _
    have ih := keys_size B (es.filter fun p => !(p.1.sameKey (ky (B : Int)))) (hp.filter _) (fun p hpm => by
      rw [List.mem_filter] at hpm
      obtain ⟨k, hk, hlt⟩ := h p hpm.1
      refine ⟨k, hk, ?_⟩
      have : k ≠ B := by
        rintro rfl
        rw [hk] at hpm
        have := hpm.2
        simp [Lit.sameKey] at this
      omega)
    have := key es hp
    omega
theorem look_put {D : DataW Unit} (hD : IsMap D) (k i : Int) (l : Blk) : look (D.put (ky k) (.lit (.string l))) i = upd (look D) k l i := by
  unfold look upd
  by_cases h : i = k
  · subst h
    rw [if_pos rfl, has_put_same hD (by trivial), if_pos rfl, atKey_put_same hD (by trivial)]
  · have hne : ky i ≠ ky k := fun e => h (by injection e)
    rw [if_neg h, has_put_other hne, atKey_put_other hne]
theorem look_at {D : DataW Unit} {k : Int} {l : Blk} {l0 : Blk} (h : D.atKey (ky k) (.lit (.string l0)) = .lit (.string l)) : l = (look D k).getD l0 := by
  unfold look
  by_cases hh : Maps.has D (ky k) = true
  · rw [if_pos hh]
    have e : D.atKey (ky k) (.lit (.string [])) = .lit (.string l) := by
      rw [← h]
      cases D with
      | map es =>
        rw [Maps.has_eq] at hh
        unfold DataW.atKey
        simp only
        cases hf : es.find? (fun p => p.1.sameKey (ky k)) with
        | none =>
          rw [List.find?_eq_none] at hf
          obtain ⟨x, hx, hy⟩ := List.any_eq_true.1 hh
          exact absurd hy (hf x hx)
        | some p => rfl
      | _ => cases hh
    rw [e]
    rfl
  · rw [if_neg hh]
    have hf : Maps.has D (ky k) = false := by simpa using hh
    rw [atKey_of_not_has hf] at h
    injection h with h
    injection h with h
    exact h.symm
theorem look_has {D : DataW Unit} {k : Int} {l : Blk} {l0 : Blk} (h : D.atKey (ky k) (.lit (.string l0)) = .lit (.string l)) : Maps.has D (ky k) = (look D k).isSome := by
  unfold look
  by_cases hh : Maps.has D (ky k) = true
  · rw [if_pos hh, hh]
    have e : D.atKey (ky k) (.lit (.string [])) = .lit (.string l) := by
      rw [← h]
      cases D with
      | map es =>
        rw [Maps.has_eq] at hh
        unfold DataW.atKey
        simp only
        cases hf : es.find? (fun p => p.1.sameKey (ky k)) with
        | none =>
          rw [List.find?_eq_none] at hf
          obtain ⟨x, hx, hy⟩ := List.any_eq_true.1 hh
          exact absurd hy (hf x hx)
        | some p => rfl
      | _ => cases hh
    rw [e]
    rfl
  · rw [if_neg hh]
    simpa using hh
def MapIs (w : World) (b B : Nat) (f : Tab) : Prop := ∃ D : DataW Unit, w.ownsMap Tryz.prog 3 blkElem b B D ∧ KeysIn B D ∧ ∀ k, look D k = f k
theorem MapIs.lt {w : World} {b B : Nat} {f : Tab} (h : MapIs w b B f) : b < w.heap.size := by obtain ⟨D, h, _⟩ := h; exact h.lt
theorem MapIs.turn {w w' : World} {F : Nat → Prop} {b B : Nat} {f : Tab} (h : MapIs w b B f) (ht : Turn w w' F) (hF : ¬ F b) : MapIs w' b B f := by
  obtain ⟨D, h, r⟩ := h
  exact ⟨D, ownsMap_turn h ht hF, r⟩
theorem MapIs.new (w : World) (B : Nat) : MapIs (w.alloc (.map #[] 0)) w.heap.size B none' :=
  ⟨.map [], (World.ownsMap_made w Tryz.prog _ _).mono (Nat.zero_le _), ⟨[], rfl, by simp⟩, fun k => rfl⟩
theorem keyed : Keyed Tryz.prog 3 := int_keyed Tryz.underlying3
theorem wf64 {k : Int} (h0 : -9223372036854775808 ≤ k) (h1 : k ≤ 9223372036854775807) : (Lit.int .i64 k).wf = true := by
  simp [Lit.wf, IntKind.min, IntKind.max, IntKind.signed, IntKind.bits]
  omega
theorem tell_len {w : World} {b B : Nat} {f : Tab} (h : MapIs w b B f) (k : Int) (h0 : 0 ≤ k) (h1 : k < 16384) : (tell f k).length = 64 ∧ (∀ l, f k = some l → l.length = 64) := by
  obtain ⟨D, hown, -, hf⟩ := h
  obtain ⟨v, ps, -, hR⟩ := hown.lookup keyed (t := 80) (e := 112) Tryz.underlying80 (zero30 w) (blkElem_mk zb_len) (keyOf_int_mk Tryz.underlying3 (wf64 (k := k) (by omega) (by omega)))
  obtain ⟨l, hl, -, hz⟩ := blkElem_inv hR
  have hat := look_at (congrArg Prod.fst hz)
  rw [hf k] at hat
  refine ⟨by unfold tell; rw [← hat]; exact hl, fun l' h' => ?_⟩
  rw [h'] at hat
  rw [← show l = l' from hat]
  exact hl
theorem run_look {w : World} {b B : Nat} {f : Tab} (h : MapIs w b B f) (k : Int) (h0 : 0 ≤ k) (h1 : k < 16384) : (Instr.lookup 80 (.map (some b)) (.int .i64 k) false).run Tryz.prog w = .ok (bv (tell f k)) w := by
  obtain ⟨D, hown, -, hf⟩ := h
  obtain ⟨v, ps, hrun, hR⟩ := hown.lookup keyed (t := 80) (e := 112) Tryz.underlying80 (zero30 w) (blkElem_mk zb_len) (keyOf_int_mk Tryz.underlying3 (wf64 (k := k) (by omega) (by omega)))
  obtain ⟨l, hl, rfl, hz⟩ := blkElem_inv hR
  have hat := look_at (congrArg Prod.fst hz)
  rw [hf k] at hat
  rw [hrun, hat]
  rfl
theorem run_look_ok {w : World} {b B : Nat} {f : Tab} (h : MapIs w b B f) (k : Int) (h0 : 0 ≤ k) (h1 : k < 16384) : (Instr.lookup 80 (.map (some b)) (.int .i64 k) true).run Tryz.prog w = .ok (.tuple #[bv (tell f k), .bool (f k).isSome]) w := by
  obtain ⟨D, hown, -, hf⟩ := h
  obtain ⟨v, ps, hrun, hR⟩ := hown.look_ok keyed (t := 80) (e := 112) Tryz.underlying80 (zero30 w) (blkElem_mk zb_len) (keyOf_int_mk Tryz.underlying3 (wf64 (k := k) (by omega) (by omega)))
  obtain ⟨l, hl, rfl, hz⟩ := blkElem_inv hR
  have hat := look_at (congrArg Prod.fst hz)
  have hhas := look_has (congrArg Prod.fst hz)
  rw [hf k] at hat hhas
  rw [hrun, hat, hhas]
  rfl
set_option maxRecDepth 100000 in
theorem run_upd {w : World} {b B : Nat} {f : Tab} (h : MapIs w b B f) (k : Int) (h0 : 0 ≤ k) (h1 : k < B) (hB : B ≤ 16384) {l : Blk} (hl : l.length = 64) :
    ∃ w', (Instr.mapUpdate 80 (.map (some b)) (.int .i64 k) (bv l)).run Tryz.prog w = .ok () w' ∧ MapIs w' b B (upd f k l) ∧ w.grownBy w' (some b) := by
  obtain ⟨D, hown, hk, hf⟩ := h
  obtain ⟨w', hrun, hown', hg⟩ := hown.update keyed (t := 80) (e := 112) Tryz.underlying80 (by unfold maxLen; omega) (keyOf_int_mk Tryz.underlying3 (wf64 (k := k) (by omega) (by omega))) (blkElem_mk hl)
  have hD : IsMap D := hown.isMap
  have hkeys : KeysIn B (D.put (ky k) (.lit (.string l))) := by
    obtain ⟨es, rfl, he⟩ := hk
    refine ⟨_, rfl, fun p hp => ?_⟩
    have hmem : ∀ (x : Lit × DataW Unit) (l : List (Lit × DataW Unit)) (p : Lit × DataW Unit), p ∈ DataW.insert x l → p = x ∨ p ∈ l := by
      intro x l p
      induction l with
      | nil => intro h; simp [DataW.insert] at h; exact .inl h
      | cons y r ih =>
        intro h
        unfold DataW.insert at h
        split at h
        · rcases List.mem_cons.1 h with h | h
          · exact .inl h
          · exact .inr h
        · rcases List.mem_cons.1 h with h | h
          · exact .inr (by rw [h]; exact List.mem_cons_self)
          · rcases ih h with h | h
            · exact .inl h
            · exact .inr (List.mem_cons_of_mem _ h)
    rcases hmem _ _ _ hp with rfl | hp
    · exact ⟨k.toNat, by simp only [ky]; congr 1; omega, by omega⟩
    · exact he p (List.mem_filter.1 hp).1
  refine ⟨w', hrun, ⟨_, ?_, hkeys, fun i => ?_⟩, hg⟩
  · have hT := hown'.tidy keyed
    obtain ⟨es, he, hke⟩ := hkeys
    obtain ⟨es2, he2, hpw⟩ := hT
    have hes : es2 = es := by rw [he] at he2; injection he2 with h; exact h.symm
    subst hes
    have hle := keys_size B es2 hpw hke
    obtain ⟨es3, clock, hb, F, hs, hD3⟩ := hown'
    refine ⟨es3, clock, hb, F, ?_, hD3⟩
    rw [he] at hD3
    injection hD3 with hD3
    have := congrArg List.length hD3
    rw [length_sorted] at this
    simp at this
    omega
  · rw [look_put hD]
    unfold upd
    split
    · rfl
    · exact hf i
section
variable {w : World} {ops : Array Oper} {rest : List Oper} {o : Oper} {a : Act} {Q : Exit → Act → World → Prop} {K : Act → World → Prop}
theorem wp_look {b B : Nat} {f : Tab} (m x : Operand) (ho : o.op = .lookup 80 m x false) (hm : a.eval m = .map (some b)) (k : Int) (hx : a.eval x = .int .i64 k) (h : MapIs w b B f) (h0 : 0 ≤ k) (h1 : k < 16384)
    (hK : K (a.put o.dst (bv (tell f k))) w) : o.wp Tryz.prog a w K Q := by
  unfold Oper.wp
  simp [execOp, ho, hm, hx, run_look h k h0 h1, Result.andThen]
  exact hK
theorem wp_look_ok {b B : Nat} {f : Tab} (m x : Operand) (ho : o.op = .lookup 80 m x true) (hm : a.eval m = .map (some b)) (k : Int) (hx : a.eval x = .int .i64 k) (h : MapIs w b B f) (h0 : 0 ≤ k) (h1 : k < 16384)
    (hK : K (a.put o.dst (.tuple #[bv (tell f k), .bool (f k).isSome])) w) : o.wp Tryz.prog a w K Q := by
  unfold Oper.wp
  simp [execOp, ho, hm, hx, run_look_ok h k h0 h1, Result.andThen]
  exact hK
theorem wp_upd {b B : Nat} {f : Tab} (m x v : Operand) (ho : o.op = .mapUpdate 80 m x v) (hm : a.eval m = .map (some b)) (k : Int) (hx : a.eval x = .int .i64 k) (l : Blk) (hv : a.eval v = bv l) (hl : l.length = 64) (h : MapIs w b B f)
    (h0 : 0 ≤ k) (h1 : k < B) (hB : B ≤ 16384) (hK : ∀ w', MapIs w' b B (upd f k l) → w.grownBy w' (some b) → K (a.put o.dst undef) w') : o.wp Tryz.prog a w K Q := by
  obtain ⟨w', hrun, r1, r2⟩ := run_upd h k h0 h1 hB hl
  unfold Oper.wp
  simp [execOp, ho, hm, hx, hv, hrun, Result.andThen]
  exact hK w' r1 r2
theorem wpList_look {b B : Nat} {f : Tab} (hgd : o.guard = none) (m x : Operand) (ho : o.op = .lookup 80 m x false) (hm : a.eval m = .map (some b)) (k : Int) (hx : a.eval x = .int .i64 k) (h : MapIs w b B f) (h0 : 0 ≤ k) (h1 : k < 16384)
    (l : Blk) (hl : tell f k = l) (hK : wpList Tryz.prog ops Q rest (a.put o.dst (bv l)) w) : wpList Tryz.prog ops Q (o :: rest) a w :=
  wpList_plain hgd fun _ hh => wp_look m x ho hm k hx h h0 h1 (hh _ _ (by rw [hl]; exact hK))
theorem wpList_look_ok {b B : Nat} {f : Tab} (hgd : o.guard = none) (m x : Operand) (ho : o.op = .lookup 80 m x true) (hm : a.eval m = .map (some b)) (k : Int) (hx : a.eval x = .int .i64 k) (h : MapIs w b B f) (h0 : 0 ≤ k) (h1 : k < 16384)
    (l : Blk) (hl : tell f k = l) (c : Bool) (hc : (f k).isSome = c) (hK : wpList Tryz.prog ops Q rest (a.put o.dst (.tuple #[bv l, .bool c])) w) : wpList Tryz.prog ops Q (o :: rest) a w :=
  wpList_plain hgd fun _ hh => wp_look_ok m x ho hm k hx h h0 h1 (hh _ _ (by rw [hl, hc]; exact hK))
theorem wpList_upd {b B : Nat} {f : Tab} (hgd : o.guard = none) (m x v : Operand) (ho : o.op = .mapUpdate 80 m x v) (hm : a.eval m = .map (some b)) (k : Int) (hx : a.eval x = .int .i64 k) (l : Blk) (hv : a.eval v = bv l) (hl : l.length = 64) (h : MapIs w b B f)
    (h0 : 0 ≤ k) (h1 : k < B) (hB : B ≤ 16384) (hK : ∀ w', MapIs w' b B (upd f k l) → w.grownBy w' (some b) → wpList Tryz.prog ops Q rest (a.put o.dst undef) w') : wpList Tryz.prog ops Q (o :: rest) a w :=
  wpList_plain hgd fun _ hh => wp_upd m x v ho hm k hx l hv hl h h0 h1 hB fun w' r1 r2 => hh _ _ (hK w' r1 r2)
end
end Go.Proofs.YtfgbpinfplllgaaGreatDoor
namespace Go.Proofs.YtfgbpinfplllgaaGreatDoor
open Go.RowKit Go.Shelf Go.Maps
set_option maxRecDepth 100000
structure DP where
  db : Nat
  lb : Nat
  yb : Nat
  A : Option Addr
  cap : Nat
def qcells (q : List (Int × Blk)) : List Value := q.flatMap fun x => .int .i64 x.1 :: cellsOf x.2
def dcells (p : DP) (s : DS) : Array Value := #[.int .i64 (s.blocks : Int), .map (some p.lb), .map (some p.yb), .slice p.A s.q.length p.cap, .int .i64 (s.steps : Int), .int .i64 (s.left : Int), .bool s.dark]
structure DiskAt (w : World) (p : DP) (s : DS) : Prop where
  cells : Cs w p.db 83 (dcells p s)
  laid : MapIs w p.lb s.blocks s.laid
  young : MapIs w p.yb s.blocks s.young
  ne : p.lb ≠ p.yb
  q : w.ownsRow 0 114 65 (.slice p.A s.q.length p.cap) s.q.length (qcells s.q)
  lo : 64 ≤ s.blocks
  hi : s.blocks ≤ 16384
  wfq : ∀ x ∈ s.q, 0 ≤ x.1 ∧ x.1 < (s.blocks : Int) ∧ x.2.length = 64
  stp : s.steps < 4611686018427387904
  lft : s.left < 9223372036854775808
def foot (p : DP) (k : Nat) : Prop := k = p.db ∨ k = p.lb ∨ k = p.yb ∨ (Value.slice p.A 0 0).ownBlock = some k
def DPost (w : World) (p : DP) (s : DS) (v : Value) (e : Ending) (w' : World) : Prop :=
  e = .returned v ∧ ∃ p', DiskAt w' p' s ∧ p'.db = p.db ∧ Turn w w' (foot p) ∧ ∀ k, foot p' k → foot p k ∨ w.heap.size ≤ k
theorem ownBlock_slice (A : Option Addr) (a b c d : Nat) : (Value.slice A a b).ownBlock = (Value.slice A c d).ownBlock := by cases A <;> rfl
theorem MapIs.ne_cs {w : World} {b B g : Nat} {f : Tab} {t : TypeId} {cs : Array Value} (h : MapIs w b B f) (hc : Cs w g t cs) : b ≠ g := by
  obtain ⟨D, ⟨es, clock, hb, _⟩, _⟩ := h
  rintro rfl
  unfold Cs at hc
  rw [hb] at hc
  cases hc
theorem ownsRow_ne {w : World} {base n size g : Nat} {e t : TypeId} {v : Value} {xs : List Value} {cs : Array Value} (h : w.ownsRow base e size v n xs) (hc : Cs w g t cs) (ht : t ≠ e) : v.ownBlock ≠ some g := by
  rcases h.2 with ⟨rfl, _⟩ | ⟨g', cap, cur, rfl, hb, hg, _⟩
  · simp [Value.ownBlock]
  · simp only [Value.ownBlock, ne_eq, Option.some.injEq]
    rintro rfl
    unfold Cs at hc
    rw [hg] at hc
    cases hc
    exact ht rfl
theorem ownsRow_ne_map {w : World} {base n size b B : Nat} {e : TypeId} {v : Value} {xs : List Value} {f : Tab} (h : w.ownsRow base e size v n xs) (hm : MapIs w b B f) : v.ownBlock ≠ some b := by
  rcases h.2 with ⟨rfl, _⟩ | ⟨g', cap, cur, rfl, hb, hg, _⟩
  · simp [Value.ownBlock]
  · simp only [Value.ownBlock, ne_eq, Option.some.injEq]
    rintro rfl
    obtain ⟨D, ⟨es, clock, hbb, _⟩, _⟩ := hm
    rw [hg] at hbb
    cases hbb
theorem foot_lt {w : World} {p : DP} {s : DS} (h : DiskAt w p s) : ∀ k, foot p k → k < w.heap.size := by
  rintro k (rfl | rfl | rfl | hk)
  · exact h.cells.lt
  · exact h.laid.lt
  · exact h.young.lt
  · rw [ownBlock_slice p.A 0 0 s.q.length p.cap] at hk
    rcases h.q.2 with ⟨h0, _⟩ | ⟨g', cap, cur, h0, hb, hg, _⟩
    · rw [h0] at hk; cases hk
    · rw [h0] at hk
      cases hk
      exact (Array.getElem?_eq_some_iff.1 hg).1
theorem DiskAt.turn {w w' : World} {F : Nat → Prop} {p : DP} {s : DS} (h : DiskAt w p s) (ht : Turn w w' F) (hF : ∀ k, foot p k → ¬ F k) : DiskAt w' p s :=
  ⟨h.cells.turn ht (hF _ (.inl rfl)), h.laid.turn ht (hF _ (.inr (.inl rfl))), h.young.turn ht (hF _ (.inr (.inr (.inl rfl)))), h.ne,
   ownsRow_turn h.q ht (fun k hk => hF k (.inr (.inr (.inr (by rw [← ownBlock_slice p.A s.q.length p.cap]; exact hk))))), h.lo, h.hi, h.wfq, h.stp, h.lft⟩
theorem DiskAt.below {w w' : World} {p : DP} {s : DS} (h : DiskAt w p s) (hb : Below w.heap.size w w') : DiskAt w' p s := h.turn (Turn.of_below hb fun _ => False) fun _ _ h => h
theorem DiskAt.set {w w' : World} {p : DP} {s s' : DS} (h : DiskAt w p s) (ht : Turn w w' (· = p.db)) (hc : Cs w' p.db 83 (dcells p s')) (h1 : s'.blocks = s.blocks) (h2 : s'.laid = s.laid) (h3 : s'.young = s.young) (h4 : s'.q = s.q)
    (h5 : s'.steps < 4611686018427387904) (h6 : s'.left < 9223372036854775808) : DiskAt w' p s' := by
  have e1 := h.laid.ne_cs h.cells
  have e2 := h.young.ne_cs h.cells
  have e3 := ownsRow_ne h.q h.cells (by decide)
  refine ⟨hc, ?_, ?_, h.ne, ?_, by rw [h1]; exact h.lo, by rw [h1]; exact h.hi, by rw [h4, h1]; exact h.wfq, h5, h6⟩
  · rw [h1, h2]; exact h.laid.turn ht e1
  · rw [h1, h3]; exact h.young.turn ht e2
  · rw [h4]; exact ownsRow_turn h.q ht (fun k hk e => e3 (by rw [hk, e]))
theorem DPost.set {w w' : World} {p : DP} {s s' : DS} (h : DiskAt w p s) {v : Value} (ht : Turn w w' (· = p.db)) (hc : Cs w' p.db 83 (dcells p s')) (h1 : s'.blocks = s.blocks) (h2 : s'.laid = s.laid) (h3 : s'.young = s.young) (h4 : s'.q = s.q)
    (h5 : s'.steps < 4611686018427387904) (h6 : s'.left < 9223372036854775808) : DPost w p s' v (.returned v) w' :=
  ⟨rfl, p, h.set ht hc h1 h2 h3 h4 h5 h6, rfl, ht.mono fun i _ e => .inl e, fun k hk => .inl hk⟩
theorem DPost.same {w : World} {p : DP} {s : DS} (h : DiskAt w p s) (v : Value) : DPost w p s v (.returned v) w := ⟨rfl, p, h, rfl, Turn.refl _ _, fun k hk => .inl hk⟩
theorem turn_set (w : World) (g i : Nat) (v : Value) : Turn w (w.setCell ⟨g, i, none⟩ v) (· = g) := (Turn.of_grown (grown_set w g i v)).mono fun k _ e => by injection e with e; exact e.symm
theorem DiskAt.at {w : World} {p : DP} {s : DS} (h : DiskAt w p s) : w.cell? ⟨p.db, 0, none⟩ = some (.int .i64 (s.blocks : Int)) ∧ w.cell? ⟨p.db, 1, none⟩ = some (.map (some p.lb)) ∧ w.cell? ⟨p.db, 2, none⟩ = some (.map (some p.yb)) ∧
    w.cell? ⟨p.db, 3, none⟩ = some (.slice p.A s.q.length p.cap) ∧ w.cell? ⟨p.db, 4, none⟩ = some (.int .i64 (s.steps : Int)) ∧ w.cell? ⟨p.db, 5, none⟩ = some (.int .i64 (s.left : Int)) ∧ w.cell? ⟨p.db, 6, none⟩ = some (.bool s.dark) :=
  ⟨h.cells.cell 0 rfl, h.cells.cell 1 rfl, h.cells.cell 2 rfl, h.cells.cell 3 rfl, h.cells.cell 4 rfl, h.cells.cell 5 rfl, h.cells.cell 6 rfl⟩
theorem isNone_cell (db : Nat) (n : Nat) (w : World) (h : w.cell? ⟨db, 0, none⟩ = some (.int .i64 (n : Int))) (hn : 64 ≤ n) : Calls Tryz.prog 55 #[.pointer (some ⟨db, 0, none⟩)] w fun e w' => e = .returned (.bool false) ∧ w = w' := by
  have h0 : ((n : Int) == 0) = false := by simp; omega
  clear hn
  go_enter Tryz.func55, Tryz.ntmps55
  go_wp2
  go_ret
  exact ⟨rfl, rfl⟩
theorem isNone_disk {w : World} {p : DP} {s : DS} (h : DiskAt w p s) : Calls Tryz.prog 55 #[.pointer (some ⟨p.db, 0, none⟩)] w fun e w' => e = .returned (.bool false) ∧ w = w' := isNone_cell _ _ _ h.at.1 h.lo
theorem isBlock_cell (db : Nat) (n : Nat) (k : Int) (w : World) (h : w.cell? ⟨db, 0, none⟩ = some (.int .i64 (n : Int))) : Calls Tryz.prog 141 #[.pointer (some ⟨db, 0, none⟩), .int .i64 k] w fun e w' => e = .returned (.bool (decide (0 ≤ k ∧ k < (n : Int)))) ∧ w = w' := by
  by_cases h0 : 0 ≤ k
  · by_cases h1 : k < (n : Int)
    · rw [decide_eq_true (by exact ⟨h0, h1⟩)]
      go_enter Tryz.func141, Tryz.ntmps141
      go_wp2
      go_ret
      exact ⟨rfl, rfl⟩
    · rw [decide_eq_false (by omega)]
      have h1' : decide (k < (n : Int)) = false := by simp; omega
      clear h1
      go_enter Tryz.func141, Tryz.ntmps141
      go_wp2
      go_ret
      exact ⟨rfl, rfl⟩
  · rw [decide_eq_false (by omega)]
    have h0' : k < 0 := by omega
    have h0'' : decide (0 ≤ k) = false := by simp; omega
    clear h0
    go_enter Tryz.func141, Tryz.ntmps141
    go_wp2
    go_ret
    exact ⟨rfl, rfl⟩
theorem isBlock_disk {w : World} {p : DP} {s : DS} (h : DiskAt w p s) (k : Int) : Calls Tryz.prog 141 #[.pointer (some ⟨p.db, 0, none⟩), .int .i64 k] w fun e w' => e = .returned (.bool (decide (0 ≤ k ∧ k < (s.blocks : Int)))) ∧ w = w' := isBlock_cell _ _ _ _ h.at.1
theorem refused_disk {w : World} {p : DP} {s : DS} (h : DiskAt w p s) : Calls Tryz.prog 39 #[.pointer (some ⟨p.db, 0, none⟩)] w fun e w' => e = .returned (.int .i64 (if s.dark then 9 else 0)) ∧ w = w' := by
  have hn := isNone_disk h
  have h6 := h.at.2.2.2.2.2.2
  clear h
  obtain ⟨b, hb⟩ : ∃ b, s.dark = b := ⟨_, rfl⟩
  rw [hb] at h6 ⊢
  clear hb
  cases b
  all_goals
    go_enter Tryz.func39, Tryz.ntmps39
    go_wp2_with fail
    refine hn.mono ?_
    clear hn
    rintro e _ ⟨rfl, rfl⟩
    go_wp2
    go_ret
    exact ⟨rfl, rfl⟩
def workS (s : DS) : DS := if s.left = 1 then gone s else worked s
theorem work_disk {w : World} {p : DP} {s : DS} (h : DiskAt w p s) (hs : s.steps + 1 < 4611686018427387904) :
    Calls Tryz.prog 108 #[.pointer (some ⟨p.db, 0, none⟩)] w fun e w' => e = .returned (.bool (decide (s.left ≠ 1))) ∧ DiskAt w' p (workS s) ∧ Turn w w' (· = p.db) := by
  obtain ⟨-, -, -, -, c4, c5, c6⟩ := h.at
  have f4 := h.cells.frozen 4
  have f5 := h.cells.frozen 5
  have f6 := h.cells.frozen 6
  have hl := h.lft
  have H := hid h
  by_cases h1 : s.left = 1
  · rw [decide_eq_false (by omega), show workS s = gone s from if_pos h1]
    rw [h1] at c5
    clear h
    go_enter Tryz.func108, Tryz.ntmps108
    go_wp2
    go_ret
    exact ⟨rfl, H.out.set (turn_set _ _ _ _) (H.out.cells.set 6 _) rfl rfl rfl rfl H.out.stp H.out.lft, turn_set _ _ _ _⟩
  · rw [decide_eq_true h1, show workS s = worked s from if_neg h1]
    have e1 : ((s.left : Int) == 1) = false := by simp; omega
    have hs0 : (0 : Int) ≤ s.steps := by omega
    have hs1 : (s.steps : Int) ≤ 4611686018427387904 := by omega
    have hl0 : (0 : Int) ≤ s.left := by omega
    have hl1 : (s.left : Int) ≤ 9223372036854775807 := by omega
    by_cases h2 : 1 < s.left
    · have e2 : (1 : Int) < (s.left : Int) := by omega
      have ht := hid ((turn_set w p.db 5 (.int .i64 ((s.left : Int) - 1))).trans (turn_set (w.setCell ⟨p.db, 5, none⟩ (.int .i64 ((s.left : Int) - 1))) p.db 4 (.int .i64 ((s.steps : Int) + 1))) (fun _ _ e => e))
      have hc := hid ((H.out.cells.set 5 (.int .i64 ((s.left : Int) - 1))).set 4 (.int .i64 ((s.steps : Int) + 1)))
      have hst := hid h2
      clear h h1 h2
      go_enter Tryz.func108, Tryz.ntmps108
      go_wp2
      go_ret
      refine ⟨rfl, H.out.set ht.out ?_ rfl rfl rfl rfl ?_ ?_, ht.out⟩
      · have e := hc.out
        rw [show dcells p (worked s) = ((dcells p s).setIfInBounds 5 (.int .i64 ((s.left : Int) - 1))).setIfInBounds 4 (.int .i64 ((s.steps : Int) + 1)) from by
          simp [dcells, worked, if_pos hst.out]; have := hst.out; omega]
        exact e
      · exact hs
      · show (if 1 < s.left then s.left - 1 else s.left) < _
        rw [if_pos hst.out]; omega
    · have e2 : (s.left : Int) ≤ 1 := by omega
      have hc := hid (H.out.cells.set 4 (.int .i64 ((s.steps : Int) + 1)))
      have hst := hid h2
      clear h h1 h2
      go_enter Tryz.func108, Tryz.ntmps108
      go_wp2
      go_ret
      refine ⟨rfl, H.out.set (turn_set _ _ _ _) ?_ rfl rfl rfl rfl ?_ ?_, turn_set _ _ _ _⟩
      · have e := hc.out
        rw [show dcells p (worked s) = (dcells p s).setIfInBounds 4 (.int .i64 ((s.steps : Int) + 1)) from by
          simp [dcells, worked, if_neg hst.out]]
        exact e
      · exact hs
      · show (if 1 < s.left then s.left - 1 else s.left) < _
        rw [if_neg hst.out]; omega
end Go.Proofs.YtfgbpinfplllgaaGreatDoor
namespace Go.Proofs.YtfgbpinfplllgaaGreatDoor
open Go.RowKit Go.Shelf Go.Maps
set_option maxRecDepth 100000
theorem Arm_disk {w : World} {p : DP} {s : DS} (h : DiskAt w p s) (k : Int) (hk : k < 9223372036854775808) :
    Calls Tryz.prog 13 #[.pointer (some ⟨p.db, 0, none⟩), .int .i64 k] w fun e w' => DPost w p (if s.dark = true ∨ k < 0 then s else armed s k.toNat) (.int .i64 (if s.dark = true then 9 else if k < 0 then 2 else 0)) e w' := by
  have hr := refused_disk h
  have f5 := h.cells.frozen 5
  have c5 := h.at.2.2.2.2.2.1
  have H := hid h
  clear h
  obtain ⟨b, hb⟩ : ∃ b, s.dark = b := ⟨_, rfl⟩
  rw [hb] at hr ⊢
  cases b
  · by_cases h0 : k < 0
    · rw [if_pos (.inr h0), if_neg (by decide), if_pos h0]
      rw [if_neg (by decide)] at hr
      go_enter Tryz.func13, Tryz.ntmps13
      go_wp2_with fail
      refine hr.mono ?_
      clear hr
      rintro e _ ⟨rfl, rfl⟩
      go_wp2
      go_ret
      exact DPost.same H.out _
    · rw [if_neg (by rintro (h | h); cases h; exact h0 h), if_neg (by decide), if_neg h0]
      rw [if_neg (by decide)] at hr
      have h0' : decide (k < 0) = false := by simp; omega
      have HK := hid h0
      have HT := hid hk
      clear h0 hk
      go_enter Tryz.func13, Tryz.ntmps13
      go_wp2_with fail
      refine hr.mono ?_
      clear hr
      rintro e _ ⟨rfl, rfl⟩
      go_wp2
      go_ret
      refine DPost.set H.out (turn_set _ _ _ _) ?_ rfl rfl rfl rfl H.out.stp ?_
      · rw [show dcells p (armed s k.toNat) = (dcells p s).setIfInBounds 5 (.int .i64 k) from by
          simp [dcells, armed]; have := HK.out; omega]
        exact H.out.cells.set 5 _
      · show k.toNat < _
        have := HK.out; have := HT.out; omega
  · rw [if_pos (.inl rfl), if_pos rfl]
    rw [if_pos rfl] at hr
    go_enter Tryz.func13, Tryz.ntmps13
    go_wp2_with fail
    refine hr.mono ?_
    clear hr
    rintro e _ ⟨rfl, rfl⟩
    go_wp2
    go_ret
    exact DPost.same H.out _
theorem Dark_disk {w : World} {p : DP} {s : DS} (h : DiskAt w p s) : Calls Tryz.prog 45 #[.pointer (some ⟨p.db, 0, none⟩)] w fun e w' => e = .returned (.bool s.dark) ∧ w = w' := by
  have hn := isNone_disk h
  have h6 := h.at.2.2.2.2.2.2
  clear h
  go_enter Tryz.func45, Tryz.ntmps45
  go_wp2_with fail
  refine hn.mono ?_
  clear hn
  rintro e _ ⟨rfl, rfl⟩
  go_wp2
  go_ret
  exact ⟨rfl, rfl⟩
theorem Blocks_disk {w : World} {p : DP} {s : DS} (h : DiskAt w p s) : Calls Tryz.prog 102 #[.pointer (some ⟨p.db, 0, none⟩)] w fun e w' => e = .returned (.int .i64 (s.blocks : Int)) ∧ w = w' := by
  have hn := isNone_disk h
  have h6 := h.at.1
  clear h
  go_enter Tryz.func102, Tryz.ntmps102
  go_wp2_with fail
  refine hn.mono ?_
  clear hn
  rintro e _ ⟨rfl, rfl⟩
  go_wp2
  go_ret
  exact ⟨rfl, rfl⟩
def emptied (s : DS) : DS := { s with q := [], young := none' }
theorem emptyQueue_disk {w : World} {p : DP} {s : DS} (h : DiskAt w p s) : Calls Tryz.prog 57 #[.pointer (some ⟨p.db, 0, none⟩)] w fun e w' =>
    e = .returned (.tuple #[]) ∧ DiskAt w' ⟨p.db, p.lb, w.heap.size, none, 0⟩ (emptied s) ∧ Turn w w' (· = p.db) := by
  have hmm := @run_makeMap Tryz.prog
  have f2 := h.cells.frozen 2
  have f3 := h.cells.frozen 3
  have c2 := h.at.2.2.1
  have c3 := h.at.2.2.2.1
  have hlt := h.cells.lt
  have H := hid h
  clear h
  go_enter Tryz.func57, Tryz.ntmps57
  go_wp2
  go_end0
  have hD := H.out
  generalize hw1 : w.setCell ⟨p.db, 3, none⟩ (.slice none 0 0) = w1
  have hs1 : w1.heap.size = w.heap.size := by rw [← hw1]; simp [World.setCell]
  have t1 : Turn w w1 (· = p.db) := by rw [← hw1]; exact turn_set _ _ _ _
  have k1 : Cs w1 p.db 83 ((dcells p s).setIfInBounds 3 (.slice none 0 0)) := by rw [← hw1]; exact hD.cells.set 3 _
  have k2 := k1.set 2 (.map (some w.heap.size))
  have t2 := turn_set w1 p.db 2 (.map (some w.heap.size))
  have hs2 : (w1.setCell ⟨p.db, 2, none⟩ (.map (some w.heap.size))).heap.size = w1.heap.size := by simp [World.setCell]
  generalize w1.setCell ⟨p.db, 2, none⟩ (.map (some w.heap.size)) = w2 at *
  have t3 := Turn.alloc w2 (.map #[] 0) (· = p.db)
  have m3 := MapIs.new w2 s.blocks
  have k3 := k2.alloc (.map #[] 0)
  rw [hs2, hs1] at m3
  generalize w2.alloc (.map #[] 0) = w3 at *
  have tt : Turn w w3 (· = p.db) := (t1.trans t2 (fun _ _ e => e)).trans t3 (fun _ _ e => e)
  refine ⟨rfl, ⟨?_, hD.laid.turn tt (hD.laid.ne_cs hD.cells), m3, ?_, World.ownsRow_nil _ _ _ _, hD.lo, hD.hi, by simp [emptied], hD.stp, hD.lft⟩, tt⟩
  · rw [show dcells ⟨p.db, p.lb, w.heap.size, none, 0⟩ (emptied s) = ((dcells p s).setIfInBounds 3 (.slice none 0 0)).setIfInBounds 2 (.map (some w.heap.size)) from by simp [dcells, emptied]]
    exact k3
  · have := hD.laid.lt
    show p.lb ≠ w.heap.size
    omega
def newAt (w : World) : DP := ⟨w.heap.size + 2, w.heap.size, w.heap.size + 1, none, 0⟩
theorem New_disk (n : Nat) (w : World) (h0 : 64 ≤ n) (h1 : n ≤ 16384) : Calls Tryz.prog 8 #[.int .i64 (n : Int)] w fun e w' => e = .returned (.tuple #[.pointer (some ⟨w.heap.size + 2, 0, none⟩), .int .i64 0]) ∧ DiskAt w' (newAt w) (fresh n) ∧ Below w.heap.size w w' := by
  have hmm := @run_makeMap Tryz.prog
  have h2 : (64 : Int) ≤ n := by omega
  have h3 : (n : Int) ≤ 16384 := by omega
  have H0 := hid h0
  have H1 := hid h1
  clear h0 h1
  go_enter Tryz.func8, Tryz.ntmps8
  go_wp2
  go_ret2
  have m1 := MapIs.new w n
  have hb1 := (Below.refl w.heap.size w).alloc (Nat.le_refl _) (.map #[] 0)
  have e1 : (w.alloc (.map #[] 0)).heap.size = w.heap.size + 1 := by simp
  generalize w.alloc (.map #[] 0) = w1 at *
  have m2 := MapIs.new w1 n
  have hb2 := (Below.refl w1.heap.size w1).alloc (Nat.le_refl _) (.map #[] 0)
  have e2 : (w1.alloc (.map #[] 0)).heap.size = w1.heap.size + 1 := by simp
  generalize w1.alloc (.map #[] 0) = w2 at *
  have hb3 := fun cs => (Below.refl w2.heap.size w2).alloc (Nat.le_refl _) (.cells cs 83)
  have k3 := fun cs => Cs.new w2 83 cs
  rw [e1] at m2 e2
  refine ⟨rfl, ⟨?_, (m1.turn (Turn.of_below hb2 fun _ => False) (fun h => h)).turn (Turn.of_below (hb3 _) fun _ => False) (fun h => h), m2.turn (Turn.of_below (hb3 _) fun _ => False) (fun h => h), ?_, World.ownsRow_nil _ _ _ _, H0.out, H1.out, by simp [fresh], by show (0 : Nat) < _; decide, by show (0 : Nat) < _; decide⟩, ?_⟩
  · have := k3 (dcells (newAt w) (fresh n))
    rw [e2] at this
    exact this
  · show w.heap.size ≠ w.heap.size + 1
    omega
  · exact (hb1.trans (hb2.mono (by omega))).trans ((hb3 _).mono (by omega))
def inB (s : DS) (k : Int) : Bool := decide (0 ≤ k ∧ k < (s.blocks : Int))
def readV (s : DS) (k : Int) : Blk := if s.dark = false ∧ inB s k = true then readN s k else zb
def readE (s : DS) (k : Int) : Int := if s.dark then 9 else if inB s k then 0 else 2
set_option maxHeartbeats 1000000 in
theorem Read_disk {w : World} {p : DP} {s : DS} (h : DiskAt w p s) (k : Int) : Calls Tryz.prog 103 #[.pointer (some ⟨p.db, 0, none⟩), .int .i64 k] w fun e w' =>
    e = .returned (.tuple #[bv (readV s k), .int .i64 (readE s k)]) ∧ Below w.heap.size w w' := by
  have hb := (Below.refl w.heap.size w).alloc (Nat.le_refl _) (.cells (cellsOf zb).toArray 112)
  have H := hid (h.below hb)
  have HB := hid hb
  have hk := hid (Cs.new w 112 (cellsOf zb).toArray)
  have hn := refused_disk H.out
  have hi := isBlock_disk H.out k
  have c1 := H.out.at.2.1
  have c2 := H.out.at.2.2.1
  clear h hb
  cases hd : s.dark
  · rw [hd] at hn
    rw [if_neg (by decide)] at hn
    cases hin : inB s k
    · rw [show decide (0 ≤ k ∧ k < (s.blocks : Int)) = false from hin] at hi
      rw [show readV s k = zb from if_neg (fun h => by rw [hin] at h; cases h.2), show readE s k = 2 from by unfold readE; rw [hd, hin]; rfl]
      clear hin hd
      go_enter Tryz.func103, Tryz.ntmps103
      go_wp2_with (with_reducible refine wpList_alloc_agg rfl 112 rfl (cellsOf zb) zero30 ?_)
      refine hn.mono ?_
      clear hn
      rintro e _ ⟨rfl, rfl⟩
      go_wp2_with fail
      refine hi.mono ?_
      clear hi
      rintro e _ ⟨rfl, rfl⟩
      go_wp2_with (first | (with_reducible refine wpList_plain rfl fun K hK => wp_build_zero rfl (hK _ _ ?_)) | (with_reducible refine wpList_store_agg rfl 112 _ _ rfl _ 0 rfl (cellsOf zb) rfl 112 (cellsOf zb).toArray hk.out (fill_fits zb zb zb_len zb_len) (cellsOf_one _) (info30' _ zb_len) ?_))
      refine bodyPost_ret (v := .tuple #[bv zb, .int .i64 2]) ?_ rfl ⟨rfl, HB.out.grown (grown_row _ _ _) (by simp) (fun j e => by injection e with e; omega)⟩
      exact end_blk (p := 4) (u := 5) rfl _ _ w.heap.size 0 _ _ rfl rfl (At.whole (cs_fill hk.out _ zb_len zb_len)) zb_len
    · have hin' : 0 ≤ k ∧ k < (s.blocks : Int) := of_decide_eq_true hin
      rw [show decide (0 ≤ k ∧ k < (s.blocks : Int)) = true from hin] at hi
      rw [show readV s k = readN s k from if_pos ⟨hd, hin⟩, show readE s k = 0 from by unfold readE; rw [hd, hin]; rfl]
      clear hin hd
      have HI := hid hin'
      have hk16 := hid (show k < 16384 by have := H.out.hi; have := hin'.2; omega)
      clear hin'
      have hly := hid (tell_len H.out.young k HI.out.1 hk16.out)
      have hll := hid (tell_len H.out.laid k HI.out.1 hk16.out).1
      unfold readN
      cases hy : s.young k with
      | none =>
        have hyt := hid (show tell s.young k = zb by unfold tell; rw [hy]; rfl)
        have hyn := hid (show (s.young k).isSome = false by rw [hy]; rfl)
        clear hy
        go_enter Tryz.func103, Tryz.ntmps103
        go_wp2_with (with_reducible refine wpList_alloc_agg rfl 112 rfl (cellsOf zb) zero30 ?_)
        refine hn.mono ?_
        clear hn
        rintro e _ ⟨rfl, rfl⟩
        go_wp2_with fail
        refine hi.mono ?_
        clear hi
        rintro e _ ⟨rfl, rfl⟩
        go_wp2_with (first
          | (at_lookup; refine wpList_look_ok rfl _ _ rfl rfl k rfl H.out.young HI.out.1 hk16.out zb hyt.out false hyn.out ?_)
          | (at_lookup; refine wpList_look rfl _ _ rfl rfl k rfl H3.out.laid HI.out.1 hk16.out _ rfl ?_)
          | (refine wpList_alloc_blk rfl rfl ?_; intro g1 w2 hk2 hb2 hg2; have HB2 := hid (HB.out.trans (hb2.mono HB.out.size)); have hkr2 := hid (hk.out.below hb2 hk.out.lt); have H2 := hid (H.out.below hb2); clear hb2; go_frame)
          | (refine wpList_fill_blk rfl _ _ rfl g1 rfl zb rfl zb_len hk2 ?_; intro w3 hk3 hr3; have HK2 := hid hk2; clear hk2; have hkr := hid (hkr2.out.turn (Turn.of_grown hr3) (fun e => by injection e with e; have := hk.out.lt; omega)); have HB3 := hid (keep_own HB2.out hr3 (by have := HB.out.size; omega)); have H3 := hid (H2.out.turn (Turn.of_grown hr3) (fun k hk e => by injection e with e; have := foot_lt H.out k hk; omega)); clear hr3; have c31 := H3.out.at.2.1; go_frame)
          | (refine wpList_fill_blk rfl _ _ rfl w.heap.size rfl _ rfl hll.out hkr.out ?_; intro w4 hk4 hr4; go_frame))
        refine bodyPost_ret (v := .tuple #[bv (tell s.laid k), .int .i64 0]) ?_ rfl ⟨rfl, keep_own HB3.out hr4 (Nat.le_refl _)⟩
        exact end_blk (p := 4) (u := 5) rfl _ _ w.heap.size 0 _ _ rfl rfl (At.whole hk4) hll.out
      | some l =>
        have hl := hid (hly.out.2 l hy)
        have hyt := hid (show tell s.young k = l by unfold tell; rw [hy]; rfl)
        have hyn := hid (show (s.young k).isSome = true by rw [hy]; rfl)
        clear hy
        go_enter Tryz.func103, Tryz.ntmps103
        go_wp2_with (with_reducible refine wpList_alloc_agg rfl 112 rfl (cellsOf zb) zero30 ?_)
        refine hn.mono ?_
        clear hn
        rintro e _ ⟨rfl, rfl⟩
        go_wp2_with fail
        refine hi.mono ?_
        clear hi
        rintro e _ ⟨rfl, rfl⟩
        go_wp2_with (first
          | (at_lookup; refine wpList_look_ok rfl _ _ rfl rfl k rfl H.out.young HI.out.1 hk16.out l hyt.out true hyn.out ?_)
          | (refine wpList_alloc_blk rfl rfl ?_; intro g1 w2 hk2 hb2 hg2; have HB2 := hid (HB.out.trans (hb2.mono HB.out.size)); have hkr2 := hid (hk.out.below hb2 hk.out.lt); clear hb2; go_frame)
          | (refine wpList_fill_blk rfl _ _ rfl g1 rfl l rfl hl.out hk2 ?_; intro w3 hk3 hr3; have HK2 := hid hk2; clear hk2; have hkr := hid (hkr2.out.turn (Turn.of_grown hr3) (fun e => by injection e with e; have := hk.out.lt; omega)); have HB3 := hid (keep_own HB2.out hr3 (by have := HB.out.size; omega)); clear hr3; go_frame)
          | (refine wpList_load_blk rfl _ rfl g1 0 rfl l hl.out (At.whole hk3) ?_; go_frame)
          | (refine wpList_fill_blk rfl _ _ rfl w.heap.size rfl l rfl hl.out hkr.out ?_; intro w4 hk4 hr4; go_frame))
        refine bodyPost_ret (v := .tuple #[bv l, .int .i64 0]) ?_ rfl ⟨rfl, keep_own HB3.out hr4 (Nat.le_refl _)⟩
        exact end_blk (p := 4) (u := 5) rfl _ _ w.heap.size 0 _ _ rfl rfl (At.whole hk4) hl.out
  · rw [hd] at hn
    rw [if_pos rfl] at hn
    rw [show readV s k = zb from if_neg (fun h => by rw [hd] at h; cases h.1), show readE s k = 9 from by unfold readE; rw [hd]; rfl]
    clear hd hi
    go_enter Tryz.func103, Tryz.ntmps103
    go_wp2_with (with_reducible refine wpList_alloc_agg rfl 112 rfl (cellsOf zb) zero30 ?_)
    refine hn.mono ?_
    clear hn
    rintro e _ ⟨rfl, rfl⟩
    go_wp2_with (first | (with_reducible refine wpList_build_zero rfl rfl ?_) | (with_reducible refine wpList_store_agg rfl 112 _ _ rfl _ 0 rfl (cellsOf zb) rfl 112 (cellsOf zb).toArray hk.out (fill_fits zb zb zb_len zb_len) (cellsOf_one _) (info30' _ zb_len) ?_))
    refine bodyPost_ret (v := .tuple #[bv zb, .int .i64 9]) ?_ rfl ⟨rfl, HB.out.grown (grown_row _ _ _) (by simp) (fun j e => by injection e with e; omega)⟩
    exact end_blk (p := 4) (u := 5) rfl _ _ w.heap.size 0 _ _ rfl rfl (At.whole (cs_fill hk.out _ zb_len zb_len)) zb_len
end Go.Proofs.YtfgbpinfplllgaaGreatDoor
namespace Go.Proofs.YtfgbpinfplllgaaGreatDoor
open Go.RowKit Go.Shelf Go.Maps
set_option maxRecDepth 100000
section
variable {w : World} {ops : Array Oper} {rest : List Oper} {o : Oper} {a : Act} {Q : Exit → Act → World → Prop} {K : Act → World → Prop}
end
theorem i64_and1 (n : Int) : bits .and .i64 n 1 = n % 2 := by
  have h1 : (BitVec.ofInt 64 1).toNat = 2 ^ 1 - 1 := by decide
  have key : (BitVec.ofInt 64 n &&& BitVec.ofInt 64 1).toNat = (n % ((2 ^ 64 : Nat) : Int)).toNat % 2 ^ 1 := by
    rw [BitVec.toNat_and, BitVec.toNat_ofInt, h1, Nat.and_two_pow_sub_one_eq_mod]
  show IntKind.i64.wrap ((BitVec.ofInt 64 n &&& BitVec.ofInt 64 1).toNat : Nat) = n % 2
  rw [key, IntKind.wrap_i64]
  omega
theorem bit_walk (x : Int) (c : Bool) (h : decide (x % 2 = 1) = c) : (bits .and .i64 x 1 == 1) = c := by
  rw [i64_and1, ← h]
  by_cases e : x % 2 = 1 <;> simp [e]
def TornI (w : World) (g3 g4 g6 : Nat) (was b : Blk) (bs : Int) (k : Nat) (wr : World) : Prop :=
  Cs wr g3 112 (cellsOf (tornTo was b bs k)).toArray ∧ Cs wr g4 112 (cellsOf b).toArray ∧ Cs wr g6 112 (cellsOf zb).toArray ∧ Below w.heap.size w wr
theorem tornI_off {w wr : World} {g3 g4 g6 : Nat} {was b : Blk} {bs : Int} {k : Nat} (h : TornI w g3 g4 g6 was b bs k wr) (hk : bitAt bs k = false) : TornI w g3 g4 g6 was b bs (k + 1) wr := by
  unfold TornI at *
  rw [tornTo_succ, hk, if_neg (by decide)]
  exact h
theorem tornI_on {w wr : World} {g3 g4 g6 : Nat} {was b : Blk} {bs : Int} {k f : Nat} (h : TornI w g3 g4 g6 was b bs k wr) (hk : bitAt bs k = true) (hf : f = 16 * k) (hk4 : k < 4) (hb : b.length = 64) (n34 : g3 ≠ g4) (n36 : g3 ≠ g6) (hg : w.heap.size ≤ g3) :
    TornI w g3 g4 g6 was b bs (k + 1) (wr.drew.setRow g3 (over (cellsOf (tornTo was b bs k)).toArray f (cellsOf ((b.drop f).take 16)))) := by
  subst hf
  obtain ⟨h1, h2, h3, h4⟩ := h
  have hgr := grown_row wr.drew g3 (over (cellsOf (tornTo was b bs k)).toArray (16 * k) (cellsOf ((b.drop (16 * k)).take 16)))
  have ht := Turn.of_grown hgr
  refine ⟨?_, Cs.turn (Cs.drew h2) ht (fun e => n34 (by injection e)), Cs.turn (Cs.drew h3) ht (fun e => n36 (by injection e)), keep_own h4.drew hgr hg⟩
  have := (Cs.drew h1).row (over (cellsOf (tornTo was b bs k)).toArray (16 * k) (cellsOf ((b.drop (16 * k)).take 16)))
  have e : ((b.drop (16 * k)).take 16).length = 16 := by simp; omega
  rw [tornTo_succ, hk, if_pos rfl]
  rw [over_cells, e] at this ⊢
  exact this
set_option maxHeartbeats 4000000 in
theorem torn_any (was b : Blk) (bs : Int) (w : World) (hw : was.length = 64) (hb : b.length = 64) (h0 : -9223372036854775808 ≤ bs) (h1 : bs ≤ 9223372036854775807) :
    Calls Tryz.prog 56 #[bv was, bv b, .int .i64 bs] w fun e w' => e = .returned (bv (torn was b bs)) ∧ Below w.heap.size w w' := by
  have HW := hid hw
  have HB := hid hb
  have hlen := hid (tornTo_len was b bs hw hb)
  clear hw hb
  go_enter Tryz.func56, Tryz.ntmps56
  go_wp2_with (first
    | (refine wpList_box_blk rfl (.tmp 0) rfl was rfl ?_; intro g3 w1 hk3 hb3 hg3; go_frame; have K3 := hid hk3; have B3 := hid hb3; have G3 := hid hg3; clear hk3 hb3 hg3)
    | (refine wpList_box_blk rfl (.tmp 1) rfl b rfl ?_; intro g4 w2 hk4 hb4 hg4; go_frame; have K4 := hid hk4; have B4 := hid hb4; have G4 := hid hg4; clear hk4 hb4 hg4)
    | (refine wpList_alloc_blk rfl rfl ?_; intro g6 w3 hk6 hb6 hg6; go_frame; have K6 := hid hk6; have B6 := hid hb6; have G6 := hid hg6; clear hk6 hb6 hg6))
  have hI0 : TornI w g3 g4 g6 was b bs 0 w3 := ⟨(K3.out.below B4.out K3.out.lt).below B6.out (K3.out.below B4.out K3.out.lt).lt, K4.out.below B6.out K4.out.lt, K6.out, below_chain (below_chain B3.out B4.out) B6.out⟩
  have n34 := hid (show g3 ≠ g4 by have := K3.out.lt; have := G4.out; omega)
  have n36 := hid (show g3 ≠ g6 by have := (K3.out.below B4.out K3.out.lt).lt; have := G6.out; omega)
  have G6' := hid (show w.heap.size ≤ g6 by have := B3.out.size; have := B4.out.size; have := G6.out; omega)
  have G3' := hid G3.out
  clear K3 B3 G3 K4 B4 G4 K6 B6 G6
  have HI0 := hid hI0
  clear hI0
  go_loopw [10] (fun c wr => ∃ k : Nat, k ≤ 4 ∧ c = .int .i64 k ∧ TornI w g3 g4 g6 was b bs k wr) (fun c _ => 4 - (intOf c).toNat)
  case atStart => exact ⟨0, by decide, rfl, HI0.out⟩
  case round =>
    obtain ⟨k, hk, rfl, hI⟩ := hrel
    have HI := hid hI
    clear hI HI0
    by_cases hk4 : k < 4
    · rcases (show k = 0 ∨ k = 1 ∨ k = 2 ∨ k = 3 by omega) with rfl | rfl | rfl | rfl
      · cases hbt : bitAt bs 0
        · have hbw := bit_walk bs false (by rw [← hbt]; unfold bitAt; simp)
          have HT := hid hbt
          clear hbt
          go_wp2
          go_roundw
          case rel => exact ⟨1, by decide, rfl, tornI_off HI.out HT.out⟩
          case measure => simp [intOf]
        · have hbw := bit_walk bs true (by rw [← hbt]; unfold bitAt; simp)
          have HT := hid hbt
          clear hbt
          go_wp2
          go_region_law (refine step_wp rfl (wp_copy_cells (.tmp 25) (.tmp 28) rfl g3 0 16 64 g4 0 64 (by simp [Act.eval, Act.put]) (by simp [Act.eval, Act.put]) 112 _ _ (Cs.drew HI.out.1) (At.part (Cs.drew HI.out.2.1) 0 16) (part_len b HB.out 0 (by decide)) (by simp [cellsOf_length, hlen.out]) (cellsOf_one _) ?_))
          go_wp2
          go_roundw
          case rel => exact ⟨1, by decide, rfl, tornI_on HI.out HT.out rfl (by decide) HB.out n34.out n36.out G3'.out⟩
          case measure => simp [intOf]
      · cases hbt : bitAt bs 1
        · have hbw := bit_walk (bs / 2) false (by exact hbt)
          have HT := hid hbt
          clear hbt
          go_wp2
          go_roundw
          case rel => exact ⟨2, by decide, rfl, tornI_off HI.out HT.out⟩
          case measure => simp [intOf]
        · have hbw := bit_walk (bs / 2) true (by exact hbt)
          have HT := hid hbt
          clear hbt
          go_wp2
          go_region_law (refine step_wp rfl (wp_copy_cells (.tmp 25) (.tmp 28) rfl g3 16 16 48 g4 16 48 (by simp [Act.eval, Act.put]) (by simp [Act.eval, Act.put]) 112 _ _ (Cs.drew HI.out.1) (At.part (Cs.drew HI.out.2.1) 16 16) (part_len b HB.out 16 (by decide)) (by simp [cellsOf_length, hlen.out]) (cellsOf_one _) ?_))
          go_wp2
          go_roundw
          case rel => exact ⟨2, by decide, rfl, tornI_on HI.out HT.out rfl (by decide) HB.out n34.out n36.out G3'.out⟩
          case measure => simp [intOf]
      · cases hbt : bitAt bs 2
        · have hbw := bit_walk (bs / 4) false (by exact hbt)
          have HT := hid hbt
          clear hbt
          go_wp2
          go_roundw
          case rel => exact ⟨3, by decide, rfl, tornI_off HI.out HT.out⟩
          case measure => simp [intOf]
        · have hbw := bit_walk (bs / 4) true (by exact hbt)
          have HT := hid hbt
          clear hbt
          go_wp2
          go_region_law (refine step_wp rfl (wp_copy_cells (.tmp 25) (.tmp 28) rfl g3 32 16 32 g4 32 32 (by simp [Act.eval, Act.put]) (by simp [Act.eval, Act.put]) 112 _ _ (Cs.drew HI.out.1) (At.part (Cs.drew HI.out.2.1) 32 16) (part_len b HB.out 32 (by decide)) (by simp [cellsOf_length, hlen.out]) (cellsOf_one _) ?_))
          go_wp2
          go_roundw
          case rel => exact ⟨3, by decide, rfl, tornI_on HI.out HT.out rfl (by decide) HB.out n34.out n36.out G3'.out⟩
          case measure => simp [intOf]
      · cases hbt : bitAt bs 3
        · have hbw := bit_walk (bs / 8) false (by exact hbt)
          have HT := hid hbt
          clear hbt
          go_wp2
          go_roundw
          case rel => exact ⟨4, by decide, rfl, tornI_off HI.out HT.out⟩
          case measure => simp [intOf]
        · have hbw := bit_walk (bs / 8) true (by exact hbt)
          have HT := hid hbt
          clear hbt
          go_wp2
          go_region_law (refine step_wp rfl (wp_copy_cells (.tmp 25) (.tmp 28) rfl g3 48 16 16 g4 48 16 (by simp [Act.eval, Act.put]) (by simp [Act.eval, Act.put]) 112 _ _ (Cs.drew HI.out.1) (At.part (Cs.drew HI.out.2.1) 48 16) (part_len b HB.out 48 (by decide)) (by simp [cellsOf_length, hlen.out]) (cellsOf_one _) ?_))
          go_wp2
          go_roundw
          case rel => exact ⟨4, by decide, rfl, tornI_on HI.out HT.out rfl (by decide) HB.out n34.out n36.out G3'.out⟩
          case measure => simp [intOf]
    · obtain rfl : k = 4 := by omega
      have K3 := hid HI.out.1
      go_wp2_with (first
        | (refine wpList_load_blk rfl _ rfl g3 0 rfl (torn was b bs) (torn_len was b bs HW.out HB.out) (At.whole K3.out) ?_; go_frame)
        | (refine wpList_fill_blk rfl _ _ rfl g6 rfl (torn was b bs) rfl (torn_len was b bs HW.out HB.out) HI.out.2.2.1 ?_; intro w5 hk5 hr5; go_frame))
      refine bodyPost_ret (v := bv (torn was b bs)) ?_ rfl ⟨rfl, keep_own HI.out.2.2.2 hr5 G6'.out⟩
      exact end_blk1 (p := 6) rfl _ _ g6 0 _ rfl (At.whole hk5) (torn_len was b bs HW.out HB.out)
end Go.Proofs.YtfgbpinfplllgaaGreatDoor
namespace Go.Proofs.YtfgbpinfplllgaaGreatDoor
open Go.RowKit Go.Shelf Go.Maps
set_option maxRecDepth 100000
def fb (c : UInt8) : Blk := List.replicate 64 c
section
variable {w : World} {ops : Array Oper} {rest : List Oper} {o : Oper} {a : Act} {Q : Exit → Act → World → Prop} {K : Act → World → Prop}
end
end Go.Proofs.YtfgbpinfplllgaaGreatDoor
namespace Go.Proofs.YtfgbpinfplllgaaGreatDoor
open Go.RowKit Go.Shelf Go.Maps
set_option maxRecDepth 100000
section
variable {P : Program} {w : World} {ops : Array Oper} {rest : List Oper} {o : Oper} {a : Act} {Q : Exit → Act → World → Prop} {K : Act → World → Prop} {v : Value}
theorem wpStill_of_run {Q : Act → Prop} (hg : o.guard = none) (h : (execOp a.eval o).run P w = .ok (.value v) w) (hK : wpStill P ops w Q rest (a.put o.dst v)) : wpStill P ops w Q (o :: rest) a := by
  unfold wpStill
  rw [if_pos (by simp [Region.wanted, hg])]
  unfold Oper.still
  rw [h, Oper.stillUpon_value]
  exact hK
theorem region_tail {id : Nat} {l : List Oper} (n : Nat) (hm : P.follows .mixedOrders = true) (hB : Region.lexTailB .any l.toArray n = true)
    (h : ∀ w2, w2 = w.drew → wpStill P l.toArray w2 (fun a' => wpList P l.toArray Q (l.drop n) a' w2) (l.take n) a) : (Code.region id l.toArray true).wp P Q a w := wp_region_still_tail n hm hB (h _ rfl)
end
def wcells (x : Int × Blk) : List Value := .int .i64 x.1 :: cellsOf x.2
theorem wcells_len (x : Int × Blk) (h : x.2.length = 64) : (wcells x).length = 65 := by simp [wcells, cellsOf_length, h]
theorem wcells_one (x : Int × Blk) : ∀ v ∈ wcells x, v.oneCell' = true := by
  intro v hv
  rcases List.mem_cons.1 hv with rfl | hv
  · rfl
  · exact cellsOf_one _ v hv
theorem qcells_snoc (q : List (Int × Blk)) (x : Int × Blk) : qcells (q ++ [x]) = qcells q ++ wcells x := by simp [qcells, wcells]
theorem qcells_at (q : List (Int × Blk)) (h : ∀ x ∈ q, x.2.length = 64) (i : Nat) (hi : i < q.length) (j : Nat) (hj : j < 65) : (qcells q)[i * 65 + j]? = (wcells q[i])[j]? := by
  induction q generalizing i with
  | nil => simp at hi
  | cons x q ih =>
    have hx : (wcells x).length = 65 := wcells_len x (h x (by simp))
    have e : qcells (x :: q) = wcells x ++ qcells q := by simp [qcells, wcells]
    rw [e]
    cases i with
    | zero => rw [List.getElem?_append_left (by omega)]; simp
    | succ i =>
      rw [List.getElem?_append_right (by omega), hx, show (i + 1) * 65 + j - 65 = i * 65 + j by omega, ih (fun y hy => h y (by simp [hy])) i (by simpa using hi)]
      simp
def wz : Value := .agg (wcells (0, zb)).toArray
theorem zero53 (w : World) : (zeroValue 114).run Tryz.prog w = .ok wz w := by kernel_rfl
theorem info53 : (Tryz.prog.info? 114).map (fun i => (i.zero, i.size, i.bytes)) = some (some wz, 65, 72) := by kernel_rfl
theorem info53s (x : Int × Blk) (h : x.2.length = 64) : (Tryz.prog.info? 114).map (·.size) = some (wcells x).length := by rw [wcells_len x h]; kernel_rfl
theorem fold_zip (cs : List Value) (arr : Array Value) (off : Nat) (h : off + cs.length ≤ arr.size) :
    cs.toArray.zipIdx.foldl (fun (x : Array Value) (y : Value × Nat) => x.setIfInBounds (off + y.2) y.1) arr = over arr off cs := by
  have := fold_set cs arr off 0 (by omega)
  rw [Nat.add_zero] at this
  rw [← this]
  simp
theorem fill_cons (place : Nat → Option (Nat × Nat)) (cells : Array Value) (i off size : Nat) (cs : List Value) (v : Value) (rest : List (Nat × Value)) (hv : v.cells = cs.toArray) (hp : place i = some (off, size)) (hs : cs.length = size) (hf : off + size ≤ cells.size) :
    Instr.fill place cells ((i, v) :: rest) = Instr.fill place (over cells off cs) rest := by
  rw [Instr.fill]
  simp only [hp, hv]
  rw [if_neg (by simp [hs]; omega), fold_zip cs cells off (by omega)]
theorem run_build_write (n : Int) (l : Blk) (hl : l.length = 64) (w : World) : (Instr.build 114 #[(0, .int .i64 n), (1, bv l)]).run Tryz.prog w = .ok (.agg (wcells (n, l)).toArray) w := by
  have hz := zero53
  have hs := Tryz.sizeOf3
  have hs2 := Tryz.sizeOf112
  have hlen : (cellsOf l).length = 64 := by rw [cellsOf_length, hl]
  have hz64 : (cellsOf zb).length = 64 := by rw [cellsOf_length]; exact zb_len
  have e1 : over wz.cells 0 [.int .i64 n] = (Value.int .i64 n :: cellsOf zb).toArray := by
    show over (wcells (0, zb)).toArray 0 [.int .i64 n] = _
    unfold over wcells
    simp
  have e2 : over (Value.int .i64 n :: cellsOf zb).toArray 1 (cellsOf l) = (wcells (n, l)).toArray := by
    unfold over wcells
    rw [hlen]
    simp [hz64]
  have hm : (Array.mapM (fun f => do let s ← sizeOf f.type; pure (f.offset, s)) (#[{ name := "n", type := 3, offset := 0, embedded := false, tag := "", pkgPath := "wharfage/disk", byteOffset := 0 }, { name := "block", type := 112, offset := 1, embedded := false, tag := "", pkgPath := "wharfage/disk", byteOffset := 8 }] : Array Field) : Sem (Array (Nat × Nat))).run Tryz.prog w = .ok #[(0, 1), (1, 64)] w := by kernel_rfl
  have hfill : Instr.fill (fun x => (#[(0, 1), (1, 64)] : Array (Nat × Nat))[x]?) wz.cells [(0, .int .i64 n), (1, bv l)] = some (wcells (n, l)).toArray := by
    rw [fill_cons _ _ 0 0 1 [.int .i64 n] _ _ rfl rfl rfl (by show 0 + 1 ≤ (wcells (0, zb)).toArray.size; rw [List.size_toArray, wcells_len _ zb_len]; decide), e1,
      fill_cons _ _ 1 1 64 (cellsOf l) _ _ rfl rfl hlen (by simp [hz64]), e2]
    rfl
  simp only [Instr.build, hz, Sem.run_bind, Result.andThen_ok, run_underlying Tryz.underlying114, hm, hfill]
  rfl
theorem run_buildSlice_write (x : Int × Blk) (hx : x.2.length = 64) (w : World) : (Instr.buildSlice 81 1 #[(0, .agg (wcells x).toArray)]).run Tryz.prog w = .ok (.slice (some ⟨w.heap.size, 0, none⟩) 1 1) (w.alloc (.cells (wcells x).toArray 114)) := by
  have hz := zero53
  have hs := Tryz.sizeOf114
  have hlen := wcells_len x hx
  have hsz : (wcells x).toArray.size = 65 := by simpa using hlen
  have hcur : ((Array.range (1 * 65)).map (wz.cells[· % wz.cells.size]!)).size = 65 := by simp
  have hf := fold_zip (wcells x) ((Array.range (1 * 65)).map (wz.cells[· % wz.cells.size]!)) (0 * 65) (by rw [hcur, hlen]; decide)
  rw [over_whole _ _ (by rw [hcur, hlen])] at hf
  have hfill : Instr.fill (fun i => some (i * 65, 65)) ((Array.range (1 * 65)).map (wz.cells[· % wz.cells.size]!)) [(0, .agg (wcells x).toArray)] = some (wcells x).toArray := by
    show (if (((wcells x).toArray.size ≠ 65 : Bool) || (0 * 65 + (wcells x).toArray.size > ((Array.range (1 * 65)).map (wz.cells[· % wz.cells.size]!)).size : Bool)) = true then none else
      some ((wcells x).toArray.zipIdx.foldl (fun (x : Array Value) (y : Value × Nat) => x.setIfInBounds (0 * 65 + y.2) y.1) ((Array.range (1 * 65)).map (wz.cells[· % wz.cells.size]!)))) = _
    rw [if_neg (by rw [hsz, hcur]; decide), hf]
  simp only [Instr.buildSlice, Sem.run_bind, Result.andThen_ok, run_underlying Tryz.underlying81, hs]
  rw [if_neg (by decide), if_neg (by decide)]
  simp only [Sem.run_bind, hz, Sem.run_pure, Result.andThen_ok, hfill, newRow, run_newObj]
  rfl
section
variable {w : World} {ops : Array Oper} {rest : List Oper} {o : Oper} {a : Act} {Q : Exit → Act → World → Prop} {K : Act → World → Prop}
theorem exec_build_write (x y : Operand) (ho : o.op = .build 114 #[(0, x), (1, y)]) (n : Int) (hx : a.eval x = .int .i64 n) (l : Blk) (hl : l.length = 64) (hy : a.eval y = bv l) : (execOp a.eval o).run Tryz.prog w = .ok (.value (.agg (wcells (n, l)).toArray)) w := by
  unfold execOp
  simp only [ho, hx, hy, List.map_toArray, List.map_cons, List.map_nil, run_build_write n l hl, Sem.run_bind, Sem.run_pure, Result.andThen_ok]
theorem wp_buildSlice_write (x : Operand) (ho : o.op = .buildSlice 81 1 #[(0, x)]) (y : Int × Blk) (hl : y.2.length = 64) (hx : a.eval x = .agg (wcells y).toArray)
    (hK : K (a.put o.dst (.slice (some ⟨w.heap.size, 0, none⟩) 1 1)) (w.alloc (.cells (wcells y).toArray 114))) : o.wp Tryz.prog a w K Q := by
  unfold Oper.wp execOp
  simp only [ho, hx, List.map_toArray, List.map_cons, List.map_nil, run_buildSlice_write y hl, Sem.run_bind, Sem.run_pure, Result.andThen_ok]
  exact hK
theorem ownsRow_form {w : World} {base n size : Nat} {e : TypeId} {v : Value} {xs : List Value} (h : w.ownsRow base e size v n xs) (hn : 1 ≤ n) : ∃ g cap, v = .slice (some ⟨g, 0, none⟩) n cap := by
  rcases h.2 with ⟨_, h0⟩ | ⟨g, cap, cur, hv, _⟩
  · omega
  · exact ⟨g, cap, hv⟩
theorem wp_append_write (s x : Operand) (ho : o.op = .call { callee := .builtin .append, args := #[s, x], argTypes := #[81, 81] }) (A : Option Addr) (cap : Nat) (q : List (Int × Blk)) (hs : a.eval s = .slice A q.length cap)
    (hown : w.ownsRow 0 114 65 (.slice A q.length cap) q.length (qcells q)) (y : Int × Blk) (hl : y.2.length = 64) (g : Nat) (hx : a.eval x = .slice (some ⟨g, 0, none⟩) 1 1) (hc : Cs w g 114 (wcells y).toArray) (hq : q.length < 1099511627776)
    (hK : ∀ g' cap' w', w'.ownsRow 0 114 65 (.slice (some ⟨g', 0, none⟩) (q.length + 1) cap') (q.length + 1) (qcells (q ++ [y])) → w.grownBy w' (Value.slice A q.length cap).ownBlock →
      (some g' = (Value.slice A q.length cap).ownBlock ∨ g' = w.heap.size) → K (a.put o.dst (.slice (some ⟨g', 0, none⟩) (q.length + 1) cap')) w') : o.wp Tryz.prog a w K Q := by
  obtain ⟨i0, hi, hz0, hz1, hz2⟩ := info_parts info53
  obtain ⟨v', w', hr, h2, h3, h4, h5⟩ := run_append_own_at (P := Tryz.prog) w 0 81 o.type 114 i0 wz 65 72 Tryz.underlying81 hi hz0 hz1 hz2 (by show (wcells (0, zb)).toArray.size = 65; rw [List.size_toArray, wcells_len _ zb_len]) (by decide) (.slice A q.length cap) q.length (qcells q) hown
    ⟨g, 0, none⟩ 1 1 (wcells y) (by rw [wcells_len y hl]) (fun j u hu => by rw [addr_add, Nat.zero_add]; exact hc.cell j (by simpa using hu)) (wcells_one y) (by unfold maxLen; omega) (by omega) (Nat.zero_le _)
  obtain ⟨g', cap', rfl⟩ := ownsRow_form h2 (by omega)
  rw [← qcells_snoc] at h2
  unfold Oper.wp execOp
  simp only [ho, resolve, invoke, builtin, Sem.run_bind, Sem.run_pure, Result.andThen_ok, List.map_toArray, List.map_cons, List.map_nil, hs, hx, hr]
  refine hK g' cap' w' h2 h3 ?_
  rcases h5 with h5 | h5
  · exact .inl h5
  · exact .inr (by simpa [Value.ownBlock] using h5)
end
end Go.Proofs.YtfgbpinfplllgaaGreatDoor
namespace Go.Proofs.YtfgbpinfplllgaaGreatDoor
open Go.RowKit Go.Shelf Go.Maps
set_option maxRecDepth 100000
theorem write_mid {W w4 : World} {p : DP} {s : DS} {n : Int} {l : Blk} {g cap : Nat} (h : DiskAt W p s) (hg : W.grownBy w4 (Value.slice p.A s.q.length p.cap).ownBlock) :
    Cs w4 p.db 83 (dcells p s) := by
  refine h.cells.turn (Turn.of_grown hg) (fun e => ?_)
  exact ownsRow_ne h.q h.cells (by decide) e
theorem write_mid2 {W w4 w5 : World} {p : DP} {s : DS} {g cap : Nat} (h : DiskAt W p s) (hg : W.grownBy w4 (Value.slice p.A s.q.length p.cap).ownBlock)
    (hw5 : w5 = (w4.setCell ⟨p.db, 3, none⟩ (.slice (some ⟨g, 0, none⟩) (s.q.length + 1) cap)).drew) :
    Cs w5 p.db 83 ((dcells p s).setIfInBounds 3 (.slice (some ⟨g, 0, none⟩) (s.q.length + 1) cap)) ∧ MapIs w5 p.lb s.blocks s.laid ∧ MapIs w5 p.yb s.blocks s.young ∧ Turn W w5 (foot p) := by
  have h4 := write_mid (n := 0) (l := []) (g := 0) (cap := 0) h hg
  have t4 := Turn.of_grown hg
  have t5 : Turn w4 w5 (· = p.db) := by rw [hw5]; exact (turn_set w4 p.db 3 _).trans (Turn.drew _ fun _ => False) (fun _ _ e => e.elim)
  have l4 := h.laid.turn t4 (fun e => ownsRow_ne_map h.q h.laid e)
  have y4 := h.young.turn t4 (fun e => ownsRow_ne_map h.q h.young e)
  refine ⟨?_, l4.turn t5 (h.laid.ne_cs h.cells), y4.turn t5 (h.young.ne_cs h.cells), (t4.mono (G := foot p) (fun i _ e => .inr (.inr (.inr (by rw [ownBlock_slice p.A 0 0 s.q.length p.cap]; exact e))))).trans t5 (fun i _ e => .inl e)⟩
  rw [hw5]
  exact (h4.set 3 _).drew
theorem write_end {W w4 w5 w6 : World} {p : DP} {s : DS} {n : Int} {l : Blk} {g cap : Nat} (h : DiskAt W p s) (hn : 0 ≤ n ∧ n < (s.blocks : Int)) (hl : l.length = 64)
    (hown : w4.ownsRow 0 114 65 (.slice (some ⟨g, 0, none⟩) (s.q.length + 1) cap) (s.q.length + 1) (qcells (s.q ++ [(n, l)]))) (hg : W.grownBy w4 (Value.slice p.A s.q.length p.cap).ownBlock)
    (hloc : some g = (Value.slice p.A s.q.length p.cap).ownBlock ∨ g = W.heap.size) (hw5 : w5 = (w4.setCell ⟨p.db, 3, none⟩ (.slice (some ⟨g, 0, none⟩) (s.q.length + 1) cap)).drew)
    (hm : MapIs w6 p.yb s.blocks (upd s.young n l)) (hgm : w5.grownBy w6 (some p.yb)) :
    DiskAt w6 ⟨p.db, p.lb, p.yb, some ⟨g, 0, none⟩, cap⟩ { s with q := s.q ++ [(n, l)], young := upd s.young n l } ∧ Turn W w6 (foot p) ∧ (∀ k, foot ⟨p.db, p.lb, p.yb, some ⟨g, 0, none⟩, cap⟩ k → foot p k ∨ W.heap.size ≤ k) := by
  obtain ⟨c5, l5, y5, t5⟩ := write_mid2 h hg hw5
  have t6 := Turn.of_grown hgm
  have h4 := write_mid (n := 0) (l := []) (g := 0) (cap := 0) h hg
  have o5 : w5.ownsRow 0 114 65 (.slice (some ⟨g, 0, none⟩) (s.q.length + 1) cap) (s.q.length + 1) (qcells (s.q ++ [(n, l)])) := by
    have t45 : Turn w4 w5 (· = p.db) := by rw [hw5]; exact (turn_set w4 p.db 3 _).trans (Turn.drew _ fun _ => False) (fun _ _ e => e.elim)
    exact ownsRow_turn hown t45 (fun k hk e => by subst e; exact ownsRow_ne hown h4 (by decide) hk)
  have hlen : (s.q ++ [(n, l)]).length = s.q.length + 1 := by simp
  refine ⟨⟨?_, ?_, hm, h.ne, ?_, h.lo, h.hi, ?_, h.stp, h.lft⟩, t5.trans t6 (fun i _ e => .inr (.inr (.inl (by injection e with e; exact e.symm)))), ?_⟩
  · have := c5.turn t6 (fun e => by injection e with e; exact h.young.ne_cs h.cells e)
    rw [show dcells ⟨p.db, p.lb, p.yb, some ⟨g, 0, none⟩, cap⟩ { s with q := s.q ++ [(n, l)], young := upd s.young n l } = (dcells p s).setIfInBounds 3 (.slice (some ⟨g, 0, none⟩) (s.q.length + 1) cap) from by simp [dcells]]
    exact this
  · exact l5.turn t6 (fun e => by injection e with e; exact h.ne e.symm)
  · show w6.ownsRow 0 114 65 (.slice (some ⟨g, 0, none⟩) (s.q ++ [(n, l)]).length cap) (s.q ++ [(n, l)]).length (qcells (s.q ++ [(n, l)]))
    rw [hlen]
    exact ownsRow_turn o5 t6 (fun k hk e => by injection e with e; subst e; exact ownsRow_ne_map o5 y5 hk)
  · intro x hx
    rcases List.mem_append.1 hx with hx | hx
    · exact h.wfq x hx
    · rw [List.mem_singleton.1 hx]
      exact ⟨hn.1, hn.2, hl⟩
  · rintro k (hk | hk | hk | hk)
    · exact .inl (.inl hk)
    · exact .inl (.inr (.inl hk))
    · exact .inl (.inr (.inr (.inl hk)))
    · simp only [Value.ownBlock, Option.some.injEq] at hk
      subst hk
      rcases hloc with hloc | hloc
      · exact .inl (.inr (.inr (.inr (by rw [ownBlock_slice p.A 0 0 s.q.length p.cap, ← hloc]))))
      · exact .inr (by omega)
def writeS (s : DS) (n : Int) (l : Blk) : DS := if s.dark = true then s else if inB s n = true then (if s.left = 1 then gone s else wrote s n l) else s
def writeE (s : DS) (n : Int) : Int := if s.dark = true then 9 else if inB s n = true then (if s.left = 1 then 9 else 0) else 2
theorem DPost.below {w W : World} {p : DP} {s' : DS} (hb : Below w.heap.size w W) {v : Value} {e : Ending} {w' : World} (h : DPost W p s' v e w') : DPost w p s' v e w' := by
  obtain ⟨he, p', hd, hdb, ht, hf⟩ := h
  refine ⟨he, p', hd, hdb, (Turn.of_below hb (foot p)).trans ht (fun _ _ h => h), fun k hk => ?_⟩
  rcases hf k hk with h | h
  · exact .inl h
  · exact .inr (Nat.le_trans hb.size h)
theorem DPost.of {W0 W W3 w6 : World} {p p' : DP} {s' s'' : DS} {v : Value} (hF : s' = s'') (hT : Turn W0 W (· = p.db)) (hB : Below W.heap.size W W3) (hE : DiskAt w6 p' s'' ∧ Turn W3 w6 (foot p) ∧ (∀ k, foot p' k → foot p k ∨ W3.heap.size ≤ k)) (hdb : p'.db = p.db := by rfl) :
    DPost W0 p s' v (.returned v) w6 := by
  subst hF
  obtain ⟨h1, h2, h3⟩ := hE
  refine ⟨rfl, p', h1, hdb, ((hT.mono (G := foot p) (fun i _ e => .inl e)).trans (Turn.of_below hB (foot p)) (fun _ _ h => h)).trans h2 (fun _ _ h => h), fun k hk => ?_⟩
  rcases h3 k hk with h | h
  · exact .inl h
  · exact .inr (Nat.le_trans hT.size (Nat.le_trans hB.size h))
set_option maxHeartbeats 4000000 in
theorem Write_ok {w : World} {p : DP} {s0 : DS} (h : DiskAt w p s0) (n : Int) (l : Blk) (hl : l.length = 64) (hs : s0.steps + 1 < 4611686018427387904) (hq : s0.q.length < 1099511627776) (hd : s0.dark = false) (hn : inB s0 n = true) (h1 : s0.left ≠ 1) :
    Calls Tryz.prog 107 #[.pointer (some ⟨p.db, 0, none⟩), .int .i64 n, bv l] w fun e w' => DPost w p (wrote s0 n l) (.int .i64 0) e w' := by
  have H0 := hid h
  have HL := hid hl
  have HS := hid hs
  have HQ0 := hid hq
  have HD := hid hd
  have HN0 := hid (show 0 ≤ n ∧ n < (s0.blocks : Int) from of_decide_eq_true hn)
  have HB1 := hid hn
  have H1 := hid h1
  clear h hl hs hq hd hn h1
  go_enter Tryz.func107, Tryz.ntmps107
  go_wp2_with (refine wpList_box_blk rfl (.tmp 2) rfl l rfl ?_; intro g5 W0 hk5 hb5 hg5; go_frame; have K50 := hid hk5; have B5 := hid hb5; have G5 := hid hg5; clear hk5 hb5 hg5)
  have HW0 := hid (H0.out.below B5.out)
  have c1 := refused_disk HW0.out
  rw [HD.out, if_neg (by decide)] at c1
  refine c1.mono ?_
  clear c1
  rintro e _ ⟨rfl, rfl⟩
  go_wp2_with fail
  have c2 := isBlock_disk HW0.out n
  rw [show decide (0 ≤ n ∧ n < (s0.blocks : Int)) = true from HB1.out] at c2
  refine c2.mono ?_
  clear c2
  rintro e _ ⟨rfl, rfl⟩
  go_wp2_with fail
  have c3 := work_disk HW0.out HS.out
  rw [decide_eq_true H1.out, show workS s0 = worked s0 from if_neg H1.out] at c3
  refine c3.mono ?_
  clear c3
  rintro e W ⟨rfl, hW, hT⟩
  have HW := hid hW
  have HT := hid hT
  have hq1 := hid (show (worked s0).q = s0.q from rfl)
  obtain ⟨s, hs⟩ : ∃ s, worked s0 = s := ⟨_, rfl⟩
  rw [hs] at hW
  have HQ := hid (show s.q.length < 1099511627776 by rw [← hs]; exact HQ0.out)
  have HN := hid (show 0 ≤ n ∧ n < (s.blocks : Int) by rw [← hs]; exact HN0.out)
  have HF := hid (show wrote s0 n l = { s with q := s.q ++ [(n, l)], young := upd s.young n l } by rw [← hs]; rfl)
  have HWs := hid hW
  clear HW hq1 hs hT
  have K5 := hid (K50.out.turn HT.out (fun e => by have := H0.out.cells.lt; have := G5.out; omega))
  have hdb : p.db < W.heap.size := hW.cells.lt
  have c3 := hW.at.2.2.2.1
  have B3 := hid ((Below.refl W.heap.size W).drew.alloc (Nat.le_refl _) (.cells (wcells (n, l)).toArray 114))
  have H3 := hid (hW.below B3.out)
  have K8 := hid (Cs.new W.drew 114 (wcells (n, l)).toArray)
  clear hW
  have N5 := hid (show ¬ foot p g5 from fun hf => by have := foot_lt H0.out g5 hf; have := G5.out; omega)
  have hmix : Tryz.prog.follows .mixedOrders = true := by kernel_rfl
  go_wp2_with fail
  refine wp_region_any (by kernel_rfl) ?_
  change wpAny _ _ _ _ _ _ _ (World.drew _)
  refine wpAny_take (i := 0) (v := .pointer (some ⟨p.db, 0, none⟩)) rfl (by kernel_rfl) (by kernel_rfl) (by kernel_rfl) (fun _ _ _ h => h) (Or.inl ⟨by rfl, by intro w; go_simp⟩) ?_
  try simp only [getElem_toArray, getElem_cons_succ, getElem_cons_zero, Act.put, setIfInBounds_toArray, set_cons_succ, set_cons_zero]
  refine wpAny_take (i := 1) (v := .pointer (some ⟨p.db, 0, none⟩)) rfl (by kernel_rfl) (by kernel_rfl) (by kernel_rfl) (fun _ _ _ h => h) (Or.inl ⟨by rfl, by intro w; go_simp⟩) ?_
  try simp only [getElem_toArray, getElem_cons_succ, getElem_cons_zero, Act.put, setIfInBounds_toArray, set_cons_succ, set_cons_zero]
  refine wpAny_take (i := 5) (v := .int .i64 n) rfl (by kernel_rfl) (by kernel_rfl) (by kernel_rfl) (fun _ _ _ h => h) (Or.inl ⟨by rfl, by intro w; go_simp⟩) ?_
  try simp only [getElem_toArray, getElem_cons_succ, getElem_cons_zero, Act.put, setIfInBounds_toArray, set_cons_succ, set_cons_zero]
  refine wpAny_take (i := 2) (v := .pointer (some ⟨p.db, 0, none⟩)) rfl (by kernel_rfl) (by kernel_rfl) (by kernel_rfl) (fun _ _ _ h => h) (Or.inl ⟨by rfl, by intro w; go_simp⟩) ?_
  try simp only [getElem_toArray, getElem_cons_succ, getElem_cons_zero, Act.put, setIfInBounds_toArray, set_cons_succ, set_cons_zero]
  refine wpAny_take (i := 3) (v := .pointer (some ⟨p.db, 3, none⟩)) rfl (by kernel_rfl) (by kernel_rfl) (by kernel_rfl) (fun _ _ _ h => h) (Or.inl ⟨by rfl, by intro w; go_simp⟩) ?_
  try simp only [getElem_toArray, getElem_cons_succ, getElem_cons_zero, Act.put, setIfInBounds_toArray, set_cons_succ, set_cons_zero]
  refine wpAny_ready (rs := [4, 6]) (by kernel_rfl) (by simp) ?_
  refine AllReady.cons rfl (fun K hK => ?_) (AllReady.cons rfl (fun K hK => ?_) AllReady.nil)
  · go_simp
    refine hK _ _ ?_
    clear hK K
    refine wpAny_ready (rs := [6]) (by kernel_rfl) (by simp) ?_
    refine AllReady.cons rfl (fun K hK => ?_) AllReady.nil
    dsimp only [getElem_toArray, getElem_cons_succ, getElem_cons_zero]
    refine step_if rfl ?_
    refine wp_of_run (exec_load_blk (.tmp 5) rfl g5 0 rfl l HL.out (At.whole K5.out.drew)) ?_
    refine hK _ _ ?_
    clear hK K
    try simp only [getElem_toArray, getElem_cons_succ, getElem_cons_zero, Act.put, setIfInBounds_toArray, set_cons_succ, set_cons_zero]
    refine wpAny_ready (rs := [7]) (by kernel_rfl) (by simp) ?_
    refine AllReady.cons rfl (fun K hK => ?_) AllReady.nil
    dsimp only [getElem_toArray, getElem_cons_succ, getElem_cons_zero]
    refine step_if rfl ?_
    refine wp_of_run (exec_build_write (.tmp 25) (.tmp 26) rfl n rfl l HL.out rfl) ?_
    refine hK _ _ ?_
    clear hK K
    try simp only [getElem_toArray, getElem_cons_succ, getElem_cons_zero, Act.put, setIfInBounds_toArray, set_cons_succ, set_cons_zero]
    refine wpAny_ready (rs := [8]) (by kernel_rfl) (by simp) ?_
    refine AllReady.cons rfl (fun K hK => ?_) AllReady.nil
    dsimp only [getElem_toArray, getElem_cons_succ, getElem_cons_zero]
    refine step_if rfl ?_
    refine wp_buildSlice_write (.tmp 27) rfl (n, l) HL.out rfl ?_
    refine hK _ _ ?_
    clear hK K
    try simp only [getElem_toArray, getElem_cons_succ, getElem_cons_zero, Act.put, setIfInBounds_toArray, set_cons_succ, set_cons_zero]
    refine wpAny_ready (rs := [9]) (by kernel_rfl) (by simp) ?_
    refine AllReady.cons rfl (fun K hK => ?_) AllReady.nil
    dsimp only [getElem_toArray, getElem_cons_succ, getElem_cons_zero]
    refine step_if rfl ?_
    refine wp_append_write (.tmp 24) (.tmp 28) rfl p.A p.cap s.q rfl H3.out.q (n, l) HL.out W.heap.size rfl K8.out HQ.out ?_
    intro g' cap' w4 hown hgrow hloc
    have c4 := write_mid (n := 0) (l := []) (g := 0) (cap := 0) H3.out hgrow
    have e3 := c4.cell 3 rfl
    have f3 := c4.frozen 3
    have OWN := hid hown
    have GR := hid hgrow
    have LOC := hid hloc
    clear hown hgrow hloc c4
    refine hK _ _ ?_
    clear hK K
    try simp only [getElem_toArray, getElem_cons_succ, getElem_cons_zero, Act.put, setIfInBounds_toArray, set_cons_succ, set_cons_zero]
    refine wpAny_ready (rs := [10]) (by kernel_rfl) (by simp) ?_
    refine AllReady.cons rfl (fun K hK => ?_) AllReady.nil
    go_simp
    refine hK _ _ ?_
    clear hK K
    refine wpAny_ready (rs := [11]) (by kernel_rfl) (by simp) ?_
    refine AllReady.cons rfl (fun K hK => ?_) AllReady.nil
    go_simp
    refine hK _ _ ?_
    clear hK K
    refine wpAny_ready (rs := [12]) (by kernel_rfl) (by simp) ?_
    refine AllReady.cons rfl (fun K hK => ?_) AllReady.nil
    go_simp
    refine hK _ _ ?_
    clear hK K
    refine wpAny_done (by kernel_rfl) ?_ _
    go_wp2_with fail
    refine region_tail 6 hmix (by kernel_rfl) ?_
    intro w5 hw5
    simp only [List.take_succ_cons, List.take_zero, List.drop_succ_cons, List.drop_zero]
    have M2 := hid (write_mid2 H3.out GR.out hw5)
    have HW5 := hid hw5
    clear hw5
    have c52 : w5.cell? ⟨p.db, 2, none⟩ = some (.map (some p.yb)) := M2.out.1.cell 2 rfl
    have K55 := hid ((K5.out.below B3.out K5.out.lt).turn M2.out.2.2.2 (fun e => N5.out e))
    still_step
    still_step
    still_step
    still_step
    still_step
    refine wpStill_of_run rfl (exec_load_blk (.tmp 5) rfl g5 0 rfl l HL.out (At.whole K55.out)) ?_
    go_frame
    refine wpStill_nil ?_
    refine wpList_upd rfl (.tmp 35) (.tmp 36) (.tmp 37) rfl rfl n rfl l rfl HL.out M2.out.2.2.1 HN.out.1 HN.out.2 H3.out.hi ?_
    intro w6 hm6 hg6
    have E := hid (write_end H3.out HN.out HL.out OWN.out GR.out LOC.out HW5.out hm6 hg6)
    clear hm6 hg6
    go_frame
    go_wp2
    go_ret
    refine DPost.below B5.out (DPost.of HF.out HT.out B3.out E.out)
  · dsimp only [getElem_toArray, getElem_cons_succ, getElem_cons_zero]
    refine step_if rfl ?_
    refine wp_of_run (exec_load_blk (.tmp 5) rfl g5 0 rfl l HL.out (At.whole K5.out.drew)) ?_
    refine hK _ _ ?_
    clear hK K
    try simp only [getElem_toArray, getElem_cons_succ, getElem_cons_zero, Act.put, setIfInBounds_toArray, set_cons_succ, set_cons_zero]
    refine wpAny_ready (rs := [4, 7]) (by kernel_rfl) (by simp) ?_
    refine AllReady.cons rfl (fun K hK => ?_) (AllReady.cons rfl (fun K hK => ?_) AllReady.nil)
    · go_simp
      refine hK _ _ ?_
      clear hK K
      refine wpAny_ready (rs := [7]) (by kernel_rfl) (by simp) ?_
      refine AllReady.cons rfl (fun K hK => ?_) AllReady.nil
      dsimp only [getElem_toArray, getElem_cons_succ, getElem_cons_zero]
      refine step_if rfl ?_
      refine wp_of_run (exec_build_write (.tmp 25) (.tmp 26) rfl n rfl l HL.out rfl) ?_
      refine hK _ _ ?_
      clear hK K
      try simp only [getElem_toArray, getElem_cons_succ, getElem_cons_zero, Act.put, setIfInBounds_toArray, set_cons_succ, set_cons_zero]
      refine wpAny_ready (rs := [8]) (by kernel_rfl) (by simp) ?_
      refine AllReady.cons rfl (fun K hK => ?_) AllReady.nil
      dsimp only [getElem_toArray, getElem_cons_succ, getElem_cons_zero]
      refine step_if rfl ?_
      refine wp_buildSlice_write (.tmp 27) rfl (n, l) HL.out rfl ?_
      refine hK _ _ ?_
      clear hK K
      try simp only [getElem_toArray, getElem_cons_succ, getElem_cons_zero, Act.put, setIfInBounds_toArray, set_cons_succ, set_cons_zero]
      refine wpAny_ready (rs := [9]) (by kernel_rfl) (by simp) ?_
      refine AllReady.cons rfl (fun K hK => ?_) AllReady.nil
      dsimp only [getElem_toArray, getElem_cons_succ, getElem_cons_zero]
      refine step_if rfl ?_
      refine wp_append_write (.tmp 24) (.tmp 28) rfl p.A p.cap s.q rfl H3.out.q (n, l) HL.out W.heap.size rfl K8.out HQ.out ?_
      intro g' cap' w4 hown hgrow hloc
      have c4 := write_mid (n := 0) (l := []) (g := 0) (cap := 0) H3.out hgrow
      have e3 := c4.cell 3 rfl
      have f3 := c4.frozen 3
      have OWN := hid hown
      have GR := hid hgrow
      have LOC := hid hloc
      clear hown hgrow hloc c4
      refine hK _ _ ?_
      clear hK K
      try simp only [getElem_toArray, getElem_cons_succ, getElem_cons_zero, Act.put, setIfInBounds_toArray, set_cons_succ, set_cons_zero]
      refine wpAny_ready (rs := [10]) (by kernel_rfl) (by simp) ?_
      refine AllReady.cons rfl (fun K hK => ?_) AllReady.nil
      go_simp
      refine hK _ _ ?_
      clear hK K
      refine wpAny_ready (rs := [11]) (by kernel_rfl) (by simp) ?_
      refine AllReady.cons rfl (fun K hK => ?_) AllReady.nil
      go_simp
      refine hK _ _ ?_
      clear hK K
      refine wpAny_ready (rs := [12]) (by kernel_rfl) (by simp) ?_
      refine AllReady.cons rfl (fun K hK => ?_) AllReady.nil
      go_simp
      refine hK _ _ ?_
      clear hK K
      refine wpAny_done (by kernel_rfl) ?_ _
      go_wp2_with fail
      refine region_tail 6 hmix (by kernel_rfl) ?_
      intro w5 hw5
      simp only [List.take_succ_cons, List.take_zero, List.drop_succ_cons, List.drop_zero]
      have M2 := hid (write_mid2 H3.out GR.out hw5)
      have HW5 := hid hw5
      clear hw5
      have c52 : w5.cell? ⟨p.db, 2, none⟩ = some (.map (some p.yb)) := M2.out.1.cell 2 rfl
      have K55 := hid ((K5.out.below B3.out K5.out.lt).turn M2.out.2.2.2 (fun e => N5.out e))
      still_step
      still_step
      still_step
      still_step
      still_step
      refine wpStill_of_run rfl (exec_load_blk (.tmp 5) rfl g5 0 rfl l HL.out (At.whole K55.out)) ?_
      go_frame
      refine wpStill_nil ?_
      refine wpList_upd rfl (.tmp 35) (.tmp 36) (.tmp 37) rfl rfl n rfl l rfl HL.out M2.out.2.2.1 HN.out.1 HN.out.2 H3.out.hi ?_
      intro w6 hm6 hg6
      have E := hid (write_end H3.out HN.out HL.out OWN.out GR.out LOC.out HW5.out hm6 hg6)
      clear hm6 hg6
      go_frame
      go_wp2
      go_ret
      refine DPost.below B5.out (DPost.of HF.out HT.out B3.out E.out)
    · dsimp only [getElem_toArray, getElem_cons_succ, getElem_cons_zero]
      refine step_if rfl ?_
      refine wp_of_run (exec_build_write (.tmp 25) (.tmp 26) rfl n rfl l HL.out rfl) ?_
      refine hK _ _ ?_
      clear hK K
      try simp only [getElem_toArray, getElem_cons_succ, getElem_cons_zero, Act.put, setIfInBounds_toArray, set_cons_succ, set_cons_zero]
      refine wpAny_ready (rs := [4, 8]) (by kernel_rfl) (by simp) ?_
      refine AllReady.cons rfl (fun K hK => ?_) (AllReady.cons rfl (fun K hK => ?_) AllReady.nil)
      · go_simp
        refine hK _ _ ?_
        clear hK K
        refine wpAny_ready (rs := [8]) (by kernel_rfl) (by simp) ?_
        refine AllReady.cons rfl (fun K hK => ?_) AllReady.nil
        dsimp only [getElem_toArray, getElem_cons_succ, getElem_cons_zero]
        refine step_if rfl ?_
        refine wp_buildSlice_write (.tmp 27) rfl (n, l) HL.out rfl ?_
        refine hK _ _ ?_
        clear hK K
        try simp only [getElem_toArray, getElem_cons_succ, getElem_cons_zero, Act.put, setIfInBounds_toArray, set_cons_succ, set_cons_zero]
        refine wpAny_ready (rs := [9]) (by kernel_rfl) (by simp) ?_
        refine AllReady.cons rfl (fun K hK => ?_) AllReady.nil
        dsimp only [getElem_toArray, getElem_cons_succ, getElem_cons_zero]
        refine step_if rfl ?_
        refine wp_append_write (.tmp 24) (.tmp 28) rfl p.A p.cap s.q rfl H3.out.q (n, l) HL.out W.heap.size rfl K8.out HQ.out ?_
        intro g' cap' w4 hown hgrow hloc
        have c4 := write_mid (n := 0) (l := []) (g := 0) (cap := 0) H3.out hgrow
        have e3 := c4.cell 3 rfl
        have f3 := c4.frozen 3
        have OWN := hid hown
        have GR := hid hgrow
        have LOC := hid hloc
        clear hown hgrow hloc c4
        refine hK _ _ ?_
        clear hK K
        try simp only [getElem_toArray, getElem_cons_succ, getElem_cons_zero, Act.put, setIfInBounds_toArray, set_cons_succ, set_cons_zero]
        refine wpAny_ready (rs := [10]) (by kernel_rfl) (by simp) ?_
        refine AllReady.cons rfl (fun K hK => ?_) AllReady.nil
        go_simp
        refine hK _ _ ?_
        clear hK K
        refine wpAny_ready (rs := [11]) (by kernel_rfl) (by simp) ?_
        refine AllReady.cons rfl (fun K hK => ?_) AllReady.nil
        go_simp
        refine hK _ _ ?_
        clear hK K
        refine wpAny_ready (rs := [12]) (by kernel_rfl) (by simp) ?_
        refine AllReady.cons rfl (fun K hK => ?_) AllReady.nil
        go_simp
        refine hK _ _ ?_
        clear hK K
        refine wpAny_done (by kernel_rfl) ?_ _
        go_wp2_with fail
        refine region_tail 6 hmix (by kernel_rfl) ?_
        intro w5 hw5
        simp only [List.take_succ_cons, List.take_zero, List.drop_succ_cons, List.drop_zero]
        have M2 := hid (write_mid2 H3.out GR.out hw5)
        have HW5 := hid hw5
        clear hw5
        have c52 : w5.cell? ⟨p.db, 2, none⟩ = some (.map (some p.yb)) := M2.out.1.cell 2 rfl
        have K55 := hid ((K5.out.below B3.out K5.out.lt).turn M2.out.2.2.2 (fun e => N5.out e))
        still_step
        still_step
        still_step
        still_step
        still_step
        refine wpStill_of_run rfl (exec_load_blk (.tmp 5) rfl g5 0 rfl l HL.out (At.whole K55.out)) ?_
        go_frame
        refine wpStill_nil ?_
        refine wpList_upd rfl (.tmp 35) (.tmp 36) (.tmp 37) rfl rfl n rfl l rfl HL.out M2.out.2.2.1 HN.out.1 HN.out.2 H3.out.hi ?_
        intro w6 hm6 hg6
        have E := hid (write_end H3.out HN.out HL.out OWN.out GR.out LOC.out HW5.out hm6 hg6)
        clear hm6 hg6
        go_frame
        go_wp2
        go_ret
        refine DPost.below B5.out (DPost.of HF.out HT.out B3.out E.out)
      · dsimp only [getElem_toArray, getElem_cons_succ, getElem_cons_zero]
        refine step_if rfl ?_
        refine wp_buildSlice_write (.tmp 27) rfl (n, l) HL.out rfl ?_
        refine hK _ _ ?_
        clear hK K
        try simp only [getElem_toArray, getElem_cons_succ, getElem_cons_zero, Act.put, setIfInBounds_toArray, set_cons_succ, set_cons_zero]
        refine wpAny_ready (rs := [4]) (by kernel_rfl) (by simp) ?_
        refine AllReady.cons rfl (fun K hK => ?_) AllReady.nil
        go_simp
        refine hK _ _ ?_
        clear hK K
        refine wpAny_ready (rs := [9]) (by kernel_rfl) (by simp) ?_
        refine AllReady.cons rfl (fun K hK => ?_) AllReady.nil
        dsimp only [getElem_toArray, getElem_cons_succ, getElem_cons_zero]
        refine step_if rfl ?_
        refine wp_append_write (.tmp 24) (.tmp 28) rfl p.A p.cap s.q rfl H3.out.q (n, l) HL.out W.heap.size rfl K8.out HQ.out ?_
        intro g' cap' w4 hown hgrow hloc
        have c4 := write_mid (n := 0) (l := []) (g := 0) (cap := 0) H3.out hgrow
        have e3 := c4.cell 3 rfl
        have f3 := c4.frozen 3
        have OWN := hid hown
        have GR := hid hgrow
        have LOC := hid hloc
        clear hown hgrow hloc c4
        refine hK _ _ ?_
        clear hK K
        try simp only [getElem_toArray, getElem_cons_succ, getElem_cons_zero, Act.put, setIfInBounds_toArray, set_cons_succ, set_cons_zero]
        refine wpAny_ready (rs := [10]) (by kernel_rfl) (by simp) ?_
        refine AllReady.cons rfl (fun K hK => ?_) AllReady.nil
        go_simp
        refine hK _ _ ?_
        clear hK K
        refine wpAny_ready (rs := [11]) (by kernel_rfl) (by simp) ?_
        refine AllReady.cons rfl (fun K hK => ?_) AllReady.nil
        go_simp
        refine hK _ _ ?_
        clear hK K
        refine wpAny_ready (rs := [12]) (by kernel_rfl) (by simp) ?_
        refine AllReady.cons rfl (fun K hK => ?_) AllReady.nil
        go_simp
        refine hK _ _ ?_
        clear hK K
        refine wpAny_done (by kernel_rfl) ?_ _
        go_wp2_with fail
        refine region_tail 6 hmix (by kernel_rfl) ?_
        intro w5 hw5
        simp only [List.take_succ_cons, List.take_zero, List.drop_succ_cons, List.drop_zero]
        have M2 := hid (write_mid2 H3.out GR.out hw5)
        have HW5 := hid hw5
        clear hw5
        have c52 : w5.cell? ⟨p.db, 2, none⟩ = some (.map (some p.yb)) := M2.out.1.cell 2 rfl
        have K55 := hid ((K5.out.below B3.out K5.out.lt).turn M2.out.2.2.2 (fun e => N5.out e))
        still_step
        still_step
        still_step
        still_step
        still_step
        refine wpStill_of_run rfl (exec_load_blk (.tmp 5) rfl g5 0 rfl l HL.out (At.whole K55.out)) ?_
        go_frame
        refine wpStill_nil ?_
        refine wpList_upd rfl (.tmp 35) (.tmp 36) (.tmp 37) rfl rfl n rfl l rfl HL.out M2.out.2.2.1 HN.out.1 HN.out.2 H3.out.hi ?_
        intro w6 hm6 hg6
        have E := hid (write_end H3.out HN.out HL.out OWN.out GR.out LOC.out HW5.out hm6 hg6)
        clear hm6 hg6
        go_frame
        go_wp2
        go_ret
        refine DPost.below B5.out (DPost.of HF.out HT.out B3.out E.out)
end Go.Proofs.YtfgbpinfplllgaaGreatDoor
namespace Go.Proofs.YtfgbpinfplllgaaGreatDoor
open Go.RowKit Go.Shelf Go.Maps
set_option maxRecDepth 100000
theorem DPost.kept {w W : World} {p : DP} {s : DS} (h : DiskAt W p s) (hb : Below w.heap.size w W) (v : Value) : DPost w p s v (.returned v) W := DPost.below hb (DPost.same h v)
set_option maxHeartbeats 1000000 in
theorem Write_disk {w : World} {p : DP} {s : DS} (h : DiskAt w p s) (n : Int) (l : Blk) (hl : l.length = 64) (hs : s.steps + 1 < 4611686018427387904) (hq : s.q.length < 1099511627776) :
    Calls Tryz.prog 107 #[.pointer (some ⟨p.db, 0, none⟩), .int .i64 n, bv l] w fun e w' => DPost w p (writeS s n l) (.int .i64 (writeE s n)) e w' := by
  cases hd : s.dark
  · cases hn : inB s n
    · rw [show writeS s n l = s from by simp [writeS, hd, hn], show writeE s n = 2 from by simp [writeE, hd, hn]]
      have H0 := hid h
      have HD := hid hd
      have HN := hid hn
      clear h hl hs hq hd hn
      go_enter Tryz.func107, Tryz.ntmps107
      go_wp2_with (refine wpList_box_blk rfl (.tmp 2) rfl l rfl ?_; intro g5 W0 hk5 hb5 hg5; go_frame; have B5 := hid hb5; clear hk5 hb5 hg5)
      have HW0 := hid (H0.out.below B5.out)
      have c1 := refused_disk HW0.out
      rw [HD.out, if_neg (by decide)] at c1
      refine c1.mono ?_
      clear c1
      rintro e _ ⟨rfl, rfl⟩
      go_wp2_with fail
      have c2 := isBlock_disk HW0.out n
      rw [show decide (0 ≤ n ∧ n < (s.blocks : Int)) = false from HN.out] at c2
      refine c2.mono ?_
      clear c2
      rintro e _ ⟨rfl, rfl⟩
      go_wp2_with fail
      go_ret
      exact DPost.kept HW0.out B5.out _
    · by_cases h1 : s.left = 1
      · rw [show writeS s n l = gone s from by simp [writeS, hd, hn, h1], show writeE s n = 9 from by simp [writeE, hd, hn, h1]]
        have H0 := hid h
        have HD := hid hd
        have HN := hid hn
        have HS := hid hs
        have H1 := hid h1
        clear h hl hs hq hd hn h1
        go_enter Tryz.func107, Tryz.ntmps107
        go_wp2_with (refine wpList_box_blk rfl (.tmp 2) rfl l rfl ?_; intro g5 W0 hk5 hb5 hg5; go_frame; have B5 := hid hb5; clear hk5 hb5 hg5)
        have HW0 := hid (H0.out.below B5.out)
        have c1 := refused_disk HW0.out
        rw [HD.out, if_neg (by decide)] at c1
        refine c1.mono ?_
        clear c1
        rintro e _ ⟨rfl, rfl⟩
        go_wp2_with fail
        have c2 := isBlock_disk HW0.out n
        rw [show decide (0 ≤ n ∧ n < (s.blocks : Int)) = true from HN.out] at c2
        refine c2.mono ?_
        clear c2
        rintro e _ ⟨rfl, rfl⟩
        go_wp2_with fail
        have c3 := work_disk HW0.out HS.out
        rw [decide_eq_false (by rw [H1.out]; decide), show workS s = gone s from if_pos H1.out] at c3
        refine c3.mono ?_
        clear c3
        rintro e W ⟨rfl, hW, hT⟩
        have HW := hid hW
        have HT := hid hT
        clear hW hT
        go_wp2_with fail
        go_ret
        exact DPost.below B5.out ⟨rfl, p, HW.out, rfl, HT.out.mono fun i _ e => .inl e, fun k hk => .inl hk⟩
      · rw [show writeS s n l = wrote s n l from by simp [writeS, hd, hn, h1], show writeE s n = 0 from by simp [writeE, hd, hn, h1]]
        exact Write_ok h n l hl hs hq hd hn h1
  · rw [show writeS s n l = s from by simp [writeS, hd], show writeE s n = 9 from by simp [writeE, hd]]
    have H0 := hid h
    have HD := hid hd
    clear h hl hs hq hd
    go_enter Tryz.func107, Tryz.ntmps107
    go_wp2_with (refine wpList_box_blk rfl (.tmp 2) rfl l rfl ?_; intro g5 W0 hk5 hb5 hg5; go_frame; have B5 := hid hb5; clear hk5 hb5 hg5)
    have HW0 := hid (H0.out.below B5.out)
    have c1 := refused_disk HW0.out
    rw [HD.out, if_pos rfl] at c1
    refine c1.mono ?_
    clear c1
    rintro e _ ⟨rfl, rfl⟩
    go_wp2_with fail
    go_ret
    exact DPost.kept HW0.out B5.out _
end Go.Proofs.YtfgbpinfplllgaaGreatDoor
namespace Go.Proofs.YtfgbpinfplllgaaGreatDoor
open Go.RowKit Go.Shelf Go.Maps
set_option maxRecDepth 100000
theorem At.off {w : World} {b f f' : Nat} {cs : List Value} (h : At w b f cs) (e : f = f') : At w b f' cs := e ▸ h
theorem at_queue {w : World} {g n cap : Nat} {q : List (Int × Blk)} (h : w.ownsRow 0 114 65 (.slice (some ⟨g, 0, none⟩) n cap) n (qcells q)) (hq : ∀ x ∈ q, x.2.length = 64) (k : Nat) (hk : k < q.length) : At w g (k * 65) (wcells q[k]) := by
  intro j v hv
  have hj : j < 65 := by
    have := (List.getElem?_eq_some_iff.1 hv).1
    rwa [wcells_len _ (hq _ (List.getElem_mem hk))] at this
  have := h.cells (g := g) rfl (k * 65 + j) v (by rw [qcells_at q hq k hk j hj]; exact hv)
  rwa [addr_add, Nat.zero_add] at this
section
variable {w : World} {ops : Array Oper} {rest : List Oper} {o : Oper} {a : Act} {Q : Exit → Act → World → Prop} {K : Act → World → Prop}
theorem wpList_alloc_write (hgd : o.guard = none) (ho : o.op = .alloc 114) (hK : ∀ g w', Cs w' g 114 (wcells (0, zb)).toArray → Below w.heap.size w w' → w.heap.size ≤ g → wpList Tryz.prog ops Q rest (a.put o.dst (.pointer (some ⟨g, 0, none⟩))) w') : wpList Tryz.prog ops Q (o :: rest) a w :=
  wpList_alloc_agg hgd 114 ho (wcells (0, zb)) zero53 (hK _ _ (Cs.new _ _ _) ((Below.refl _ _).alloc (Nat.le_refl _) _) (Nat.le_refl _))
theorem wpList_fill_write (hgd : o.guard = none) (x y : Operand) (ho : o.op = .store 114 x y) (g : Nat) (hx : a.eval x = .pointer (some ⟨g, 0, none⟩)) (z : Int × Blk) (hy : a.eval y = .agg (wcells z).toArray) (hl : z.2.length = 64) (hg : Cs w g 114 (wcells (0, zb)).toArray)
    (hK : ∀ w', Cs w' g 114 (wcells z).toArray → w.grownBy w' (some g) → wpList Tryz.prog ops Q rest (a.put o.dst undef) w') : wpList Tryz.prog ops Q (o :: rest) a w := by
  have e : (wcells z).length = (wcells (0, zb)).toArray.size := by rw [List.size_toArray, wcells_len z hl, wcells_len _ zb_len]
  refine wpList_store_agg hgd 114 x y ho g 0 hx (wcells z) hy 114 (wcells (0, zb)).toArray hg (by omega) (wcells_one z) (info53s z hl) (hK _ ?_ (grown_row _ _ _))
  have := hg.row (over (wcells (0, zb)).toArray 0 (wcells z))
  rwa [over_whole _ _ e] at this ⊢
theorem wpList_load_write (hgd : o.guard = none) (x : Operand) (ho : o.op = .load 114 x) (b f : Nat) (hx : a.eval x = .pointer (some ⟨b, f, none⟩)) (z : Int × Blk) (hl : z.2.length = 64) (hc : At w b f (wcells z))
    (hK : wpList Tryz.prog ops Q rest (a.put o.dst (.agg (wcells z).toArray)) w) : wpList Tryz.prog ops Q (o :: rest) a w :=
  wpList_load_agg hgd 114 x ho b f hx (wcells z) hc _ Tryz.underlying114 rfl (info53s z hl) hK
end
theorem at_write {w : World} {g : Nat} {z : Int × Blk} (h : Cs w g 114 (wcells z).toArray) : w.cell? ⟨g, 0, none⟩ = some (.int .i64 z.1) ∧ At w g 1 (cellsOf z.2) :=
  ⟨h.cell 0 (by simp [wcells]), At.of_cs h 1 _ fun j v hv => by rw [List.getElem?_toArray, show 1 + j = j + 1 by omega]; simpa [wcells] using hv⟩
theorem lay_take (q : List (Int × Blk)) (f : Tab) (k : Nat) (hk : k < q.length) : lay (q.take (k + 1)) f = upd (lay (q.take k) f) q[k].1 q[k].2 := by
  rw [List.take_succ_eq_append_getElem hk, lay_snoc]
theorem laid_turn {W wr : World} {p : DP} {s : DS} (h : DiskAt W p s) (t : Turn W wr (· = p.lb)) : Cs wr p.db 83 (dcells p s) ∧ MapIs wr p.yb s.blocks s.young ∧ wr.ownsRow 0 114 65 (.slice p.A s.q.length p.cap) s.q.length (qcells s.q) :=
  ⟨h.cells.turn t (fun e => h.laid.ne_cs h.cells e.symm), h.young.turn t (fun e => h.ne e.symm), ownsRow_turn h.q t (fun k hk e => ownsRow_ne_map h.q h.laid (by rw [hk, e]))⟩
theorem laid_disk {W wr : World} {p : DP} {s : DS} {f : Tab} (h : DiskAt W p s) (t : Turn W wr (· = p.lb)) (hm : MapIs wr p.lb s.blocks f) : DiskAt wr p { s with laid := f } :=
  ⟨(laid_turn h t).1, hm, (laid_turn h t).2.1, h.ne, (laid_turn h t).2.2, h.lo, h.hi, h.wfq, h.stp, h.lft⟩
theorem worked_turn {w W wr w' : World} {p : DP} {s0 s : DS} {v : Value} {yb : Nat} (hT : Turn w W (· = p.db)) (hR : Turn W wr (· = p.lb)) (hE : DiskAt w' ⟨p.db, p.lb, yb, none, 0⟩ s) (hyb : wr.heap.size ≤ yb) (ht : Turn wr w' (· = p.db)) :
    DPost w p s v (.returned v) w' := by
  refine ⟨rfl, ⟨p.db, p.lb, yb, none, 0⟩, hE, rfl, ((hT.mono (G := foot p) (fun i _ e => .inl e)).trans hR (fun i _ e => .inr (.inl e))).trans ht (fun i _ e => .inl e), ?_⟩
  rintro k (hk | hk | hk | hk)
  · exact .inl (.inl hk)
  · exact .inl (.inr (.inl hk))
  · exact .inr (by rw [hk]; exact Nat.le_trans hT.size (Nat.le_trans hR.size hyb))
  · cases hk
def flushS (s : DS) : DS := if s.dark = true then s else if s.left = 1 then gone s else flushed s
def flushE (s : DS) : Int := if s.dark = true then 9 else if s.left = 1 then 9 else 0
set_option maxHeartbeats 4000000 in
theorem Flush_ok {w : World} {p : DP} {s0 : DS} (h : DiskAt w p s0) (hs : s0.steps + 1 < 4611686018427387904) (hq : s0.q.length < 1099511627776) (hd : s0.dark = false) (h1 : s0.left ≠ 1) :
    Calls Tryz.prog 66 #[.pointer (some ⟨p.db, 0, none⟩)] w fun e w' => DPost w p (flushed s0) (.int .i64 0) e w' := by
  have HW0 := hid h
  have HS := hid hs
  have HQ0 := hid hq
  have HD := hid hd
  have H1 := hid h1
  have hmix : Tryz.prog.follows .mixedOrders = true := by kernel_rfl
  clear h hs hq hd h1
  go_enter Tryz.func66, Tryz.ntmps66
  go_wp2_with fail
  have c1 := refused_disk HW0.out
  rw [HD.out, if_neg (by decide)] at c1
  refine c1.mono ?_
  clear c1
  rintro e _ ⟨rfl, rfl⟩
  go_wp2_with fail
  have c3 := work_disk HW0.out HS.out
  rw [decide_eq_true H1.out, show workS s0 = worked s0 from if_neg H1.out] at c3
  refine c3.mono ?_
  clear c3
  rintro e W ⟨rfl, hW, hT⟩
  have HT := hid hT
  obtain ⟨s, hs⟩ : ∃ s, worked s0 = s := ⟨_, rfl⟩
  rw [hs] at hW
  have HF := hid (show flushed s0 = emptied { s with laid := lay s.q s.laid } by rw [← hs]; rfl)
  have HQ := hid (show s.q.length < 1099511627776 by rw [← hs]; exact HQ0.out)
  clear hs hT
  have c3 := hW.at.2.2.2.1
  obtain ⟨A0, hA0⟩ : ∃ A0, p.A = A0 := ⟨_, rfl⟩
  obtain ⟨c0, hc0⟩ : ∃ c0, p.cap = c0 := ⟨_, rfl⟩
  rw [hA0, hc0] at c3
  have HA0 := hid hA0
  clear hA0 hc0
  have HW := hid hW
  have WF := hid hW.wfq
  clear hW
  go_wp2_with fail
  have hn0 : (0 : Int) ≤ (s.q.length : Int) := Int.natCast_nonneg _
  have hn1 : (s.q.length : Int) ≤ 1099511627776 := by have := HQ.out; omega
  go_loopw [19] (fun i wr => ∃ k : Nat, k ≤ s.q.length ∧ i = .int .i64 k ∧ MapIs wr p.lb s.blocks (lay (s.q.take k) s.laid) ∧ Turn W wr (· = p.lb)) (fun i _ => s.q.length - (intOf i).toNat)
  case atStart => exact ⟨0, Nat.zero_le _, rfl, HW.out.laid, Turn.refl _ _⟩
  case round =>
    obtain ⟨k, hk, rfl, hm, ht⟩ := hrel
    have HM := hid hm
    have HR := hid ht
    clear hm ht
    by_cases hlt : k < s.q.length
    · obtain ⟨g, cap', hA⟩ := ownsRow_form HW.out.q (by omega)
      injection hA with hA _ hcap
      have hl := hid (WF.out _ (List.getElem_mem hlt))
      have PQ := hid (laid_turn HW.out HR.out)
      have HZ := hid (at_queue (by have := PQ.out.2.2; rw [hA] at this; exact this) (fun x hx => (WF.out x hx).2.2) k hlt)
      have hA2 := HA0.out.symm.trans hA
      clear hA hcap
      subst hA2
      have lt1 : (k : Int) < (s.q.length : Int) := by omega
      obtain ⟨z, hz⟩ : ∃ z, s.q[k] = z := ⟨_, rfl⟩
      have HLAY := hid (lay_take s.q s.laid k hlt)
      rw [hz] at hl HZ HLAY
      clear hz
      go_wp2_with (first
        | (refine wpList_load_write rfl (.tmp 21) rfl g _ rfl z hl.out.2.2 (HZ.out.off (by omega)) ?_; go_frame)
        | (refine wpList_alloc_write rfl rfl ?_; intro g5 w1 hk5 hb5 hg5; go_frame; have K5 := hid hk5; have B5 := hid hb5; have G5 := hid hg5; clear hk5 hb5 hg5)
        | (refine wpList_fill_write rfl (.tmp 5) (.tmp 22) rfl g5 rfl z rfl hl.out.2.2 K5.out ?_; intro w2 hk2 hr2; go_frame; have K2 := hid hk2; have R2 := hid hr2; clear hk2 hr2))
      have B2 := hid (keep_own B5.out R2.out G5.out)
      refine region_tail 8 hmix (by kernel_rfl) ?_
      intro w3 hw3
      have B3 := hid (show Below wr.heap.size wr w3 by rw [hw3]; exact B2.out.drew)
      have K3 := hid (show Cs w3 g5 114 (wcells z).toArray by rw [hw3]; exact K2.out.drew)
      clear hw3
      have T3 := hid (HR.out.trans (Turn.of_below B3.out (· = p.lb)) (fun _ _ e => e))
      have M3 := hid (HM.out.turn (Turn.of_below B3.out fun _ => False) (fun h => h))
      have c1 : w3.cell? ⟨p.db, 1, none⟩ = some (.map (some p.lb)) := (laid_turn HW.out T3.out).1.cell 1 rfl
      have cz := (at_write K3.out).1
      have AZ := hid (at_write K3.out).2
      simp only [List.take_succ_cons, List.take_zero, List.drop_succ_cons, List.drop_zero]
      still_step
      still_step
      still_step
      still_step
      still_step
      still_step
      still_step
      refine wpStill_of_run rfl (exec_load_blk (.tmp 29) rfl g5 1 rfl z.2 hl.out.2.2 AZ.out) ?_
      go_frame
      refine wpStill_nil ?_
      refine wpList_upd rfl (.tmp 26) (.tmp 28) (.tmp 30) rfl rfl z.1 rfl z.2 rfl hl.out.2.2 M3.out hl.out.1 hl.out.2.1 HW.out.hi ?_
      intro w4 hm4 hg4
      have M4 := hid (show MapIs w4 p.lb s.blocks (lay (s.q.take (k + 1)) s.laid) by rw [HLAY.out]; exact hm4)
      have T4 := hid (T3.out.trans (Turn.of_grown hg4) (fun i _ e => by injection e with e; exact e.symm))
      clear hm4 hg4
      go_frame
      go_wp2
      go_roundw
      case rel => exact ⟨k + 1, by omega, by go_num, M4.out, T4.out⟩
      case measure => simp [intOf]; omega
    · obtain rfl : k = s.q.length := by omega
      have HE := hid (laid_disk HW.out HR.out (f := lay s.q s.laid) (by have := HM.out; rwa [List.take_of_length_le (Nat.le_refl _)] at this))
      go_wp2_with fail
      refine (emptyQueue_disk HE.out).mono ?_
      rintro e w' ⟨rfl, he, ht⟩
      have HE2 := hid he
      have HT2 := hid ht
      clear he ht
      go_wp2_with fail
      go_ret
      rw [HF.out]
      exact worked_turn (s0 := s0) HT.out HR.out HE2.out (Nat.le_refl _) HT2.out
theorem Flush_disk {w : World} {p : DP} {s : DS} (h : DiskAt w p s) (hs : s.steps + 1 < 4611686018427387904) (hq : s.q.length < 1099511627776) :
    Calls Tryz.prog 66 #[.pointer (some ⟨p.db, 0, none⟩)] w fun e w' => DPost w p (flushS s) (.int .i64 (flushE s)) e w' := by
  cases hd : s.dark
  · by_cases h1 : s.left = 1
    · rw [show flushS s = gone s from by simp [flushS, hd, h1], show flushE s = 9 from by simp [flushE, hd, h1]]
      have c1 := refused_disk h
      rw [hd, if_neg (by decide)] at c1
      have c3 := work_disk h hs
      rw [decide_eq_false (by rw [h1]; decide), show workS s = gone s from if_pos h1] at c3
      clear h hs hq hd h1
      go_enter Tryz.func66, Tryz.ntmps66
      go_wp2_with fail
      refine c1.mono ?_
      clear c1
      rintro e _ ⟨rfl, rfl⟩
      go_wp2_with fail
      refine c3.mono ?_
      clear c3
      rintro e W ⟨rfl, hW, hT⟩
      have HW := hid hW
      have HT := hid hT
      clear hW hT
      go_wp2_with fail
      go_ret
      exact ⟨rfl, p, HW.out, rfl, HT.out.mono fun i _ e => .inl e, fun k hk => .inl hk⟩
    · rw [show flushS s = flushed s from by simp [flushS, hd, h1], show flushE s = 0 from by simp [flushE, hd, h1]]
      exact Flush_ok h hs hq hd h1
  · rw [show flushS s = s from by simp [flushS, hd], show flushE s = 9 from by simp [flushE, hd]]
    have c1 := refused_disk h
    rw [hd, if_pos rfl] at c1
    have H := hid h
    clear h hs hq hd
    go_enter Tryz.func66, Tryz.ntmps66
    go_wp2_with fail
    refine c1.mono ?_
    clear c1
    rintro e _ ⟨rfl, rfl⟩
    go_wp2_with fail
    go_ret
    exact DPost.same H.out _
end Go.Proofs.YtfgbpinfplllgaaGreatDoor
namespace Go.Proofs.YtfgbpinfplllgaaGreatDoor
open Go.RowKit Go.Shelf Go.Maps
set_option maxRecDepth 100000
def RdI (w : World) (A : Option Addr) (l : List Int) : Prop := l = [] ∨ ∃ b f, A = some ⟨b, f, none⟩ ∧ ∀ j (h : j < l.length), w.cell? ⟨b, f + j, none⟩ = some (.int .i64 l[j])
theorem tear_take (zs : List ((Int × Blk) × Int)) (f : Tab) (k : Nat) (hk : k < zs.length) : tear (zs.take (k + 1)) f = upd (tear (zs.take k) f) zs[k].1.1 (torn (tell (tear (zs.take k) f) zs[k].1.1) zs[k].1.2 zs[k].2) := by
  rw [List.take_succ_eq_append_getElem hk, tear_snoc]
theorem MapIs.ne_cell {w : World} {b B : Nat} {f : Tab} {a : Addr} {v : Value} (h : MapIs w b B f) (hc : w.cell? a = some v) : a.block ≠ b := by
  rintro rfl
  obtain ⟨D, ⟨es, clock, hb, _⟩, _⟩ := h
  simp [World.cell?, hb] at hc
theorem cell_turn {w w' : World} {F : Nat → Prop} {a : Addr} {v : Value} (h : w.cell? a = some v) (ht : Turn w w' F) (hF : ¬ F a.block) : w'.cell? a = some v :=
  (World.cell?_of_block (w := w) (ht.block _ (lt_of_cell h) hF)).trans h
theorem crash_end {w W wr w' w1 w2 : World} {p : DP} {s : DS} {picks : List Int} {yb : Nat} (hd : w = W) (hR : Turn W wr (· = p.lb)) (hE : DiskAt w' ⟨p.db, p.lb, yb, none, 0⟩ (emptied { s with laid := tear (s.q.zip picks) s.laid })) (hyb : wr.heap.size ≤ yb) (ht : Turn wr w' (· = p.db))
    (h1 : w1 = w'.setCell ⟨p.db, 5, none⟩ (.int .i64 0)) (h2 : w2 = w1.setCell ⟨p.db, 6, none⟩ (.bool false)) : DPost w p (crashed s picks) (.int .i64 0) (.returned (.int .i64 0)) w2 := by
  subst hd
  have t1 : Turn w' w2 (· = p.db) := by rw [h2, h1]; exact (turn_set w' p.db 5 _).trans (turn_set _ p.db 6 _) (fun _ _ e => e)
  have hc : Cs w2 p.db 83 (((dcells ⟨p.db, p.lb, yb, none, 0⟩ (emptied { s with laid := tear (s.q.zip picks) s.laid })).setIfInBounds 5 (.int .i64 0)).setIfInBounds 6 (.bool false)) := by
    rw [h2, h1]
    exact (hE.cells.set 5 _).set 6 _
  have hD : DiskAt w2 ⟨p.db, p.lb, yb, none, 0⟩ (crashed s picks) := by
    refine hE.set t1 ?_ rfl rfl rfl rfl hE.stp (by show (0 : Nat) < _; decide)
    rw [show dcells ⟨p.db, p.lb, yb, none, 0⟩ (crashed s picks) = ((dcells ⟨p.db, p.lb, yb, none, 0⟩ (emptied { s with laid := tear (s.q.zip picks) s.laid })).setIfInBounds 5 (.int .i64 0)).setIfInBounds 6 (.bool false) from by simp [dcells, emptied, crashed]]
    exact hc
  exact worked_turn (s0 := s) (hR := hR) (Turn.refl w _) hD hyb (ht.trans t1 (fun _ _ e => e))
set_option maxHeartbeats 4000000 in
theorem Crash_disk {w : World} {p : DP} {s : DS} (h : DiskAt w p s) (picks : List Int) (PA : Option Addr) (pc : Nat) (hr : RdI w PA picks) (hwf : ∀ x ∈ picks, -9223372036854775808 ≤ x ∧ x ≤ 9223372036854775807)
    (hq : s.q.length < 1099511627776) (hpl : picks.length ≤ 9223372036854775807) :
    Calls Tryz.prog 21 #[.pointer (some ⟨p.db, 0, none⟩), .slice PA picks.length pc] w fun e w' => DPost w p (crashed s picks) (.int .i64 0) e w' := by
  have hmix : Tryz.prog.follows .mixedOrders = true := by kernel_rfl
  have cn := isNone_disk h
  have c3 := h.at.2.2.2.1
  obtain ⟨A0, hA0⟩ : ∃ A0, p.A = A0 := ⟨_, rfl⟩
  obtain ⟨c0, hc0⟩ : ∃ c0, p.cap = c0 := ⟨_, rfl⟩
  rw [hA0, hc0] at c3
  have HA0 := hid hA0
  clear hA0 hc0
  have HW := hid h
  have WF := hid h.wfq
  have RD := hid hr
  have WP := hid hwf
  have HQ := hid hq
  have HPL := hid hpl
  clear h hr hwf hq hpl
  have hn0 : (0 : Int) ≤ (s.q.length : Int) := Int.natCast_nonneg _
  have hn1 : (s.q.length : Int) ≤ 1099511627776 := by have := HQ.out; omega
  have hp0 : (0 : Int) ≤ (picks.length : Int) := Int.natCast_nonneg _
  have hp1 : (picks.length : Int) ≤ 9223372036854775807 := by have := HPL.out; omega
  go_enter Tryz.func21, Tryz.ntmps21
  go_wp2_with fail
  refine cn.mono ?_
  clear cn
  rintro e _ ⟨rfl, rfl⟩
  go_wp2_with fail
  go_loopw [14] (fun i wr => ∃ k : Nat, k ≤ s.q.length ∧ k ≤ picks.length ∧ i = .int .i64 k ∧ MapIs wr p.lb s.blocks (tear ((s.q.zip picks).take k) s.laid) ∧ Turn w wr (· = p.lb)) (fun i _ => s.q.length - (intOf i).toNat)
  case atStart => exact ⟨0, Nat.zero_le _, Nat.zero_le _, rfl, HW.out.laid, Turn.refl _ _⟩
  case round =>
    obtain ⟨k, hk, hkp, rfl, hm, ht⟩ := hrel
    have HM := hid hm
    have HR := hid ht
    clear hm ht
    by_cases hlt : k < s.q.length
    · obtain ⟨g, cap', hA⟩ := ownsRow_form HW.out.q (by omega)
      injection hA with hA _ hcap
      have hz := hid (WF.out _ (List.getElem_mem hlt))
      have PQ := hid (laid_turn HW.out HR.out)
      have HZ := hid (at_queue (by have := PQ.out.2.2; rw [hA] at this; exact this) (fun x hx => (WF.out x hx).2.2) k hlt)
      have hA2 := HA0.out.symm.trans hA
      clear hA hcap
      subst hA2
      have lt1 : (k : Int) < (s.q.length : Int) := by omega
      obtain ⟨z, hzz⟩ : ∃ z, s.q[k] = z := ⟨_, rfl⟩
      rw [hzz] at hz HZ
      by_cases hp : k < picks.length
      · have ne1 : ((k : Int) == (picks.length : Int)) = false := by simp; omega
        have lt2 : (k : Int) < (picks.length : Int) := by omega
        have hlz : k < (s.q.zip picks).length := by rw [List.length_zip]; omega
        have HT := hid (tear_take (s.q.zip picks) s.laid k hlz)
        have hzip : (s.q.zip picks)[k] = (z, picks[k]) := by rw [List.getElem_zip, hzz]
        rw [hzip] at HT
        have HWP := hid (WP.out _ (List.getElem_mem hp))
        obtain ⟨pb, pf, hPA, hcp⟩ : ∃ b f, PA = some ⟨b, f, none⟩ ∧ ∀ j (h : j < picks.length), w.cell? ⟨b, f + j, none⟩ = some (.int .i64 picks[j]) := by
          rcases RD.out with h | h
          · rw [h] at hp; cases hp
          · exact h
        have CP0 := hid (hcp k hp)
        obtain ⟨pick, hpick⟩ : ∃ x, picks[k] = x := ⟨_, rfl⟩
        rw [hpick] at CP0 HT HWP
        clear hcp hpick hzip hzz
        subst hPA
        go_wp2_with (first
          | (refine wpList_load_write rfl (.tmp 17) rfl g _ rfl z hz.out.2.2 (HZ.out.off (by omega)) ?_; go_frame)
          | (refine wpList_alloc_write rfl rfl ?_; intro g6 w1 hk5 hb5 hg5; go_frame; have K5 := hid hk5; have B5 := hid hb5; have G5 := hid hg5; clear hk5 hb5 hg5)
          | (refine wpList_fill_write rfl (.tmp 6) (.tmp 18) rfl g6 rfl z rfl hz.out.2.2 K5.out ?_; intro w2 hk2 hr2; go_frame; have K2 := hid hk2; have R2 := hid hr2; clear hk2 hr2))
        have B2 := hid (keep_own B5.out R2.out G5.out)
        have T2 := hid (HR.out.trans (Turn.of_below B2.out (· = p.lb)) (fun _ _ e => e))
        have NG := hid (show ¬ g6 = p.lb by have := HM.out.lt; have := G5.out; omega)
        have C1 := hid (show ∀ w9, Turn w2 w9 (· = p.lb) → w9.cell? ⟨p.db, 1, none⟩ = some (.map (some p.lb)) from fun w9 h9 => (laid_turn HW.out (T2.out.trans h9 (fun _ _ e => e))).1.cell 1 rfl)
        have CN := hid (show ∀ w9, Turn w2 w9 (· = p.lb) → w9.cell? ⟨g6, 0, none⟩ = some (.int .i64 z.1) from fun w9 h9 => (at_write (K2.out.turn h9 NG.out)).1)
        have AZ := hid (show ∀ w9, Turn w2 w9 (· = p.lb) → At w9 g6 1 (cellsOf z.2) from fun w9 h9 => (at_write (K2.out.turn h9 NG.out)).2)
        have NP := hid (HW.out.laid.ne_cell CP0.out)
        have CP := hid (show ∀ w9, Turn w2 w9 (· = p.lb) → w9.cell? ⟨pb, pf + k, none⟩ = some (.int .i64 pick) from fun w9 h9 => cell_turn CP0.out (T2.out.trans h9 (fun _ _ e => e)) NP.out)
        refine wp_region_held (S := fun w9 => Turn w2 w9 (· = p.lb)) hmix ?_
        change wpAnyH _ _ _ _ _ _ _ _ (World.drew w2)
        have S4 := hid (Turn.drew w2 (· = p.lb))
        have M4 := hid (HM.out.turn (Turn.of_below B2.out.drew fun _ => False) (fun h => h))
        generalize World.drew w2 = w4 at S4 M4 ⊢
        refine wpAnyH_take (i := 0) (v := .pointer (some ⟨p.db, 0, none⟩)) rfl (by kernel_rfl) (by kernel_rfl) (by kernel_rfl) (fun _ _ _ h => h) (Or.inl ⟨by rfl, by intro w9 hS; go_simp⟩) S4.out ?_
        simp only [getElem_toArray, getElem_cons_succ, getElem_cons_zero, Act.put, setIfInBounds_toArray, set_cons_succ, set_cons_zero]
        refine wpAnyH_take (i := 1) (v := .pointer (some ⟨p.db, 0, none⟩)) rfl (by kernel_rfl) (by kernel_rfl) (by kernel_rfl) (fun _ _ _ h => h) (Or.inl ⟨by rfl, by intro w9 hS; go_simp⟩) S4.out ?_
        simp only [getElem_toArray, getElem_cons_succ, getElem_cons_zero, Act.put, setIfInBounds_toArray, set_cons_succ, set_cons_zero]
        refine wpAnyH_take (i := 2) (v := .pointer (some ⟨p.db, 1, none⟩)) rfl (by kernel_rfl) (by kernel_rfl) (by kernel_rfl) (fun _ _ _ h => h) (Or.inl ⟨by rfl, by intro w9 hS; go_simp⟩) S4.out ?_
        simp only [getElem_toArray, getElem_cons_succ, getElem_cons_zero, Act.put, setIfInBounds_toArray, set_cons_succ, set_cons_zero]
        refine wpAnyH_take (i := 3) (v := .map (some p.lb)) rfl (by kernel_rfl) (by kernel_rfl) (by kernel_rfl) (fun _ _ _ h => h) (Or.inl ⟨by rfl, by intro w9 hS; have cc := C1.out w9 hS; go_simp⟩) S4.out ?_
        simp only [getElem_toArray, getElem_cons_succ, getElem_cons_zero, Act.put, setIfInBounds_toArray, set_cons_succ, set_cons_zero]
        refine wpAnyH_take (i := 4) (v := .pointer (some ⟨g6, 0, none⟩)) rfl (by kernel_rfl) (by kernel_rfl) (by kernel_rfl) (fun _ _ _ h => h) (Or.inl ⟨by rfl, by intro w9 hS; go_simp⟩) S4.out ?_
        simp only [getElem_toArray, getElem_cons_succ, getElem_cons_zero, Act.put, setIfInBounds_toArray, set_cons_succ, set_cons_zero]
        refine wpAnyH_take (i := 5) (v := .int .i64 z.1) rfl (by kernel_rfl) (by kernel_rfl) (by kernel_rfl) (fun _ _ _ h => h) (Or.inl ⟨by rfl, by intro w9 hS; have cc := CN.out w9 hS; go_simp⟩) S4.out ?_
        simp only [getElem_toArray, getElem_cons_succ, getElem_cons_zero, Act.put, setIfInBounds_toArray, set_cons_succ, set_cons_zero]
        refine wpAnyH_take (i := 6) (v := .pointer (some ⟨p.db, 0, none⟩)) rfl (by kernel_rfl) (by kernel_rfl) (by kernel_rfl) (fun _ _ _ h => h) (Or.inl ⟨by rfl, by intro w9 hS; go_simp⟩) S4.out ?_
        simp only [getElem_toArray, getElem_cons_succ, getElem_cons_zero, Act.put, setIfInBounds_toArray, set_cons_succ, set_cons_zero]
        refine wpAnyH_take (i := 7) (v := .pointer (some ⟨p.db, 0, none⟩)) rfl (by kernel_rfl) (by kernel_rfl) (by kernel_rfl) (fun _ _ _ h => h) (Or.inl ⟨by rfl, by intro w9 hS; go_simp⟩) S4.out ?_
        simp only [getElem_toArray, getElem_cons_succ, getElem_cons_zero, Act.put, setIfInBounds_toArray, set_cons_succ, set_cons_zero]
        refine wpAnyH_take (i := 8) (v := .pointer (some ⟨p.db, 1, none⟩)) rfl (by kernel_rfl) (by kernel_rfl) (by kernel_rfl) (fun _ _ _ h => h) (Or.inl ⟨by rfl, by intro w9 hS; go_simp⟩) S4.out ?_
        simp only [getElem_toArray, getElem_cons_succ, getElem_cons_zero, Act.put, setIfInBounds_toArray, set_cons_succ, set_cons_zero]
        refine wpAnyH_take (i := 9) (v := .map (some p.lb)) rfl (by kernel_rfl) (by kernel_rfl) (by kernel_rfl) (fun _ _ _ h => h) (Or.inl ⟨by rfl, by intro w9 hS; have cc := C1.out w9 hS; go_simp⟩) S4.out ?_
        simp only [getElem_toArray, getElem_cons_succ, getElem_cons_zero, Act.put, setIfInBounds_toArray, set_cons_succ, set_cons_zero]
        refine wpAnyH_take (i := 10) (v := .pointer (some ⟨g6, 0, none⟩)) rfl (by kernel_rfl) (by kernel_rfl) (by kernel_rfl) (fun _ _ _ h => h) (Or.inl ⟨by rfl, by intro w9 hS; go_simp⟩) S4.out ?_
        simp only [getElem_toArray, getElem_cons_succ, getElem_cons_zero, Act.put, setIfInBounds_toArray, set_cons_succ, set_cons_zero]
        refine wpAnyH_take (i := 11) (v := .int .i64 z.1) rfl (by kernel_rfl) (by kernel_rfl) (by kernel_rfl) (fun _ _ _ h => h) (Or.inl ⟨by rfl, by intro w9 hS; have cc := CN.out w9 hS; go_simp⟩) S4.out ?_
        simp only [getElem_toArray, getElem_cons_succ, getElem_cons_zero, Act.put, setIfInBounds_toArray, set_cons_succ, set_cons_zero]
        refine wpAnyH_take (i := 13) (v := .pointer (some ⟨g6, 1, none⟩)) rfl (by kernel_rfl) (by kernel_rfl) (by kernel_rfl) (fun _ _ _ h => h) (Or.inl ⟨by rfl, by intro w9 hS; go_simp⟩) S4.out ?_
        simp only [getElem_toArray, getElem_cons_succ, getElem_cons_zero, Act.put, setIfInBounds_toArray, set_cons_succ, set_cons_zero]
        refine wpAnyH_take (i := 14) (v := bv z.2) rfl (by kernel_rfl) (by kernel_rfl) (by kernel_rfl) (fun _ _ _ h => h) (yieldsIf_load_blk rfl (.tmp 36) rfl g6 1 rfl z.2 hz.out.2.2 AZ.out) S4.out ?_
        simp only [getElem_toArray, getElem_cons_succ, getElem_cons_zero, Act.put, setIfInBounds_toArray, set_cons_succ, set_cons_zero]
        refine wpAnyH_take (i := 15) (v := .slice (some ⟨pb, pf, none⟩) picks.length pc) rfl (by kernel_rfl) (by kernel_rfl) (by kernel_rfl) (fun _ _ _ h => h) (Or.inl ⟨by rfl, by intro w9 hS; go_simp⟩) S4.out ?_
        simp only [getElem_toArray, getElem_cons_succ, getElem_cons_zero, Act.put, setIfInBounds_toArray, set_cons_succ, set_cons_zero]
        refine wpAnyH_take (i := 16) (v := .int .i64 (k : Int)) rfl (by kernel_rfl) (by kernel_rfl) (by kernel_rfl) (fun _ _ _ h => h) (Or.inl ⟨by rfl, by intro w9 hS; go_simp⟩) S4.out ?_
        simp only [getElem_toArray, getElem_cons_succ, getElem_cons_zero, Act.put, setIfInBounds_toArray, set_cons_succ, set_cons_zero]
        refine wpAnyH_take (i := 17) (v := .pointer (some ⟨pb, pf + k, none⟩)) rfl (by kernel_rfl) (by kernel_rfl) (by kernel_rfl) (fun _ _ _ h => h) (Or.inl ⟨by rfl, by intro w9 hS; go_simp⟩) S4.out ?_
        simp only [getElem_toArray, getElem_cons_succ, getElem_cons_zero, Act.put, setIfInBounds_toArray, set_cons_succ, set_cons_zero]
        refine wpAnyH_take (i := 18) (v := .int .i64 pick) rfl (by kernel_rfl) (by kernel_rfl) (by kernel_rfl) (fun _ _ _ h => h) (Or.inl ⟨by rfl, by intro w9 hS; have cc := CP.out w9 hS; go_simp⟩) S4.out ?_
        simp only [getElem_toArray, getElem_cons_succ, getElem_cons_zero, Act.put, setIfInBounds_toArray, set_cons_succ, set_cons_zero]
        have hlt16 := hid (show z.1 < 16384 by have := HW.out.hi; have := hz.out.2.1; omega)
        have TL := hid (tell_len M4.out z.1 hz.out.1 hlt16.out).1
        refine wpAnyH_ready (rs := [12]) (by kernel_rfl) (by simp) ?_
        refine AllReadyH.cons rfl (fun K hK => ?_) AllReadyH.nil
        dsimp only [getElem_toArray, getElem_cons_succ, getElem_cons_zero]
        refine step_if rfl ?_
        refine wp_look (.tmp 32) (.tmp 34) rfl rfl z.1 rfl M4.out hz.out.1 hlt16.out ?_
        refine hK.out _ _ S4.out (fun _ => ?_)
        clear hK K
        simp only [getElem_toArray, getElem_cons_succ, getElem_cons_zero, Act.put, setIfInBounds_toArray, set_cons_succ, set_cons_zero]
        refine wpAnyH_ready (rs := [19]) (by kernel_rfl) (by simp) ?_
        refine AllReadyH.cons rfl (fun K hK => ?_) AllReadyH.nil
        dsimp only [getElem_toArray, getElem_cons_succ, getElem_cons_zero]
        go_simp
        refine (torn_any _ z.2 pick _ TL.out hz.out.2.2 HWP.out.1 HWP.out.2).mono ?_
        rintro e w5 ⟨rfl, hb5⟩
        have B5' := hid hb5
        have S5 := hid (S4.out.trans (Turn.of_below hb5 (· = p.lb)) (fun _ _ e => e))
        have M5 := hid (M4.out.turn (Turn.of_below hb5 fun _ => False) (fun h => h))
        clear hb5
        refine hK.out _ _ S5.out (fun _ => ?_)
        clear hK K
        try simp only [getElem_toArray, getElem_cons_succ, getElem_cons_zero, Act.put, setIfInBounds_toArray, set_cons_succ, set_cons_zero]
        refine wpAnyH_ready (rs := [20]) (by kernel_rfl) (by simp) ?_
        refine AllReadyH.cons rfl (fun K hK => ?_) AllReadyH.nil
        dsimp only [getElem_toArray, getElem_cons_succ, getElem_cons_zero]
        refine step_if rfl ?_
        refine wp_upd (.tmp 26) (.tmp 28) (.tmp 42) rfl rfl z.1 rfl (torn _ z.2 pick) rfl (torn_len _ _ _ TL.out hz.out.2.2) M5.out hz.out.1 hz.out.2.1 HW.out.hi ?_
        intro w6 hm6 hg6
        have S6 := hid (S5.out.trans (Turn.of_grown hg6) (fun i _ e => by injection e with e; exact e.symm))
        have M6 := hid (show MapIs w6 p.lb s.blocks (tear ((s.q.zip picks).take (k + 1)) s.laid) by rw [HT.out]; exact hm6)
        have T6 := hid (T2.out.trans S6.out (fun _ _ e => e))
        clear hm6 hg6
        refine hK.out _ _ S6.out (fun _ => ?_)
        clear hK K
        try simp only [getElem_toArray, getElem_cons_succ, getElem_cons_zero, Act.put, setIfInBounds_toArray, set_cons_succ, set_cons_zero]
        refine wpAnyH_done (by kernel_rfl) ?_ _
        go_wp2
        go_roundw
        case rel => exact ⟨k + 1, by omega, by omega, by go_num, M6.out, T6.out⟩
        case measure => simp [intOf]; omega
      · have eq1 : ((k : Int) == (picks.length : Int)) = true := by simp; omega
        clear hzz
        have HK := hid (show picks.length ≤ k by omega)
        go_wp2_with (first
          | (refine wpList_load_write rfl (.tmp 17) rfl g _ rfl z hz.out.2.2 (HZ.out.off (by omega)) ?_; go_frame)
          | (refine wpList_alloc_write rfl rfl ?_; intro g6 w1 hk5 hb5 hg5; go_frame; have K5 := hid hk5; have B5 := hid hb5; have G5 := hid hg5; clear hk5 hb5 hg5)
          | (refine wpList_fill_write rfl (.tmp 6) (.tmp 18) rfl g6 rfl z rfl hz.out.2.2 K5.out ?_; intro w2 hk2 hr2; go_frame; have K2 := hid hk2; have R2 := hid hr2; clear hk2 hr2))
        have B2 := hid (keep_own B5.out R2.out G5.out)
        have T2 := hid (HR.out.trans (Turn.of_below B2.out (· = p.lb)) (fun _ _ e => e))
        have M2 := hid (HM.out.turn (Turn.of_below B2.out fun _ => False) (fun h => h))
        have HE := hid (laid_disk HW.out T2.out (f := tear (s.q.zip picks) s.laid) (by have := M2.out; rwa [List.take_of_length_le (by rw [List.length_zip]; have := HK.out; omega)] at this))
        go_wp2_with fail
        refine (emptyQueue_disk HE.out).mono ?_
        rintro e w' ⟨rfl, he, ht⟩
        have HE2 := hid he
        have HT2 := hid ht
        have c5 := he.at.2.2.2.2.2.1
        have c6 := he.at.2.2.2.2.2.2
        have f5 := he.cells.frozen 5
        have f6 := he.cells.frozen 6
        clear he ht
        go_wp2_with fail
        go_ret
        exact crash_end rfl T2.out HE2.out (Nat.le_refl _) HT2.out rfl rfl
    · have HK := hid (show s.q.length ≤ k by omega)
      have HE := hid (laid_disk HW.out HR.out (f := tear (s.q.zip picks) s.laid) (by have := HM.out; rwa [List.take_of_length_le (by rw [List.length_zip]; have := HK.out; omega)] at this))
      go_wp2_with fail
      refine (emptyQueue_disk HE.out).mono ?_
      rintro e w' ⟨rfl, he, ht⟩
      have HE2 := hid he
      have HT2 := hid ht
      have c5 := he.at.2.2.2.2.2.1
      have c6 := he.at.2.2.2.2.2.2
      have f5 := he.cells.frozen 5
      have f6 := he.cells.frozen 6
      clear he ht
      go_wp2_with fail
      go_ret
      exact crash_end rfl HR.out HE2.out (Nat.le_refl _) HT2.out rfl rfl
end Go.Proofs.YtfgbpinfplllgaaGreatDoor
namespace Go.Proofs.YtfgbpinfplllgaaGreatDoor
open Go.RowKit Go.Shelf Go.Maps
set_option maxRecDepth 100000
section
variable {w : World} {ops : Array Oper} {rest : List Oper} {o : Oper} {a : Act} {Q : Exit → Act → World → Prop}
end
end Go.Proofs.YtfgbpinfplllgaaGreatDoor
namespace Go.Proofs.YtfgbpinfplllgaaGreatDoor
open Go.RowKit Go.Shelf Go.Maps
set_option maxRecDepth 100000
def DiskV (w : World) (d : Nat) (s : DS) (F : Nat → Prop) : Prop := ∃ p, p.db = d ∧ DiskAt w p s ∧ ∀ k, foot p k → F k
theorem DPost.v {w w' : World} {p : DP} {s : DS} {v : Value} {e : Ending} {d : Nat} {F : Nat → Prop} (h : DPost w p s v e w') (hd : p.db = d) (hp : ∀ k, foot p k → F k) (hF : ∀ k, w.heap.size ≤ k → F k) : e = .returned v ∧ DiskV w' d s F ∧ Turn w w' F := by
  obtain ⟨he, p', h1, h2, h3, h4⟩ := h
  exact ⟨he, ⟨p', h2.trans hd, h1, fun k hk => (h4 k hk).elim (hp k) (hF k)⟩, h3.mono fun i _ hi => hp i hi⟩
theorem DiskV.turn {w w' : World} {d : Nat} {s : DS} {F G : Nat → Prop} (h : DiskV w d s F) (ht : Turn w w' G) (hG : ∀ k, F k → ¬ G k) : DiskV w' d s F := by
  obtain ⟨p, h1, h2, h3⟩ := h
  exact ⟨p, h1, h2.turn ht (fun k hk => hG k (h3 k hk)), h3⟩
theorem DiskV.below {w w' : World} {d : Nat} {s : DS} {F : Nat → Prop} (h : DiskV w d s F) (hb : Below w.heap.size w w') : DiskV w' d s F := by
  obtain ⟨p, h1, h2, h3⟩ := h
  exact ⟨p, h1, h2.below hb, h3⟩
theorem Write_v {w : World} {d : Nat} {s : DS} {F : Nat → Prop} (h : DiskV w d s F) (hF : ∀ k, w.heap.size ≤ k → F k) (n : Int) (l : Blk) (hl : l.length = 64) (hs : s.steps + 1 < 4611686018427387904) (hq : s.q.length < 1099511627776) :
    Calls Tryz.prog 107 #[.pointer (some ⟨d, 0, none⟩), .int .i64 n, bv l] w fun e w' => e = .returned (.int .i64 (writeE s n)) ∧ DiskV w' d (writeS s n l) F ∧ Turn w w' F := by
  obtain ⟨p, rfl, h2, h3⟩ := h
  exact (Write_disk h2 n l hl hs hq).mono fun e w' h => h.v rfl h3 hF
theorem Flush_v {w : World} {d : Nat} {s : DS} {F : Nat → Prop} (h : DiskV w d s F) (hF : ∀ k, w.heap.size ≤ k → F k) (hs : s.steps + 1 < 4611686018427387904) (hq : s.q.length < 1099511627776) :
    Calls Tryz.prog 66 #[.pointer (some ⟨d, 0, none⟩)] w fun e w' => e = .returned (.int .i64 (flushE s)) ∧ DiskV w' d (flushS s) F ∧ Turn w w' F := by
  obtain ⟨p, rfl, h2, h3⟩ := h
  exact (Flush_disk h2 hs hq).mono fun e w' h => h.v rfl h3 hF
def armS (s : DS) (k : Int) : DS := if s.dark = true ∨ k < 0 then s else armed s k.toNat
def armE (s : DS) (k : Int) : Int := if s.dark = true then 9 else if k < 0 then 2 else 0
theorem Arm_v {w : World} {d : Nat} {s : DS} {F : Nat → Prop} (h : DiskV w d s F) (hF : ∀ k, w.heap.size ≤ k → F k) (k : Int) (hk : k < 9223372036854775808) :
    Calls Tryz.prog 13 #[.pointer (some ⟨d, 0, none⟩), .int .i64 k] w fun e w' => e = .returned (.int .i64 (armE s k)) ∧ DiskV w' d (armS s k) F ∧ Turn w w' F := by
  obtain ⟨p, rfl, h2, h3⟩ := h
  exact (Arm_disk h2 k hk).mono fun e w' h => h.v rfl h3 hF
theorem Crash_v {w : World} {d : Nat} {s : DS} {F : Nat → Prop} (h : DiskV w d s F) (hF : ∀ k, w.heap.size ≤ k → F k) (picks : List Int) (PA : Option Addr) (pc : Nat) (hr : RdI w PA picks) (hwf : ∀ x ∈ picks, -9223372036854775808 ≤ x ∧ x ≤ 9223372036854775807)
    (hq : s.q.length < 1099511627776) (hpl : picks.length ≤ 9223372036854775807) :
    Calls Tryz.prog 21 #[.pointer (some ⟨d, 0, none⟩), .slice PA picks.length pc] w fun e w' => e = .returned (.int .i64 0) ∧ DiskV w' d (crashed s picks) F ∧ Turn w w' F := by
  obtain ⟨p, rfl, h2, h3⟩ := h
  exact (Crash_disk h2 picks PA pc hr hwf hq hpl).mono fun e w' h => h.v rfl h3 hF
theorem Read_v {w : World} {d : Nat} {s : DS} {F : Nat → Prop} (h : DiskV w d s F) (k : Int) : Calls Tryz.prog 103 #[.pointer (some ⟨d, 0, none⟩), .int .i64 k] w fun e w' => e = .returned (.tuple #[bv (readV s k), .int .i64 (readE s k)]) ∧ Below w.heap.size w w' := by
  obtain ⟨p, rfl, h2, h3⟩ := h
  exact Read_disk h2 k
theorem Dark_v {w : World} {d : Nat} {s : DS} {F : Nat → Prop} (h : DiskV w d s F) : Calls Tryz.prog 45 #[.pointer (some ⟨d, 0, none⟩)] w fun e w' => e = .returned (.bool s.dark) ∧ w = w' := by
  obtain ⟨p, rfl, h2, h3⟩ := h
  exact Dark_disk h2
theorem New_v (n : Nat) (w : World) (h0 : 64 ≤ n) (h1 : n ≤ 16384) : Calls Tryz.prog 8 #[.int .i64 (n : Int)] w fun e w' => ∃ d, e = .returned (.tuple #[.pointer (some ⟨d, 0, none⟩), .int .i64 0]) ∧ DiskV w' d (fresh n) (w.heap.size ≤ ·) ∧ Below w.heap.size w w' :=
  (New_disk n w h0 h1).mono fun e w' ⟨he, hd, hb⟩ => ⟨_, he, ⟨newAt w, rfl, hd, by
    rintro k (hk | hk | hk | hk)
    · rw [hk]; show w.heap.size ≤ w.heap.size + 2; omega
    · rw [hk]; exact Nat.le_refl _
    · rw [hk]; show w.heap.size ≤ w.heap.size + 1; omega
    · cases hk⟩, hb⟩
end Go.Proofs.YtfgbpinfplllgaaGreatDoor
