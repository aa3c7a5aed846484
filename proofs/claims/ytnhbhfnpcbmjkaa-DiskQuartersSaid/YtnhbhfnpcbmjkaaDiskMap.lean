/- A map of blocks in memory: what it tells, and the laws at a look-up and at a store. -/
import Derived.Test.YtnhbhfnpcbmjkaaBlk
import Derived.Test.YtnhbhfnpcbmjkaaDiskPlain
import Derived.Maps.OwnSet
import Derived.Maps.RangeWalk
namespace Go.Proofs.Ytnhbhfnpcbmjkaa
open Go.RowKit Go.Shelf Go.Maps
set_option linter.unusedVariables false

/-- a block's value -/
def bv (l : Blk) : Value := .agg (cellsOf l).toArray
theorem zero30 (w : World) : (zeroValue 30).run Try.prog w = .ok (.agg (cellsOf zb).toArray) w := by kernel_rfl
theorem info30 : (Try.prog.info? 30).map (·.size) = some 64 := by kernel_rfl
theorem info30' (l : Blk) (h : l.length = 64) : (Try.prog.info? 30).map (·.size) = some (cellsOf l).length := by rw [cellsOf_length, h]; exact info30
def isU8 : Value → Bool
  | .int .u8 a => decide (0 ≤ a) && decide (a < 256)
  | _ => false
def byteOf : Value → UInt8
  | .int _ a => UInt8.ofNat a.toNat
  | _ => 0
/-- how a map's element reads -/
def blkElem : Value → Option (DataW Unit × List MemPlace)
  | .agg cs => if cs.size = 64 ∧ cs.toList.all isU8 = true then some (.lit (.string (cs.toList.map byteOf)), []) else none
  | _ => none
theorem byte_cells (l : List UInt8) : (cellsOf l).map byteOf = l := by
  unfold cellsOf
  rw [List.map_map]
  refine (List.map_congr_left fun c _ => ?_).trans (List.map_id l)
  simp [byteOf]
theorem cells_byte : ∀ cs : List Value, cs.all isU8 = true → cellsOf (cs.map byteOf) = cs
  | [], _ => rfl
  | v :: cs, h => by
    rw [List.all_cons, Bool.and_eq_true] at h
    rw [List.map_cons]
    show _ :: cellsOf (cs.map byteOf) = _
    rw [cells_byte cs h.2]
    congr 1
    have hv := h.1
    unfold isU8 at hv
    split at hv
    · rename_i a
      simp only [Bool.and_eq_true, decide_eq_true_eq] at hv
      simp only [byteOf]
      congr 1
      rw [UInt8.toNat_ofNat']
      omega
    · cases hv
theorem cells_u8 (l : List UInt8) : (cellsOf l).all isU8 = true := by
  unfold cellsOf
  rw [List.all_map, List.all_eq_true]
  intro c _
  have := c.toNat_lt
  simp [isU8]
  omega
theorem blkElem_mk {l : Blk} (h : l.length = 64) : blkElem (bv l) = some (.lit (.string l), []) := by
  unfold blkElem bv
  simp only
  rw [if_pos ⟨by simp [cellsOf, h], by simpa using cells_u8 l⟩]
  simp [byte_cells]
theorem blkElem_inv {v : Value} {z : DataW Unit × List MemPlace} (h : blkElem v = some z) : ∃ l : Blk, l.length = 64 ∧ v = bv l ∧ z = (.lit (.string l), []) := by
  unfold blkElem at h
  split at h
  · rename_i cs
    split at h
    · rename_i hc
      cases h
      refine ⟨cs.toList.map byteOf, by simp [hc.1], ?_, rfl⟩
      unfold bv
      rw [cells_byte _ hc.2]
    · cases h
  · cases h
/-- a block and another value, handed back -/
theorem end_blk {fn : Func} {p u : Tmp} (h : fn.results = #[.cell p 30, .tmp u]) (tmps : Array Value) (w : World) (b f : Nat) (l : Blk) (v : Value) (hp : tmps.getD p undef = .pointer (some ⟨b, f, none⟩)) (hv : tmps.getD u undef = v)
    (hc : At w b f (cellsOf l)) (hl : l.length = 64) : (results fn tmps).run Try.prog w = .ok (.tuple #[bv l, v]) w := by
  rw [results_agg_tmp h tmps w b f (cellsOf l) hp hc _ Try.underlying30 rfl (info30' l hl), hv]
  rfl
theorem end_blk1 {fn : Func} {p : Tmp} (h : fn.results = #[.cell p 30]) (tmps : Array Value) (w : World) (b f : Nat) (l : Blk) (hp : tmps.getD p undef = .pointer (some ⟨b, f, none⟩))
    (hc : At w b f (cellsOf l)) (hl : l.length = 64) : (results fn tmps).run Try.prog w = .ok (bv l) w :=
  results_agg h tmps w b f (cellsOf l) hp hc _ Try.underlying30 rfl (info30' l hl)
/-- a variable for a block, filled -/
theorem cs_fill {w : World} {g : Nat} {t : TypeId} {l0 : Blk} (h : Cs w g t (cellsOf l0).toArray) (l : Blk) (h0 : l0.length = 64) (hl : l.length = 64) : Cs (w.setRow g (over (cellsOf l0).toArray 0 (cellsOf l))) g t (cellsOf l).toArray := by
  have := h.row (over (cellsOf l0).toArray 0 (cellsOf l))
  rwa [over_whole _ _ (by simp [cellsOf_length, h0, hl])] at this ⊢
theorem fill_fits (l0 l : Blk) (h0 : l0.length = 64) (hl : l.length = 64) : 0 + (cellsOf l).length ≤ (cellsOf l0).toArray.size := by simp [cellsOf_length, h0, hl]
section
variable {w : World} {ops : Array Oper} {rest : List Oper} {o : Oper} {a : Act} {Q : Exit → Act → World → Prop} {K : Act → World → Prop}
/-- a block's zero value, built -/
theorem wp_build_zero (ho : o.op = .build 30 #[]) (h : K (a.put o.dst (bv zb)) w) : o.wp Try.prog a w K Q := by
  have hz := zero30
  unfold Oper.wp execOp
  have hs := Try.sizeOf5
  simp only [ho, Instr.build, Array.map_empty, hz, Sem.run_bind, Sem.run_pure, Result.andThen_ok, run_underlying Try.underlying30, hs, Instr.fill]
  exact h
end
/-- the key as data -/
abbrev ky (k : Int) : Lit := .int .i64 k
/-- what a datum tells of a key -/
def look (D : DataW Unit) (k : Int) : Option Blk := if Maps.has D (ky k) = true then (match D.atKey (ky k) (.lit (.string [])) with | .lit (.string l) => some l | _ => none) else none
def KeysIn (B : Nat) (D : DataW Unit) : Prop := ∃ es, D = .map es ∧ ∀ p ∈ es, ∃ k : Nat, p.1 = ky (k : Int) ∧ k < B
theorem keys_size : ∀ (B : Nat) (es : List (Lit × DataW Unit)), es.Pairwise (fun p q => p.1 ≠ q.1) → (∀ p ∈ es, ∃ k : Nat, p.1 = ky (k : Int) ∧ k < B) → es.length ≤ B
  | 0, [], _, _ => Nat.le_refl _
  | 0, p :: es, _, h => by obtain ⟨k, _, hk⟩ := h p (by simp); omega
  | B + 1, es, hp, h => by
    have key : ∀ es : List (Lit × DataW Unit), es.Pairwise (fun p q => p.1 ≠ q.1) → es.length ≤ (es.filter fun p => !(p.1.sameKey (ky (B : Int)))).length + 1 := by
      intro es hp
      induction es with
      | nil => simp
      | cons p es ih =>
        rw [List.pairwise_cons] at hp
        rw [List.filter_cons]
        split
        · rw [List.length_cons, List.length_cons]; have := ih hp.2; omega
        · rename_i hs
          have hk : p.1 = ky (B : Int) := by
            by_cases e : p.1 = ky (B : Int)
            · exact e
            · exact absurd (by rw [Maps.sameKey_ne e]; rfl) hs
          have e : (es.filter fun p => !(p.1.sameKey (ky (B : Int)))) = es := List.filter_eq_self.2 fun q hq => by
            rw [Maps.sameKey_ne (fun e => hp.1 q hq (hk.trans e.symm))]; rfl
          rw [e, List.length_cons]
          exact Nat.le_refl _
    have ih := keys_size B (es.filter fun p => !(p.1.sameKey (ky (B : Int)))) (hp.filter _) (fun p hpm => by
      rw [List.mem_filter] at hpm
      obtain ⟨k, hk, hlt⟩ := h p hpm.1
      refine ⟨k, hk, ?_⟩
      have : k ≠ B := by
        rintro rfl
        rw [hk] at hpm
        have := hpm.2
        simp [Lit.sameKey] at this
      omega)
    have := key es hp
    omega
theorem look_nil (k : Int) : look (.map []) k = none := rfl
theorem look_put {D : DataW Unit} (hD : IsMap D) (k i : Int) (l : Blk) : look (D.put (ky k) (.lit (.string l))) i = upd (look D) k l i := by
  unfold look upd
  by_cases h : i = k
  · subst h
    rw [if_pos rfl, has_put_same hD (by trivial), if_pos rfl, atKey_put_same hD (by trivial)]
  · have hne : ky i ≠ ky k := fun e => h (by injection e)
    rw [if_neg h, has_put_other hne, atKey_put_other hne]
theorem look_at {D : DataW Unit} {k : Int} {l : Blk} {l0 : Blk} (h : D.atKey (ky k) (.lit (.string l0)) = .lit (.string l)) : l = (look D k).getD l0 := by
  unfold look
  by_cases hh : Maps.has D (ky k) = true
  · rw [if_pos hh]
    have e : D.atKey (ky k) (.lit (.string [])) = .lit (.string l) := by
      rw [← h]
      cases D with
      | map es =>
        rw [Maps.has_eq] at hh
        unfold DataW.atKey
        simp only
        cases hf : es.find? (fun p => p.1.sameKey (ky k)) with
        | none =>
          rw [List.find?_eq_none] at hf
          obtain ⟨x, hx, hy⟩ := List.any_eq_true.1 hh
          exact absurd hy (hf x hx)
        | some p => rfl
      | _ => cases hh
    rw [e]
    rfl
  · rw [if_neg hh]
    have hf : Maps.has D (ky k) = false := by simpa using hh
    rw [atKey_of_not_has hf] at h
    injection h with h
    injection h with h
    exact h.symm
theorem look_has {D : DataW Unit} {k : Int} {l : Blk} {l0 : Blk} (h : D.atKey (ky k) (.lit (.string l0)) = .lit (.string l)) : Maps.has D (ky k) = (look D k).isSome := by
  unfold look
  by_cases hh : Maps.has D (ky k) = true
  · rw [if_pos hh, hh]
    have e : D.atKey (ky k) (.lit (.string [])) = .lit (.string l) := by
      rw [← h]
      cases D with
      | map es =>
        rw [Maps.has_eq] at hh
        unfold DataW.atKey
        simp only
        cases hf : es.find? (fun p => p.1.sameKey (ky k)) with
        | none =>
          rw [List.find?_eq_none] at hf
          obtain ⟨x, hx, hy⟩ := List.any_eq_true.1 hh
          exact absurd hy (hf x hx)
        | some p => rfl
      | _ => cases hh
    rw [e]
    rfl
  · rw [if_neg hh]
    simpa using hh
/-- block b is a map of blocks, with keys below B, that tells f -/
def MapIs (w : World) (b B : Nat) (f : Tab) : Prop := ∃ D : DataW Unit, w.ownsMap Try.prog 3 blkElem b B D ∧ KeysIn B D ∧ ∀ k, look D k = f k
theorem MapIs.lt {w : World} {b B : Nat} {f : Tab} (h : MapIs w b B f) : b < w.heap.size := by obtain ⟨D, h, _⟩ := h; exact h.lt
theorem MapIs.turn {w w' : World} {F : Nat → Prop} {b B : Nat} {f : Tab} (h : MapIs w b B f) (ht : Turn w w' F) (hF : ¬ F b) : MapIs w' b B f := by
  obtain ⟨D, h, r⟩ := h
  exact ⟨D, ownsMap_turn h ht hF, r⟩
theorem MapIs.new (w : World) (B : Nat) : MapIs (w.alloc (.map #[] 0)) w.heap.size B none' :=
  ⟨.map [], (World.ownsMap_made w Try.prog _ _).mono (Nat.zero_le _), ⟨[], rfl, by simp⟩, fun k => rfl⟩
theorem keyed : Keyed Try.prog 3 := int_keyed Try.underlying3
theorem wf64 {k : Int} (h0 : -9223372036854775808 ≤ k) (h1 : k ≤ 9223372036854775807) : (Lit.int .i64 k).wf = true := by
  simp [Lit.wf, IntKind.min, IntKind.max, IntKind.signed, IntKind.bits]
  omega
theorem tell_len {w : World} {b B : Nat} {f : Tab} (h : MapIs w b B f) (k : Int) (h0 : 0 ≤ k) (h1 : k < 16384) : (tell f k).length = 64 ∧ (∀ l, f k = some l → l.length = 64) := by
  obtain ⟨D, hown, -, hf⟩ := h
  obtain ⟨v, ps, -, hR⟩ := hown.lookup keyed (t := 46) (e := 30) Try.underlying46 (zero30 w) (blkElem_mk zb_len) (keyOf_int_mk Try.underlying3 (wf64 (k := k) (by omega) (by omega)))
  obtain ⟨l, hl, -, hz⟩ := blkElem_inv hR
  have hat := look_at (congrArg Prod.fst hz)
  rw [hf k] at hat
  refine ⟨by unfold tell; rw [← hat]; exact hl, fun l' h' => ?_⟩
  rw [h'] at hat
  rw [← show l = l' from hat]
  exact hl
theorem run_look {w : World} {b B : Nat} {f : Tab} (h : MapIs w b B f) (k : Int) (h0 : 0 ≤ k) (h1 : k < 16384) : (Instr.lookup 46 (.map (some b)) (.int .i64 k) false).run Try.prog w = .ok (bv (tell f k)) w := by
  obtain ⟨D, hown, -, hf⟩ := h
  obtain ⟨v, ps, hrun, hR⟩ := hown.lookup keyed (t := 46) (e := 30) Try.underlying46 (zero30 w) (blkElem_mk zb_len) (keyOf_int_mk Try.underlying3 (wf64 (k := k) (by omega) (by omega)))
  obtain ⟨l, hl, rfl, hz⟩ := blkElem_inv hR
  have hat := look_at (congrArg Prod.fst hz)
  rw [hf k] at hat
  rw [hrun, hat]
  rfl
theorem run_look_ok {w : World} {b B : Nat} {f : Tab} (h : MapIs w b B f) (k : Int) (h0 : 0 ≤ k) (h1 : k < 16384) : (Instr.lookup 46 (.map (some b)) (.int .i64 k) true).run Try.prog w = .ok (.tuple #[bv (tell f k), .bool (f k).isSome]) w := by
  obtain ⟨D, hown, -, hf⟩ := h
  obtain ⟨v, ps, hrun, hR⟩ := hown.look_ok keyed (t := 46) (e := 30) Try.underlying46 (zero30 w) (blkElem_mk zb_len) (keyOf_int_mk Try.underlying3 (wf64 (k := k) (by omega) (by omega)))
  obtain ⟨l, hl, rfl, hz⟩ := blkElem_inv hR
  have hat := look_at (congrArg Prod.fst hz)
  have hhas := look_has (congrArg Prod.fst hz)
  rw [hf k] at hat hhas
  rw [hrun, hat, hhas]
  rfl
theorem run_upd {w : World} {b B : Nat} {f : Tab} (h : MapIs w b B f) (k : Int) (h0 : 0 ≤ k) (h1 : k < B) (hB : B ≤ 16384) {l : Blk} (hl : l.length = 64) :
    ∃ w', (Instr.mapUpdate 46 (.map (some b)) (.int .i64 k) (bv l)).run Try.prog w = .ok () w' ∧ MapIs w' b B (upd f k l) ∧ w.grownBy w' (some b) := by
  obtain ⟨D, hown, hk, hf⟩ := h
  obtain ⟨w', hrun, hown', hg⟩ := hown.update keyed (t := 46) (e := 30) Try.underlying46 (by unfold maxLen; omega) (keyOf_int_mk Try.underlying3 (wf64 (k := k) (by omega) (by omega))) (blkElem_mk hl)
  have hD : IsMap D := hown.isMap
  have hkeys : KeysIn B (D.put (ky k) (.lit (.string l))) := by
    obtain ⟨es, rfl, he⟩ := hk
    refine ⟨_, rfl, fun p hp => ?_⟩
    have hmem : ∀ (x : Lit × DataW Unit) (l : List (Lit × DataW Unit)) (p : Lit × DataW Unit), p ∈ DataW.insert x l → p = x ∨ p ∈ l := by
      intro x l p
      induction l with
      | nil => intro h; simp [DataW.insert] at h; exact .inl h
      | cons y r ih =>
        intro h
        unfold DataW.insert at h
        split at h
        · rcases List.mem_cons.1 h with h | h
          · exact .inl h
          · exact .inr h
        · rcases List.mem_cons.1 h with h | h
          · exact .inr (by rw [h]; exact List.mem_cons_self)
          · rcases ih h with h | h
            · exact .inl h
            · exact .inr (List.mem_cons_of_mem _ h)
    rcases hmem _ _ _ hp with rfl | hp
    · exact ⟨k.toNat, by simp only [ky]; congr 1; omega, by omega⟩
    · exact he p (List.mem_filter.1 hp).1
  refine ⟨w', hrun, ⟨_, ?_, hkeys, fun i => ?_⟩, hg⟩
  · have hT := hown'.tidy keyed
    obtain ⟨es, he, hke⟩ := hkeys
    obtain ⟨es2, he2, hpw⟩ := hT
    have hes : es2 = es := by rw [he] at he2; injection he2 with h; exact h.symm
    subst hes
    have hle := keys_size B es2 hpw hke
    obtain ⟨es3, clock, hb, F, hs, hD3⟩ := hown'
    refine ⟨es3, clock, hb, F, ?_, hD3⟩
    rw [he] at hD3
    injection hD3 with hD3
    have := congrArg List.length hD3
    rw [length_sorted] at this
    simp at this
    omega
  · rw [look_put hD]
    unfold upd
    split
    · rfl
    · exact hf i

section
variable {w : World} {ops : Array Oper} {rest : List Oper} {o : Oper} {a : Act} {Q : Exit → Act → World → Prop} {K : Act → World → Prop}
theorem wp_look {b B : Nat} {f : Tab} (m x : Operand) (ho : o.op = .lookup 46 m x false) (hm : a.eval m = .map (some b)) (k : Int) (hx : a.eval x = .int .i64 k) (h : MapIs w b B f) (h0 : 0 ≤ k) (h1 : k < 16384)
    (hK : K (a.put o.dst (bv (tell f k))) w) : o.wp Try.prog a w K Q := by
  unfold Oper.wp
  simp [execOp, ho, hm, hx, run_look h k h0 h1, Result.andThen]
  exact hK
theorem wp_look_ok {b B : Nat} {f : Tab} (m x : Operand) (ho : o.op = .lookup 46 m x true) (hm : a.eval m = .map (some b)) (k : Int) (hx : a.eval x = .int .i64 k) (h : MapIs w b B f) (h0 : 0 ≤ k) (h1 : k < 16384)
    (hK : K (a.put o.dst (.tuple #[bv (tell f k), .bool (f k).isSome])) w) : o.wp Try.prog a w K Q := by
  unfold Oper.wp
  simp [execOp, ho, hm, hx, run_look_ok h k h0 h1, Result.andThen]
  exact hK
theorem wp_upd {b B : Nat} {f : Tab} (m x v : Operand) (ho : o.op = .mapUpdate 46 m x v) (hm : a.eval m = .map (some b)) (k : Int) (hx : a.eval x = .int .i64 k) (l : Blk) (hv : a.eval v = bv l) (hl : l.length = 64) (h : MapIs w b B f)
    (h0 : 0 ≤ k) (h1 : k < B) (hB : B ≤ 16384) (hK : ∀ w', MapIs w' b B (upd f k l) → w.grownBy w' (some b) → K (a.put o.dst undef) w') : o.wp Try.prog a w K Q := by
  obtain ⟨w', hrun, r1, r2⟩ := run_upd h k h0 h1 hB hl
  unfold Oper.wp
  simp [execOp, ho, hm, hx, hv, hrun, Result.andThen]
  exact hK w' r1 r2
theorem wpList_look {b B : Nat} {f : Tab} (hgd : o.guard = none) (m x : Operand) (ho : o.op = .lookup 46 m x false) (hm : a.eval m = .map (some b)) (k : Int) (hx : a.eval x = .int .i64 k) (h : MapIs w b B f) (h0 : 0 ≤ k) (h1 : k < 16384)
    (l : Blk) (hl : tell f k = l) (hK : wpList Try.prog ops Q rest (a.put o.dst (bv l)) w) : wpList Try.prog ops Q (o :: rest) a w :=
  wpList_plain hgd fun _ hh => wp_look m x ho hm k hx h h0 h1 (hh _ _ (by rw [hl]; exact hK))
theorem wpList_look_ok {b B : Nat} {f : Tab} (hgd : o.guard = none) (m x : Operand) (ho : o.op = .lookup 46 m x true) (hm : a.eval m = .map (some b)) (k : Int) (hx : a.eval x = .int .i64 k) (h : MapIs w b B f) (h0 : 0 ≤ k) (h1 : k < 16384)
    (l : Blk) (hl : tell f k = l) (c : Bool) (hc : (f k).isSome = c) (hK : wpList Try.prog ops Q rest (a.put o.dst (.tuple #[bv l, .bool c])) w) : wpList Try.prog ops Q (o :: rest) a w :=
  wpList_plain hgd fun _ hh => wp_look_ok m x ho hm k hx h h0 h1 (hh _ _ (by rw [hl, hc]; exact hK))
theorem wpList_upd {b B : Nat} {f : Tab} (hgd : o.guard = none) (m x v : Operand) (ho : o.op = .mapUpdate 46 m x v) (hm : a.eval m = .map (some b)) (k : Int) (hx : a.eval x = .int .i64 k) (l : Blk) (hv : a.eval v = bv l) (hl : l.length = 64) (h : MapIs w b B f)
    (h0 : 0 ≤ k) (h1 : k < B) (hB : B ≤ 16384) (hK : ∀ w', MapIs w' b B (upd f k l) → w.grownBy w' (some b) → wpList Try.prog ops Q rest (a.put o.dst undef) w') : wpList Try.prog ops Q (o :: rest) a w :=
  wpList_plain hgd fun _ hh => wp_upd m x v ho hm k hx l hv hl h h0 h1 hB fun w' r1 r2 => hh _ _ (hK w' r1 r2)
theorem wpList_build_zero (hgd : o.guard = none) (ho : o.op = .build 30 #[]) (hK : wpList Try.prog ops Q rest (a.put o.dst (bv zb)) w) : wpList Try.prog ops Q (o :: rest) a w :=
  wpList_plain hgd fun _ hh => wp_build_zero ho (hh _ _ hK)
/-- .. of blocks: a variable that is made, one that is filled, one that is read -/
theorem wpList_alloc_blk (hgd : o.guard = none) (ho : o.op = .alloc 30) (hK : ∀ g w', Cs w' g 30 (cellsOf zb).toArray → Below w.heap.size w w' → w.heap.size ≤ g → wpList Try.prog ops Q rest (a.put o.dst (.pointer (some ⟨g, 0, none⟩))) w') : wpList Try.prog ops Q (o :: rest) a w :=
  wpList_alloc_agg hgd 30 ho (cellsOf zb) zero30 (hK _ _ (Cs.new _ _ _) ((Below.refl _ _).alloc (Nat.le_refl _) _) (Nat.le_refl _))
theorem wpList_box_blk (hgd : o.guard = none) (x : Operand) (ho : o.op = .box 30 x) (l : Blk) (hx : a.eval x = bv l) (hK : ∀ g w', Cs w' g 30 (cellsOf l).toArray → Below w.heap.size w w' → w.heap.size ≤ g → wpList Try.prog ops Q rest (a.put o.dst (.pointer (some ⟨g, 0, none⟩))) w') : wpList Try.prog ops Q (o :: rest) a w :=
  wpList_box_agg hgd 30 x ho (cellsOf l) hx (hK _ _ (Cs.new _ _ _) ((Below.refl _ _).alloc (Nat.le_refl _) _) (Nat.le_refl _))
theorem wpList_fill_blk (hgd : o.guard = none) (x y : Operand) (ho : o.op = .store 30 x y) (g : Nat) (hx : a.eval x = .pointer (some ⟨g, 0, none⟩)) (l : Blk) (hy : a.eval y = bv l) (hl : l.length = 64) (hg : Cs w g 30 (cellsOf zb).toArray)
    (hK : ∀ w', Cs w' g 30 (cellsOf l).toArray → w.grownBy w' (some g) → wpList Try.prog ops Q rest (a.put o.dst undef) w') : wpList Try.prog ops Q (o :: rest) a w :=
  wpList_store_agg hgd 30 x y ho g 0 hx (cellsOf l) hy 30 (cellsOf zb).toArray hg (fill_fits zb l zb_len hl) (cellsOf_one l) (info30' l hl) (hK _ (cs_fill hg l zb_len hl) (grown_row _ _ _))
theorem wpList_load_blk (hgd : o.guard = none) (x : Operand) (ho : o.op = .load 30 x) (b f : Nat) (hx : a.eval x = .pointer (some ⟨b, f, none⟩)) (l : Blk) (hl : l.length = 64) (hc : At w b f (cellsOf l))
    (hK : wpList Try.prog ops Q rest (a.put o.dst (bv l)) w) : wpList Try.prog ops Q (o :: rest) a w :=
  wpList_load_agg hgd 30 x ho b f hx (cellsOf l) hc _ Try.underlying30 rfl (info30' l hl) hK
end

end Go.Proofs.Ytnhbhfnpcbmjkaa
