/- SWEPT -/
import Derived.Lib.Bytealg
import Derived.Test.YtfgbpinfplllgaaGreatDoorZBatRK
import Derived.Test.YtfgbpinfplllgaaGreatDoorZTblK
set_option linter.unusedVariables false
set_option linter.unusedSimpArgs false
namespace Go.Proofs.YtfgbpinfplllgaaGreatDoor
open Go.RowKit Go.Shelf
set_option maxRecDepth 100000
def NewV (w : World) (F : Nat → Prop) (v : Value) (l : List UInt8) : Prop := BsV w F v l ∧ TyB w v ∧ ∀ k, v.ownBlock = some k → F k ∧ k < w.heap.size
theorem NewV.turn {w w' : World} {F G : Nat → Prop} {v : Value} {l : List UInt8} (h : NewV w F v l) (ht : Turn w w' G) (hG : ∀ k, F k → ¬ G k) : NewV w' F v l := ⟨h.1.turn ht hG, h.2.1.turn ht fun k hk => hG k (h.2.2 k hk).1, fun k hk => ⟨(h.2.2 k hk).1, Nat.lt_of_lt_of_le (h.2.2 k hk).2 ht.size⟩⟩
theorem NewV.mono {w : World} {F G : Nat → Prop} {v : Value} {l : List UInt8} (h : NewV w F v l) (hF : ∀ k, k < w.heap.size → F k → G k) : NewV w G v l := ⟨h.1.mono hF, h.2.1, fun k hk => ⟨hF k (h.2.2 k hk).2 (h.2.2 k hk).1, (h.2.2 k hk).2⟩⟩
theorem NewV.below {w w' : World} {F : Nat → Prop} {v : Value} {l : List UInt8} (h : NewV w F v l) (hb : Below w.heap.size w w') : NewV w' F v l := h.turn (Turn.of_below hb fun _ => False) fun _ _ h => h
def rowN : Elem Rw where
  ety := 78
  sty := 64
  n := 2
  bytes := 40
  rd w F cs x := ∃ v, cs = [sv x.1, v] ∧ NewV w F v x.2
  und := Tryz.underlying64
  info := ⟨_, _, rfl, rfl, rfl, rfl, rfl⟩
  pos := by decide
  byt := by decide
  len := by rintro w F cs x ⟨v, rfl, _⟩; rfl
  one := by
    rintro w F cs x ⟨v, rfl, h⟩ u hu
    simp at hu
    rcases hu with rfl | rfl
    · rfl
    · exact h.1.one
  turn := by rintro w w' F G cs x ⟨v, h, hv⟩ ht hG; exact ⟨v, h, hv.turn ht hG⟩
  mono := by rintro w F G cs x ⟨v, h, hv⟩ hF; exact ⟨v, h, hv.mono hF⟩
def chgN : Elem Ch where
  ety := 73
  sty := 43
  n := 3
  bytes := 48
  rd w F cs x := ∃ v, cs = [sv x.1, v, .bool x.2.2] ∧ NewV w F v x.2.1
  und := Tryz.underlying43
  info := ⟨_, _, rfl, rfl, rfl, rfl, rfl⟩
  pos := by decide
  byt := by decide
  len := by rintro w F cs x ⟨v, rfl, _⟩; rfl
  one := by
    rintro w F cs x ⟨v, rfl, h⟩ u hu
    simp at hu
    rcases hu with rfl | rfl | rfl
    · rfl
    · exact h.1.one
    · rfl
  turn := by rintro w w' F G cs x ⟨v, h, hv⟩ ht hG; exact ⟨v, h, hv.turn ht hG⟩
  mono := by rintro w F G cs x ⟨v, h, hv⟩ hF; exact ⟨v, h, hv.mono hF⟩
theorem RdX.rowE {w : World} {F : Nat → Prop} {A : Option Addr} {ls : List Rw} (h : RdX rowN w F A ls) : RdX rowE w F A ls := by
  rcases h with h | ⟨b, off, xs, e, hF, ⟨hl, hr⟩, hc⟩
  · exact .inl h
  · exact .inr ⟨b, off, xs, e, hF, ⟨hl, fun j hj => by obtain ⟨v, h1, h2⟩ := hr j hj; exact ⟨v, h1, h2.1⟩⟩, hc⟩
theorem RdX.chgE {w : World} {F : Nat → Prop} {A : Option Addr} {ls : List Ch} (h : RdX chgN w F A ls) : RdX chgE w F A ls := by
  rcases h with h | ⟨b, off, xs, e, hF, ⟨hl, hr⟩, hc⟩
  · exact .inl h
  · exact .inr ⟨b, off, xs, e, hF, ⟨hl, fun j hj => by obtain ⟨v, h1, h2⟩ := hr j hj; exact ⟨v, h1, h2.1⟩⟩, hc⟩
def LsV {α : Type} (E : Elem α) (w : World) (F : Nat → Prop) (v : Value) (ls : List α) : Prop := ∃ A c, v = .slice A ls.length c ∧ RdX E w F A ls ∧ ls.length ≤ c ∧ c ≤ maxLen ∧ (A = none → ls = [] ∧ c = 0)
theorem LsV.turn {α : Type} {E : Elem α} {w w' : World} {F G : Nat → Prop} {v : Value} {ls : List α} (h : LsV E w F v ls) (ht : Turn w w' G) (hG : ∀ k, F k → ¬ G k) : LsV E w' F v ls := by
  obtain ⟨A, c, h1, h2, h3⟩ := h
  exact ⟨A, c, h1, h2.turn ht hG, h3⟩
theorem LsV.below {α : Type} {E : Elem α} {w w' : World} {F : Nat → Prop} {v : Value} {ls : List α} (h : LsV E w F v ls) (hb : Below w.heap.size w w') : LsV E w' F v ls := h.turn (Turn.of_below hb fun _ => False) fun _ _ h => h
theorem LsV.nil {α : Type} {E : Elem α} (w : World) (F : Nat → Prop) : LsV E w F (.slice none 0 0) [] := ⟨none, 0, rfl, .inl rfl, Nat.le_refl _, Nat.zero_le _, fun _ => ⟨rfl, rfl⟩⟩
theorem OwnX.ls {α : Type} {E : Elem α} {w : World} {base : Nat} {F : Nat → Prop} {v : Value} {ls : List α} (h : OwnX E w base F v ls) : LsV E w F v ls := h.form
theorem LsV.rowE {w : World} {F : Nat → Prop} {v : Value} {ls : List Rw} (h : LsV rowN w F v ls) : LsV rowE w F v ls := by
  obtain ⟨A, c, h1, h2, h3⟩ := h
  exact ⟨A, c, h1, h2.rowE, h3⟩
theorem LsV.chgE {w : World} {F : Nat → Prop} {v : Value} {ls : List Ch} (h : LsV chgN w F v ls) : LsV chgE w F v ls := by
  obtain ⟨A, c, h1, h2, h3⟩ := h
  exact ⟨A, c, h1, h2.chgE, h3⟩
def anyB (k : Nat) : Prop := True
def P7Put (l : List Ch) (w : World) (e : Ending) (w' : World) : Prop := Below w.heap.size w w' ∧ ∃ v, e = .returned (.tuple #[v, .int .i64 (if mayCP l then 0 else 2)]) ∧ BsV w' anyB v (if mayCP l then putFrom [] l else [])
def P7Get (b : List UInt8) (w : World) (e : Ending) (w' : World) : Prop := Below w.heap.size w w' ∧ match getC b with
  | .error er => ∃ v, e = .returned (.tuple #[v, .int .i64 er]) ∧ LsV chgE w' anyB v []
  | .ok l => ∃ v, e = .returned (.tuple #[v, .int .i64 0]) ∧ LsV chgE w' anyB v l
def P7Apply (t : List Rw) (l : List Ch) (w : World) (e : Ending) (w' : World) : Prop := Below w.heap.size w w' ∧ ∃ v, e = .returned (.tuple #[v, .int .i64 (if mayP t && mayCP l then 0 else 2)]) ∧ LsV rowN w' (w.heap.size ≤ ·) v (if mayP t && mayCP l then applyP t l else [])
def P7Betw (a b : List Rw) (w : World) (e : Ending) (w' : World) : Prop := Below w.heap.size w w' ∧ ∃ v, e = .returned (.tuple #[v, .int .i64 (if mayP a && mayP b then 0 else 2)]) ∧ LsV chgN w' (w.heap.size ≤ ·) v (if mayP a && mayP b then betweenP a b else [])
theorem P7Get.err {b : List UInt8} {w w' : World} {e : Ending} {er : Int} (h : P7Get b w e w') (hm : getC b = .error er) : ∃ A c, e = .returned (.tuple #[.slice A 0 c, .int .i64 er]) ∧ LsV chgE w' anyB (.slice A 0 c) [] ∧ Below w.heap.size w w' := by
  obtain ⟨hb, h⟩ := h
  rw [hm] at h
  obtain ⟨v, rfl, hv⟩ := h
  obtain ⟨A, c, rfl, r⟩ := id hv
  exact ⟨A, c, rfl, hv, hb⟩
theorem P7Get.has {b : List UInt8} {w w' : World} {e : Ending} {l : List Ch} (h : P7Get b w e w') (hm : getC b = .ok l) : ∃ A c, e = .returned (.tuple #[.slice A l.length c, .int .i64 0]) ∧ LsV chgE w' anyB (.slice A l.length c) l ∧ Below w.heap.size w w' := by
  obtain ⟨hb, h⟩ := h
  rw [hm] at h
  obtain ⟨v, rfl, hv⟩ := h
  obtain ⟨A, c, rfl, r⟩ := id hv
  exact ⟨A, c, rfl, hv, hb⟩
theorem P7Apply.yes {t : List Rw} {l : List Ch} {w w' : World} {e : Ending} (h : P7Apply t l w e w') (hm : (mayP t && mayCP l) = true) : ∃ A c, e = .returned (.tuple #[.slice A (applyP t l).length c, .int .i64 0]) ∧ LsV rowN w' (w.heap.size ≤ ·) (.slice A (applyP t l).length c) (applyP t l) ∧ Below w.heap.size w w' := by
  obtain ⟨hb, v, rfl, hv⟩ := h
  rw [hm, if_pos rfl] at *
  obtain ⟨A, c, rfl, r⟩ := id hv
  exact ⟨A, c, rfl, hv, hb⟩
theorem P7Betw.yes {a b : List Rw} {w w' : World} {e : Ending} (h : P7Betw a b w e w') (hm : (mayP a && mayP b) = true) : ∃ A c, e = .returned (.tuple #[.slice A (betweenP a b).length c, .int .i64 0]) ∧ LsV chgN w' (w.heap.size ≤ ·) (.slice A (betweenP a b).length c) (betweenP a b) ∧ Below w.heap.size w w' := by
  obtain ⟨hb, v, rfl, hv⟩ := h
  rw [hm, if_pos rfl] at *
  obtain ⟨A, c, rfl, r⟩ := id hv
  exact ⟨A, c, rfl, hv, hb⟩
theorem LsV.at {α : Type} {E : Elem α} {w : World} {F : Nat → Prop} {A : Option Addr} {n c : Nat} {ls : List α} (h : LsV E w F (.slice A n c) ls) : n = ls.length ∧ RdX E w F A ls ∧ ls.length ≤ c ∧ c ≤ maxLen ∧ (A = none → ls = [] ∧ c = 0) := by
  obtain ⟨A', c', e, h⟩ := h
  cases e
  exact ⟨rfl, h⟩
theorem BsV.at {w : World} {F : Nat → Prop} {A : Option Addr} {n c : Nat} {l : List UInt8} (h : BsV w F (.slice A n c) l) : n = l.length ∧ Rd w A l ∧ l.length ≤ c ∧ c ≤ maxLen ∧ (A = none → l = [] ∧ c = 0) := by
  obtain ⟨A', c', e, h1, h2, h3, h4⟩ := h
  cases e
  exact ⟨rfl, h1.rd, h3, h4, h2⟩
def K7Put : Prop := ∀ (l : List Ch) (v : Value) (F : Nat → Prop) (w : World), SmallC l → l.length ≤ 100000 → LsV chgE w F v l → Calls Tryz.prog 160 #[v] w fun e w' => P7Put l w e w'
def K7Get : Prop := ∀ (b : List UInt8) (v : Value) (F : Nat → Prop) (w : World), b.length ≤ 10000000 → BsV w F v b → Calls Tryz.prog 126 #[v] w fun e w' => P7Get b w e w'
def K7May : Prop := ∀ (t : List Rw) (v : Value) (F : Nat → Prop) (w : World), SmallR t → LsV rowE w F v t → Calls Tryz.prog 121 #[v] w fun e w' => e = .returned (.bool (mayP t)) ∧ Below w.heap.size w w'
def K7MayC : Prop := ∀ (t : List Ch) (v : Value) (F : Nat → Prop) (w : World), SmallC t → LsV chgE w F v t → Calls Tryz.prog 46 #[v] w fun e w' => e = .returned (.bool (mayCP t)) ∧ Below w.heap.size w w'
def K7Shared : Prop := ∀ (a b : Key) (w : World), a.length ≤ 9223372036854775807 → b.length ≤ 9223372036854775807 → Calls Tryz.prog 181 #[.string ⟨a.toArray⟩, .string ⟨b.toArray⟩] w fun e w' => e = .returned (.int .i64 (sharedP a b : Int)) ∧ Below w.heap.size w w'
def K7Apply : Prop := ∀ (t : List Rw) (l : List Ch) (v u : Value) (F G : Nat → Prop) (w : World), SmallR t → SmallC l → t.length ≤ 20000 → l.length ≤ 20000 → LsV rowE w F v t → LsV chgE w G u l → Calls Tryz.prog 85 #[v, u] w fun e w' => P7Apply t l w e w'
def K7Betw : Prop := ∀ (a b : List Rw) (v u : Value) (F G : Nat → Prop) (w : World), SmallR a → SmallR b → a.length ≤ 20000 → b.length ≤ 20000 → LsV rowE w F v a → LsV rowE w G u b → Calls Tryz.prog 161 #[v, u] w fun e w' => P7Betw a b w e w'
structure K7 : Prop where
  put : K7Put
  get : K7Get
  may : K7May
  mayC : K7MayC
  shared : K7Shared
  apply : K7Apply
  betw : K7Betw
end Go.Proofs.YtfgbpinfplllgaaGreatDoor
namespace Go.Proofs.YtfgbpinfplllgaaGreatDoor
open Go.RowKit Go.Shelf
set_option maxRecDepth 100000
end Go.Proofs.YtfgbpinfplllgaaGreatDoor
namespace Go.Proofs.YtfgbpinfplllgaaGreatDoor
open Go.RowKit Go.Shelf
set_option maxRecDepth 100000
theorem wpList_buildCh1 {w : World} {ops : Array Oper} {rest : List Oper} {o : Oper} {a : Act} {Q : Exit → Act → World → Prop} (hw : Region.wanted o (yielded ops a.tmps) = true) (x : Operand) (ho : o.op = .buildSlice 43 1 #[(0, x)]) (r : Ch) (A : Option Addr) (c : Nat) (hx : a.eval x = .agg (chCells r A c).toArray)
    (hK : ∀ g w', Cs w' g 73 (chCells r A c).toArray → Below w.heap.size w w' → w.heap.size ≤ g → wpList Tryz.prog ops Q rest (a.put o.dst (.slice (some ⟨g, 0, none⟩) 1 1)) w') : wpList Tryz.prog ops Q (o :: rest) a w := by
  refine wpList_step fun K hh => ?_
  rw [if_pos hw]
  refine wp_of_run2 (v := .slice (some ⟨w.heap.size, 0, none⟩) 1 1) (w' := w.alloc (.cells (chCells r A c).toArray 73)) ?_ (hh _ _ (hK _ _ (Cs.new _ _ _) ((Below.refl _ _).alloc (Nat.le_refl _) _) (Nat.le_refl _)))
  unfold execOp
  simp only [ho, hx, List.map_toArray, List.map_cons, List.map_nil, chCells]
  go_simp
theorem ls_one {w : World} {g : Nat} {r : Ch} {A : Option Addr} {c : Nat} {F : Nat → Prop} (h : Cs w g 73 (chCells r A c).toArray) (hr : BsV w F (.slice A r.2.1.length c) r.2.1) : LsV chgE w anyB (.slice (some ⟨g, 0, none⟩) 1 1) [r] :=
  ⟨_, 1, rfl, .inr ⟨g, 0, _, rfl, trivial, RowX.single (E := chgE) (x := r) ⟨_, rfl, hr.mono fun _ _ _ => trivial⟩, fun i v hv => by rw [Nat.zero_add]; exact h.cell i (by simpa [chCells, sv] using hv)⟩, Nat.le_refl _, by decide, fun e => by cases e⟩
end Go.Proofs.YtfgbpinfplllgaaGreatDoor
namespace Go.Proofs.YtfgbpinfplllgaaGreatDoor
open Go.RowKit Go.Shelf
set_option maxRecDepth 100000
theorem BsV.any {w : World} {F : Nat → Prop} {v : Value} {l : List UInt8} (h : BsV w F v l) : BsV w anyB v l := h.mono fun _ _ _ => trivial
section
variable {F G : Nat → Prop} {w : World}
end
end Go.Proofs.YtfgbpinfplllgaaGreatDoor
namespace Go.Proofs.YtfgbpinfplllgaaGreatDoor
open Go.RowKit Go.Shelf
set_option maxRecDepth 100000
theorem next_err {last : Key} {b : List UInt8} {er : Int} (h : nextP last b = .error er) : er ≠ 0 := by
  rintro rfl
  rcases b with _ | ⟨s, _ | ⟨m, b⟩⟩
  · simp [nextP] at h
  · simp only [nextP] at h
    split at h <;> simp at h
  · simp only [nextP] at h
    (repeat' split at h) <;> simp at h
theorem getF_err : ∀ (f : Nat) (last : Key) (b : List UInt8) (er : Int), getF f last b = .error er → er ≠ 0
  | 0, last, b, er, h => by cases h
  | f + 1, last, [], er, h => by cases h
  | f + 1, last, s :: b, er, h => by
    unfold getF at h
    cases hn : nextP last (s :: b) with
    | error e =>
      rw [hn] at h
      cases h
      exact next_err hn
    | ok c =>
      obtain ⟨c, r⟩ := c
      rw [hn] at h
      simp only at h
      cases hr : getF f c.1 r with
      | error e =>
        rw [hr] at h
        cases h
        exact getF_err f c.1 r _ hr
      | ok l =>
        rw [hr] at h
        cases h
theorem get_err {b : List UInt8} {er : Int} (h : getC b = .error er) : er ≠ 0 := getF_err _ _ _ _ h
end Go.Proofs.YtfgbpinfplllgaaGreatDoor
namespace Go.Proofs.YtfgbpinfplllgaaGreatDoor
open Go.RowKit Go.Shelf
set_option maxRecDepth 100000
def putA (c : Ch) : List Rw := if c.2.2 then [] else [(c.1, c.2.1)]
def mergeA : List Rw → List Ch → List Rw
  | [], [] => []
  | x :: t, [] => x :: mergeA t []
  | [], c :: l => putA c ++ mergeA [] l
  | x :: t, c :: l => if lessK x.1 c.1 then x :: mergeA t (c :: l) else if lessK c.1 x.1 then putA c ++ mergeA (x :: t) l else putA c ++ mergeA t l
termination_by t l => t.length + l.length
def putB7 (x y : Rw) : List Ch := if x.2 = y.2 then [] else [(y.1, y.2, false)]
def mergeB : List Rw → List Rw → List Ch
  | [], [] => []
  | x :: a, [] => (x.1, [], true) :: mergeB a []
  | [], y :: b => (y.1, y.2, false) :: mergeB [] b
  | x :: a, y :: b => if lessK x.1 y.1 then (x.1, [], true) :: mergeB a (y :: b) else if lessK y.1 x.1 then (y.1, y.2, false) :: mergeB (x :: a) b else putB7 x y ++ mergeB a b
termination_by a b => a.length + b.length
theorem mem_putA {c : Ch} {y : Rw} (h : y ∈ putA c) : y.1 = c.1 := by
  unfold putA at h
  split at h
  · cases h
  · simp at h; rw [h]
theorem mem_putB {x y : Rw} {c : Ch} (h : c ∈ putB7 x y) : c.1 = y.1 ∧ c.2.2 = false := by
  unfold putB7 at h
  split at h
  · cases h
  · simp at h; rw [h]; exact ⟨rfl, rfl⟩
theorem mem_mergeA (t : List Rw) (l : List Ch) : ∀ y ∈ mergeA t l, (∃ x ∈ t, x.1 = y.1) ∨ ∃ c ∈ l, c.1 = y.1 := by
  fun_induction mergeA t l with
  | case1 => intro y h; simp at h
  | case2 x t ih =>
    intro y h
    rcases List.mem_cons.1 h with rfl | h
    · exact .inl ⟨_, by simp, rfl⟩
    · rcases ih y h with ⟨z, hz, e⟩ | ⟨z, hz, e⟩
      · exact .inl ⟨z, by simp [hz], e⟩
      · cases hz
  | case3 c l ih =>
    intro y h
    rcases List.mem_append.1 h with h | h
    · exact .inr ⟨c, by simp, (mem_putA h).symm⟩
    · rcases ih y h with ⟨z, hz, e⟩ | ⟨z, hz, e⟩
      · cases hz
      · exact .inr ⟨z, by simp [hz], e⟩
  | case4 x t c l h1 ih =>
    intro y h
    rcases List.mem_cons.1 h with rfl | h
    · exact .inl ⟨_, by simp, rfl⟩
    · rcases ih y h with ⟨z, hz, e⟩ | ⟨z, hz, e⟩
      · exact .inl ⟨z, by simp [hz], e⟩
      · exact .inr ⟨z, hz, e⟩
  | case5 x t c l h1 h2 ih =>
    intro y h
    rcases List.mem_append.1 h with h | h
    · exact .inr ⟨c, by simp, (mem_putA h).symm⟩
    · rcases ih y h with ⟨z, hz, e⟩ | ⟨z, hz, e⟩
      · exact .inl ⟨z, hz, e⟩
      · exact .inr ⟨z, by simp [hz], e⟩
  | case6 x t c l h1 h2 ih =>
    intro y h
    rcases List.mem_append.1 h with h | h
    · exact .inr ⟨c, by simp, (mem_putA h).symm⟩
    · rcases ih y h with ⟨z, hz, e⟩ | ⟨z, hz, e⟩
      · exact .inl ⟨z, by simp [hz], e⟩
      · exact .inr ⟨z, by simp [hz], e⟩
theorem mem_mergeB (a b : List Rw) : ∀ c ∈ mergeB a b, ((∃ x ∈ a, x.1 = c.1) ∨ ∃ y ∈ b, y.1 = c.1) ∧ (c.2.2 = true → c.2.1 = []) := by
  fun_induction mergeB a b with
  | case1 => intro y h; simp at h
  | case2 x t ih =>
    intro y h
    rcases List.mem_cons.1 h with rfl | h
    · exact ⟨.inl ⟨x, by simp, rfl⟩, fun _ => rfl⟩
    · refine ⟨?_, (ih y h).2⟩
      rcases (ih y h).1 with ⟨z, hz, e⟩ | ⟨z, hz, e⟩
      · exact .inl ⟨z, by simp [hz], e⟩
      · cases hz
  | case3 c l ih =>
    intro y h
    rcases List.mem_cons.1 h with rfl | h
    · exact ⟨.inr ⟨c, by simp, rfl⟩, fun h => by cases h⟩
    · refine ⟨?_, (ih y h).2⟩
      rcases (ih y h).1 with ⟨z, hz, e⟩ | ⟨z, hz, e⟩
      · cases hz
      · exact .inr ⟨z, by simp [hz], e⟩
  | case4 x t c l h1 ih =>
    intro y h
    rcases List.mem_cons.1 h with rfl | h
    · exact ⟨.inl ⟨x, by simp, rfl⟩, fun _ => rfl⟩
    · refine ⟨?_, (ih y h).2⟩
      rcases (ih y h).1 with ⟨z, hz, e⟩ | ⟨z, hz, e⟩
      · exact .inl ⟨z, by simp [hz], e⟩
      · exact .inr ⟨z, hz, e⟩
  | case5 x t c l h1 h2 ih =>
    intro y h
    rcases List.mem_cons.1 h with rfl | h
    · exact ⟨.inr ⟨c, by simp, rfl⟩, fun h => by cases h⟩
    · refine ⟨?_, (ih y h).2⟩
      rcases (ih y h).1 with ⟨z, hz, e⟩ | ⟨z, hz, e⟩
      · exact .inl ⟨z, hz, e⟩
      · exact .inr ⟨z, by simp [hz], e⟩
  | case6 x t c l h1 h2 ih =>
    intro y h
    rcases List.mem_append.1 h with h | h
    · have := mem_putB h
      exact ⟨.inr ⟨c, by simp, this.1.symm⟩, fun h => by rw [this.2] at h; cases h⟩
    · refine ⟨?_, (ih y h).2⟩
      rcases (ih y h).1 with ⟨z, hz, e⟩ | ⟨z, hz, e⟩
      · exact .inl ⟨z, by simp [hz], e⟩
      · exact .inr ⟨z, by simp [hz], e⟩
theorem putA_sort {c : Ch} {m : List Rw} (h : SortR m) (hk : ∀ y ∈ m, lessK c.1 y.1 = true) : SortR (putA c ++ m) := by
  unfold putA
  split
  · exact h
  · exact sortR_cons.2 ⟨hk, h⟩
theorem putB_sort {x y : Rw} {m : List Ch} (h : SortC m) (hk : ∀ c ∈ m, lessK y.1 c.1 = true) : SortC (putB7 x y ++ m) := by
  unfold putB7
  split
  · exact h
  · exact sortC_cons.2 ⟨hk, h⟩
theorem sort_mergeA (t : List Rw) (l : List Ch) (ht : SortR t) (hl : SortC l) : SortR (mergeA t l) := by
  fun_induction mergeA t l with
  | case1 => exact List.Pairwise.nil
  | case2 x t ih =>
    have h := sortR_cons.1 ht
    refine sortR_cons.2 ⟨fun y hy => ?_, ih h.2 List.Pairwise.nil⟩
    rcases mem_mergeA _ _ y hy with ⟨z, hz, e⟩ | ⟨z, hz, e⟩
    · rw [← e]; exact h.1 z hz
    · cases hz
  | case3 c l ih =>
    have h := sortC_cons.1 hl
    refine putA_sort (ih List.Pairwise.nil h.2) fun y hy => ?_
    rcases mem_mergeA _ _ y hy with ⟨z, hz, e⟩ | ⟨z, hz, e⟩
    · cases hz
    · rw [← e]; exact h.1 z hz
  | case4 x t c l h1 ih =>
    have h := sortR_cons.1 ht
    have h' := sortC_cons.1 hl
    refine sortR_cons.2 ⟨fun y hy => ?_, ih h.2 hl⟩
    rcases mem_mergeA _ _ y hy with ⟨z, hz, e⟩ | ⟨z, hz, e⟩
    · rw [← e]; exact h.1 z hz
    · rw [← e]
      rcases List.mem_cons.1 hz with rfl | hz
      · exact h1
      · exact lessK_trans h1 (h'.1 z hz)
  | case5 x t c l h1 h2 ih =>
    have h := sortR_cons.1 ht
    have h' := sortC_cons.1 hl
    refine putA_sort (ih ht h'.2) fun y hy => ?_
    rcases mem_mergeA _ _ y hy with ⟨z, hz, e⟩ | ⟨z, hz, e⟩
    · rw [← e]
      rcases List.mem_cons.1 hz with rfl | hz
      · exact h2
      · exact lessK_trans h2 (h.1 z hz)
    · rw [← e]; exact h'.1 z hz
  | case6 x t c l h1 h2 ih =>
    have h := sortR_cons.1 ht
    have h' := sortC_cons.1 hl
    have e1 := lessK_total (by simpa using h1) (by simpa using h2)
    refine putA_sort (ih h.2 h'.2) fun y hy => ?_
    rcases mem_mergeA _ _ y hy with ⟨z, hz, e⟩ | ⟨z, hz, e⟩
    · rw [← e, ← e1]; exact h.1 z hz
    · rw [← e]; exact h'.1 z hz
theorem sort_mergeB (a b : List Rw) (ha : SortR a) (hb : SortR b) : SortC (mergeB a b) := by
  fun_induction mergeB a b with
  | case1 => exact List.Pairwise.nil
  | case2 x t ih =>
    have h := sortR_cons.1 ha
    refine sortC_cons.2 ⟨fun y hy => ?_, ih h.2 List.Pairwise.nil⟩
    rcases (mem_mergeB _ _ y hy).1 with ⟨z, hz, e⟩ | ⟨z, hz, e⟩
    · rw [← e]; exact h.1 z hz
    · cases hz
  | case3 c l ih =>
    have h := sortR_cons.1 hb
    refine sortC_cons.2 ⟨fun y hy => ?_, ih List.Pairwise.nil h.2⟩
    rcases (mem_mergeB _ _ y hy).1 with ⟨z, hz, e⟩ | ⟨z, hz, e⟩
    · cases hz
    · rw [← e]; exact h.1 z hz
  | case4 x t c l h1 ih =>
    have h := sortR_cons.1 ha
    have h' := sortR_cons.1 hb
    refine sortC_cons.2 ⟨fun y hy => ?_, ih h.2 hb⟩
    rcases (mem_mergeB _ _ y hy).1 with ⟨z, hz, e⟩ | ⟨z, hz, e⟩
    · rw [← e]; exact h.1 z hz
    · rw [← e]
      rcases List.mem_cons.1 hz with rfl | hz
      · exact h1
      · exact lessK_trans h1 (h'.1 z hz)
  | case5 x t c l h1 h2 ih =>
    have h := sortR_cons.1 ha
    have h' := sortR_cons.1 hb
    refine sortC_cons.2 ⟨fun y hy => ?_, ih ha h'.2⟩
    rcases (mem_mergeB _ _ y hy).1 with ⟨z, hz, e⟩ | ⟨z, hz, e⟩
    · rw [← e]
      rcases List.mem_cons.1 hz with rfl | hz
      · exact h2
      · exact lessK_trans h2 (h.1 z hz)
    · rw [← e]; exact h'.1 z hz
  | case6 x t c l h1 h2 ih =>
    have h := sortR_cons.1 ha
    have h' := sortR_cons.1 hb
    have e1 := lessK_total (by simpa using h1) (by simpa using h2)
    refine putB_sort (ih h.2 h'.2) fun y hy => ?_
    rcases (mem_mergeB _ _ y hy).1 with ⟨z, hz, e⟩ | ⟨z, hz, e⟩
    · rw [← e, ← e1]; exact h.1 z hz
    · rw [← e]; exact h'.1 z hz
theorem look_putA (c : Ch) (m : List Rw) (k : Key) : lookR (putA c ++ m) k = if c.1 = k ∧ c.2.2 = false then some c.2.1 else lookR m k := by
  unfold putA
  obtain ⟨a, v, z⟩ := c
  cases z
  · simp only [Bool.false_eq_true, if_false, List.singleton_append, lookR_cons]
    by_cases h : a = k <;> simp [h]
  · simp
theorem look_mergeA (t : List Rw) (l : List Ch) (k : Key) (ht : SortR t) (hl : SortC l) : lookR (mergeA t l) k = (lookC l k).getD (lookR t k) := by
  fun_induction mergeA t l with
  | case1 => rfl
  | case2 x t ih =>
    have h := sortR_cons.1 ht
    rw [lookR_cons, lookR_cons, ih h.2 List.Pairwise.nil]
    rfl
  | case3 c l ih =>
    have h := sortC_cons.1 hl
    rw [look_putA, ih List.Pairwise.nil h.2, lookC_cons]
    obtain ⟨a, v, z⟩ := c
    by_cases e : a = k
    · subst e
      have hn := lookC_none fun y hy => (lessK_ne (h.1 y hy)).symm
      dsimp only at hn ⊢
      rw [hn]
      cases z <;> simp [lookR_nil]
    · simp [e]
  | case4 x t c l h1 ih =>
    have h := sortR_cons.1 ht
    have h' := sortC_cons.1 hl
    rw [lookR_cons, lookR_cons, ih h.2 hl]
    by_cases e : x.1 = k
    · subst e
      rw [if_pos rfl, if_pos rfl, lookC_cons, if_neg (lessK_ne h1).symm, lookC_none fun y hy => (lessK_ne (lessK_trans h1 (h'.1 y hy))).symm]
      rfl
    · rw [if_neg e, if_neg e]
  | case5 x t c l h1 h2 ih =>
    have h := sortR_cons.1 ht
    have h' := sortC_cons.1 hl
    rw [look_putA, ih ht h'.2, lookC_cons]
    obtain ⟨a, v, z⟩ := c
    by_cases e : a = k
    · subst e
      have hn := lookC_none fun y hy => (lessK_ne (h'.1 y hy)).symm
      have hm : lookR (x :: t) a = none := lookR_none fun y hy => by
        rcases List.mem_cons.1 hy with rfl | hy
        · exact (lessK_ne h2).symm
        · exact (lessK_ne (lessK_trans h2 (h.1 y hy))).symm
      dsimp only at hn ⊢
      rw [hn, hm]
      cases z <;> simp
    · simp [e]
  | case6 x t c l h1 h2 ih =>
    have h := sortR_cons.1 ht
    have h' := sortC_cons.1 hl
    have e1 := lessK_total (by simpa using h1) (by simpa using h2)
    rw [look_putA, ih h.2 h'.2, lookC_cons]
    obtain ⟨a, v, z⟩ := c
    by_cases e : a = k
    · subst e
      have hn := lookC_none fun y hy => (lessK_ne (h'.1 y hy)).symm
      have hm : lookR t a = none := lookR_none fun y hy => by
        dsimp only at e1
        exact e1 ▸ (lessK_ne (h.1 y hy)).symm
      dsimp only at hn ⊢
      rw [hn, hm]
      cases z <;> simp
    · have e2 : ¬ x.1 = k := by rw [e1]; exact e
      rw [lookR_cons, if_neg e2]
      simp [e]
theorem merge_apply {t : List Rw} {l : List Ch} (ht : mayP t = true) (hl : mayCP l = true) : mergeA t l = applyP t l := by
  have h1 := ((may_iff t).1 ht).2
  have h2 := ((mayC_iff l).1 hl).2
  exact table_ext _ _ (sort_mergeA t l h1 h2) (sort_apply l h1) fun k => by rw [look_mergeA t l k h1 h2, look_apply l t k h2]
def encO : Option (List UInt8) → List UInt8
  | none => [0]
  | some v => 1 :: v
def encC (c : Ch) : Rw := (c.1, encO (if c.2.2 then none else some c.2.1))
theorem look_enc (l : List Ch) (k : Key) : lookR (l.map encC) k = (lookC l k).map encO := by
  induction l with
  | nil => rfl
  | cons c l ih =>
    rw [List.map_cons, lookR_cons, lookC_cons, ih]
    show (if c.1 = k then _ else _) = _
    split <;> rfl
theorem encC_inj : ∀ (l m : List Ch), (∀ c ∈ l, c.2.2 = true → c.2.1 = []) → (∀ c ∈ m, c.2.2 = true → c.2.1 = []) → l.map encC = m.map encC → l = m
  | [], [], _, _, _ => rfl
  | [], _ :: _, _, _, h => by simp at h
  | _ :: _, [], _, _, h => by simp at h
  | c :: l, d :: m, hl, hm, h => by
    simp only [List.map_cons, List.cons.injEq] at h
    rw [encC_inj l m (fun x hx => hl x (by simp [hx])) (fun x hx => hm x (by simp [hx])) h.2]
    have h1 := hl c (by simp)
    have h2 := hm d (by simp)
    have h3 := h.1
    obtain ⟨k, v, z⟩ := c
    obtain ⟨k', v', z'⟩ := d
    unfold encC at h3
    cases z <;> cases z' <;> simp [encO] at h3 h1 h2 ⊢
    · exact h3
    · exact ⟨h3, h1.trans h2.symm⟩
theorem enc_sort {l : List Ch} (h : SortC l) : SortR (l.map encC) := List.pairwise_map.2 h
theorem chg_ext {l m : List Ch} (hl : SortC l) (hm : SortC m) (gl : ∀ c ∈ l, c.2.2 = true → c.2.1 = []) (gm : ∀ c ∈ m, c.2.2 = true → c.2.1 = []) (h : ∀ k, lookC l k = lookC m k) : l = m :=
  encC_inj l m gl gm (table_ext _ _ (enc_sort hl) (enc_sort hm) fun k => by rw [look_enc, look_enc, h k])
theorem look_putB (x y : Rw) (m : List Ch) (k : Key) : lookC (putB7 x y ++ m) k = if y.1 = k ∧ x.2 ≠ y.2 then some (some y.2) else lookC m k := by
  unfold putB7
  by_cases h : x.2 = y.2
  · simp [h]
  · simp only [if_neg h, List.singleton_append, lookC_cons]
    by_cases e : y.1 = k <;> simp [e, h]
theorem look_mergeB (a b : List Rw) (k : Key) (ha : SortR a) (hb : SortR b) : lookC (mergeB a b) k = if lookR a k = lookR b k then none else some (lookR b k) := by
  fun_induction mergeB a b with
  | case1 => simp [lookC, lookR_nil]
  | case2 x t ih =>
    have h := sortR_cons.1 ha
    rw [lookC_cons, lookR_cons, ih h.2 List.Pairwise.nil]
    by_cases e : x.1 = k
    · simp [e, lookR_nil]
    · simp [e]
  | case3 c l ih =>
    have h := sortR_cons.1 hb
    rw [lookC_cons, lookR_cons, ih List.Pairwise.nil h.2]
    by_cases e : c.1 = k
    · simp [e, lookR_nil]
    · simp [e]
  | case4 x t c l h1 ih =>
    have h := sortR_cons.1 ha
    have h' := sortR_cons.1 hb
    rw [lookC_cons, ih h.2 hb, lookR_cons x]
    by_cases e : x.1 = k
    · subst e
      have hn : lookR (c :: l) x.1 = none := lookR_none fun y hy => by
        rcases List.mem_cons.1 hy with rfl | hy
        · exact (lessK_ne h1).symm
        · exact (lessK_ne (lessK_trans h1 (h'.1 y hy))).symm
      rw [hn]
      simp
    · simp [e]
  | case5 x t c l h1 h2 ih =>
    have h := sortR_cons.1 ha
    have h' := sortR_cons.1 hb
    rw [lookC_cons, ih ha h'.2, lookR_cons c]
    by_cases e : c.1 = k
    · subst e
      have hn : lookR (x :: t) c.1 = none := lookR_none fun y hy => by
        rcases List.mem_cons.1 hy with rfl | hy
        · exact (lessK_ne h2).symm
        · exact (lessK_ne (lessK_trans h2 (h.1 y hy))).symm
      rw [hn]
      simp
    · simp [e]
  | case6 x t c l h1 h2 ih =>
    have h := sortR_cons.1 ha
    have h' := sortR_cons.1 hb
    have e1 := lessK_total (by simpa using h1) (by simpa using h2)
    rw [look_putB, ih h.2 h'.2, lookR_cons, lookR_cons]
    by_cases e : c.1 = k
    · have e2 : x.1 = k := e1.trans e
      have hn : lookR t k = none := lookR_none fun y hy => e2 ▸ (lessK_ne (h.1 y hy)).symm
      have hm : lookR l k = none := lookR_none fun y hy => e ▸ (lessK_ne (h'.1 y hy)).symm
      rw [if_pos e2, if_pos e, hn, hm]
      by_cases hv : x.2 = c.2
      · simp [hv]
      · simp [hv, e]
    · have e2 : ¬ x.1 = k := by rw [e1]; exact e
      simp [e, e2]
theorem merge_between {a b : List Rw} (ha : mayP a = true) (hb : mayP b = true) : mergeB a b = betweenP a b := by
  have h1 := ((may_iff a).1 ha).2
  have h2 := ((may_iff b).1 hb).2
  refine chg_ext (sort_mergeB a b h1 h2) (sort_between a b) (fun c hc => (mem_mergeB a b c hc).2) (fun c hc hz => ?_) fun k => by rw [look_mergeB a b k h1 h2, look_between h1 h2]
  exact (((mayC_iff _).1 (may_between ha hb)).1 c hc).2 hz
theorem compare_is : ∀ (a b : Key), Lib.compareBytes a b = if lessK a b then -1 else if lessK b a then 1 else 0
  | [], [] => by simp [Lib.compareBytes, lessK_irrefl]
  | [], y :: b => by simp [Lib.compareBytes, lessK_nil]
  | x :: a, [] => by
    have : lessK (x :: a) [] = false := lessK_asymm (by rw [lessK_nil]; simp)
    simp [Lib.compareBytes, this, lessK_nil]
  | x :: a, y :: b => by
    have ih := compare_is a b
    have k1 : lessK (x :: a) (y :: b) = (decide (x < y) || (decide (x = y) && lessK a b)) := by
      unfold lessK
      rw [← Bool.decide_and, ← Bool.decide_or]
      exact decide_eq_decide.2 List.cons_lt_cons_iff
    have k2 : lessK (y :: b) (x :: a) = (decide (y < x) || (decide (y = x) && lessK b a)) := by
      unfold lessK
      rw [← Bool.decide_and, ← Bool.decide_or]
      exact decide_eq_decide.2 List.cons_lt_cons_iff
    rw [k1, k2]
    unfold Lib.compareBytes
    by_cases h1 : x < y
    · simp [h1]
    · by_cases h2 : y < x
      · have h3 : ¬ x = y := fun e => by subst e; exact h1 h2
        simp [h1, h2, h3]
      · have e : x = y := UInt8.le_antisymm (UInt8.not_lt.1 h2) (UInt8.not_lt.1 h1)
        subst e
        simp [ih, UInt8.lt_irrefl]
end Go.Proofs.YtfgbpinfplllgaaGreatDoor
