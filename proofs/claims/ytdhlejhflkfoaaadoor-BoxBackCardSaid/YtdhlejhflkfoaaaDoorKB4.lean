/- SWEPT -/
import Derived.Lib.Bytealg
import Derived.Test.YtdhlejhflkfoaaaDoorKB3
import Derived.Lib.AppendStr
import Derived.Test.YtdhlejhflkfoaaaDoorKB1
/- BchAK: BatProg BatHands BatLives BatBoth BatSlice BatPlain4. -/
/- What layer 7's program answers, in words that its laws take: values of new memory, lists; nothing of how it is done. -/
namespace Go.Proofs.YtdhlejhflkfoaaaDoor
open Go.RowKit Go.Shelf
set_option linter.unusedVariables false
set_option maxRecDepth 100000
set_option linter.unusedSimpArgs false

/-- bytes in a block of F, the room behind them bytes, too -/
def NewV (w : World) (F : Nat → Prop) (v : Value) (l : List UInt8) : Prop := BsV w F v l ∧ TyB w v ∧ ∀ k, v.ownBlock = some k → F k ∧ k < w.heap.size
theorem NewV.turn {w w' : World} {F G : Nat → Prop} {v : Value} {l : List UInt8} (h : NewV w F v l) (ht : Turn w w' G) (hG : ∀ k, F k → ¬ G k) : NewV w' F v l := ⟨h.1.turn ht hG, h.2.1.turn ht fun k hk => hG k (h.2.2 k hk).1, fun k hk => ⟨(h.2.2 k hk).1, Nat.lt_of_lt_of_le (h.2.2 k hk).2 ht.size⟩⟩
theorem NewV.mono {w : World} {F G : Nat → Prop} {v : Value} {l : List UInt8} (h : NewV w F v l) (hF : ∀ k, k < w.heap.size → F k → G k) : NewV w G v l := ⟨h.1.mono hF, h.2.1, fun k hk => ⟨hF k (h.2.2 k hk).2 (h.2.2 k hk).1, (h.2.2 k hk).2⟩⟩
theorem NewV.below {w w' : World} {F : Nat → Prop} {v : Value} {l : List UInt8} (h : NewV w F v l) (hb : Below w.heap.size w w') : NewV w' F v l := h.turn (Turn.of_below hb fun _ => False) fun _ _ h => h
/-- bytes of one's own, typed -/
theorem NewV.own {w : World} {base : Nat} {F : Nat → Prop} {v : Value} {l : List UInt8} (h : w.ownsRow base 5 1 v l.length (cellsOf l)) (ht : TyB w v) (hF : ∀ k, base ≤ k → F k) : NewV w F v l := by
  refine ⟨?_, ht, fun k hk => ⟨hF k (h.lt k hk).1, (h.lt k hk).2⟩⟩
  rcases h.2 with ⟨rfl, h0⟩ | ⟨g, cap, cur, rfl, hb, hg, hl, hm, r⟩
  · have : l = [] := List.eq_nil_of_length_eq_zero h0
    subst this
    exact BsV.nil _ _
  · exact ⟨_, cap, rfl, (own_rd h).f (fun b off e _ => by cases e; exact hF _ hb), (fun e => by cases e), hl, hm⟩
def rowN : Elem Rw where
  ety := 41
  sty := 34
  n := 2
  bytes := 40
  rd w F cs x := ∃ v, cs = [sv x.1, v] ∧ NewV w F v x.2
  und := Tryd.underlying34
  info := ⟨_, _, rfl, rfl, rfl, rfl, rfl⟩
  pos := by decide
  byt := by decide
  len := by rintro w F cs x ⟨v, rfl, _⟩; rfl
  one := by
    rintro w F cs x ⟨v, rfl, h⟩ u hu
    simp at hu
    rcases hu with rfl | rfl
    · rfl
    · exact h.1.one
  turn := by rintro w w' F G cs x ⟨v, h, hv⟩ ht hG; exact ⟨v, h, hv.turn ht hG⟩
  mono := by rintro w F G cs x ⟨v, h, hv⟩ hF; exact ⟨v, h, hv.mono hF⟩
def chgM : Elem Ch where
  ety := 123
  sty := 90
  n := 3
  bytes := 48
  rd w F cs x := ∃ v, cs = [sv x.1, v, .bool x.2.2] ∧ NewV w F v x.2.1
  und := Tryd.underlying90
  info := ⟨_, _, rfl, rfl, rfl, rfl, rfl⟩
  pos := by decide
  byt := by decide
  len := by rintro w F cs x ⟨v, rfl, _⟩; rfl
  one := by
    rintro w F cs x ⟨v, rfl, h⟩ u hu
    simp at hu
    rcases hu with rfl | rfl | rfl
    · rfl
    · exact h.1.one
    · rfl
  turn := by rintro w w' F G cs x ⟨v, h, hv⟩ ht hG; exact ⟨v, h, hv.turn ht hG⟩
  mono := by rintro w F G cs x ⟨v, h, hv⟩ hF; exact ⟨v, h, hv.mono hF⟩
theorem RdX.rowE {w : World} {F : Nat → Prop} {A : Option Addr} {ls : List Rw} (h : RdX rowN w F A ls) : RdX rowE w F A ls := by
  rcases h with h | ⟨b, off, xs, e, hF, ⟨hl, hr⟩, hc⟩
  · exact .inl h
  · exact .inr ⟨b, off, xs, e, hF, ⟨hl, fun j hj => by obtain ⟨v, h1, h2⟩ := hr j hj; exact ⟨v, h1, h2.1⟩⟩, hc⟩
theorem RdX.chgE {w : World} {F : Nat → Prop} {A : Option Addr} {ls : List Ch} (h : RdX chgM w F A ls) : RdX chgE w F A ls := by
  rcases h with h | ⟨b, off, xs, e, hF, ⟨hl, hr⟩, hc⟩
  · exact .inl h
  · exact .inr ⟨b, off, xs, e, hF, ⟨hl, fun j hj => by obtain ⟨v, h1, h2⟩ := hr j hj; exact ⟨v, h1, h2.1⟩⟩, hc⟩
/-- a value that is a list -/
def LsW {α : Type} (E : Elem α) (w : World) (F : Nat → Prop) (v : Value) (ls : List α) : Prop := ∃ A c, v = .slice A ls.length c ∧ RdX E w F A ls ∧ ls.length ≤ c ∧ c ≤ maxLen ∧ (A = none → ls = [] ∧ c = 0)
theorem LsW.turn {α : Type} {E : Elem α} {w w' : World} {F G : Nat → Prop} {v : Value} {ls : List α} (h : LsW E w F v ls) (ht : Turn w w' G) (hG : ∀ k, F k → ¬ G k) : LsW E w' F v ls := by
  obtain ⟨A, c, h1, h2, h3⟩ := h
  exact ⟨A, c, h1, h2.turn ht hG, h3⟩
theorem LsW.below {α : Type} {E : Elem α} {w w' : World} {F : Nat → Prop} {v : Value} {ls : List α} (h : LsW E w F v ls) (hb : Below w.heap.size w w') : LsW E w' F v ls := h.turn (Turn.of_below hb fun _ => False) fun _ _ h => h
theorem LsW.nil {α : Type} {E : Elem α} (w : World) (F : Nat → Prop) : LsW E w F (.slice none 0 0) [] := ⟨none, 0, rfl, .inl rfl, Nat.le_refl _, Nat.zero_le _, fun _ => ⟨rfl, rfl⟩⟩
theorem OwnX.lsW {α : Type} {E : Elem α} {w : World} {base : Nat} {F : Nat → Prop} {v : Value} {ls : List α} (h : OwnX E w base F v ls) : LsW E w F v ls := h.form
theorem LsW.rowE {w : World} {F : Nat → Prop} {v : Value} {ls : List Rw} (h : LsW rowN w F v ls) : LsW rowE w F v ls := by
  obtain ⟨A, c, h1, h2, h3⟩ := h
  exact ⟨A, c, h1, h2.rowE, h3⟩
theorem LsW.chgE {w : World} {F : Nat → Prop} {v : Value} {ls : List Ch} (h : LsW chgM w F v ls) : LsW chgE w F v ls := by
  obtain ⟨A, c, h1, h2, h3⟩ := h
  exact ⟨A, c, h1, h2.chgE, h3⟩
def anyB (k : Nat) : Prop := True
/-- the bytes of changes, or 2 -/
def P7Put (l : List Ch) (w : World) (e : Ending) (w' : World) : Prop := Below w.heap.size w w' ∧ ∃ v, e = .returned (.tuple #[v, .int .i64 (if mayCP l then 0 else 2)]) ∧ BsV w' anyB v (if mayCP l then putFrom [] l else [])
def P7Get (b : List UInt8) (w : World) (e : Ending) (w' : World) : Prop := Below w.heap.size w w' ∧ match getC b with
  | .error er => ∃ v, e = .returned (.tuple #[v, .int .i64 er]) ∧ LsW chgE w' anyB v []
  | .ok l => ∃ v, e = .returned (.tuple #[v, .int .i64 0]) ∧ LsW chgE w' anyB v l
def P7Find (t : List Rw) (key : Key) (w : World) (e : Ending) (w' : World) : Prop := Below w.heap.size w w' ∧ ∃ v, e = .returned (.tuple #[v, .bool (findP t key).isSome]) ∧ NewV w' (w.heap.size ≤ ·) v ((findP t key).getD [])
def P7Apply (t : List Rw) (l : List Ch) (w : World) (e : Ending) (w' : World) : Prop := Below w.heap.size w w' ∧ ∃ v, e = .returned (.tuple #[v, .int .i64 (if mayP t && mayCP l then 0 else 2)]) ∧ LsW rowN w' (w.heap.size ≤ ·) v (if mayP t && mayCP l then applyP t l else [])
def P7Betw (a b : List Rw) (w : World) (e : Ending) (w' : World) : Prop := Below w.heap.size w w' ∧ ∃ v, e = .returned (.tuple #[v, .int .i64 (if mayP a && mayP b then 0 else 2)]) ∧ LsW chgM w' (w.heap.size ≤ ·) v (if mayP a && mayP b then betweenP a b else [])
theorem P7Put.yes {l : List Ch} {w w' : World} {e : Ending} (h : P7Put l w e w') (hm : mayCP l = true) : ∃ A c, e = .returned (.tuple #[.slice A (putFrom [] l).length c, .int .i64 0]) ∧ BsV w' anyB (.slice A (putFrom [] l).length c) (putFrom [] l) ∧ Below w.heap.size w w' := by
  obtain ⟨hb, v, rfl, hv⟩ := h
  rw [hm, if_pos rfl] at *
  obtain ⟨A, c, rfl, r⟩ := id hv
  exact ⟨A, c, rfl, hv, hb⟩
theorem P7Put.no {l : List Ch} {w w' : World} {e : Ending} (h : P7Put l w e w') (hm : mayCP l = false) : ∃ A c, e = .returned (.tuple #[.slice A 0 c, .int .i64 2]) ∧ BsV w' anyB (.slice A 0 c) [] ∧ Below w.heap.size w w' := by
  obtain ⟨hb, v, rfl, hv⟩ := h
  rw [hm, if_neg (by decide)] at *
  obtain ⟨A, c, rfl, r⟩ := id hv
  exact ⟨A, c, rfl, hv, hb⟩
theorem P7Get.has {b : List UInt8} {w w' : World} {e : Ending} {l : List Ch} (h : P7Get b w e w') (hm : getC b = .ok l) : ∃ A c, e = .returned (.tuple #[.slice A l.length c, .int .i64 0]) ∧ LsW chgE w' anyB (.slice A l.length c) l ∧ Below w.heap.size w w' := by
  obtain ⟨hb, h⟩ := h
  rw [hm] at h
  obtain ⟨v, rfl, hv⟩ := h
  obtain ⟨A, c, rfl, r⟩ := id hv
  exact ⟨A, c, rfl, hv, hb⟩
theorem P7Find.is {t : List Rw} {key : Key} {w w' : World} {e : Ending} {x : Option (List UInt8)} (h : P7Find t key w e w') (hm : findP t key = x) : ∃ A c, e = .returned (.tuple #[.slice A (x.getD []).length c, .bool x.isSome]) ∧ NewV w' (w.heap.size ≤ ·) (.slice A (x.getD []).length c) (x.getD []) ∧ Below w.heap.size w w' := by
  obtain ⟨hb, v, rfl, hv⟩ := h
  rw [hm] at *
  obtain ⟨A, c, rfl, r⟩ := id hv.1
  exact ⟨A, c, rfl, hv, hb⟩
theorem P7Apply.yes {t : List Rw} {l : List Ch} {w w' : World} {e : Ending} (h : P7Apply t l w e w') (hm : (mayP t && mayCP l) = true) : ∃ A c, e = .returned (.tuple #[.slice A (applyP t l).length c, .int .i64 0]) ∧ LsW rowN w' (w.heap.size ≤ ·) (.slice A (applyP t l).length c) (applyP t l) ∧ Below w.heap.size w w' := by
  obtain ⟨hb, v, rfl, hv⟩ := h
  rw [hm, if_pos rfl] at *
  obtain ⟨A, c, rfl, r⟩ := id hv
  exact ⟨A, c, rfl, hv, hb⟩
theorem P7Apply.no {t : List Rw} {l : List Ch} {w w' : World} {e : Ending} (h : P7Apply t l w e w') (hm : (mayP t && mayCP l) = false) : ∃ A c, e = .returned (.tuple #[.slice A 0 c, .int .i64 2]) ∧ LsW rowN w' (w.heap.size ≤ ·) (.slice A 0 c) [] ∧ Below w.heap.size w w' := by
  obtain ⟨hb, v, rfl, hv⟩ := h
  rw [hm, if_neg (by decide)] at *
  obtain ⟨A, c, rfl, r⟩ := id hv
  exact ⟨A, c, rfl, hv, hb⟩
theorem P7Betw.yes {a b : List Rw} {w w' : World} {e : Ending} (h : P7Betw a b w e w') (hm : (mayP a && mayP b) = true) : ∃ A c, e = .returned (.tuple #[.slice A (betweenP a b).length c, .int .i64 0]) ∧ LsW chgM w' (w.heap.size ≤ ·) (.slice A (betweenP a b).length c) (betweenP a b) ∧ Below w.heap.size w w' := by
  obtain ⟨hb, v, rfl, hv⟩ := h
  rw [hm, if_pos rfl] at *
  obtain ⟨A, c, rfl, r⟩ := id hv
  exact ⟨A, c, rfl, hv, hb⟩
theorem P7Betw.no {a b : List Rw} {w w' : World} {e : Ending} (h : P7Betw a b w e w') (hm : (mayP a && mayP b) = false) : ∃ A c, e = .returned (.tuple #[.slice A 0 c, .int .i64 2]) ∧ LsW chgM w' (w.heap.size ≤ ·) (.slice A 0 c) [] ∧ Below w.heap.size w w' := by
  obtain ⟨hb, v, rfl, hv⟩ := h
  rw [hm, if_neg (by decide)] at *
  obtain ⟨A, c, rfl, r⟩ := id hv
  exact ⟨A, c, rfl, hv, hb⟩
/-- a list's parts -/
theorem LsW.at {α : Type} {E : Elem α} {w : World} {F : Nat → Prop} {A : Option Addr} {n c : Nat} {ls : List α} (h : LsW E w F (.slice A n c) ls) : n = ls.length ∧ RdX E w F A ls ∧ ls.length ≤ c ∧ c ≤ maxLen ∧ (A = none → ls = [] ∧ c = 0) := by
  obtain ⟨A', c', e, h⟩ := h
  cases e
  exact ⟨rfl, h⟩
theorem BsV.at {w : World} {F : Nat → Prop} {A : Option Addr} {n c : Nat} {l : List UInt8} (h : BsV w F (.slice A n c) l) : n = l.length ∧ Rd w A l ∧ l.length ≤ c ∧ c ≤ maxLen ∧ (A = none → l = [] ∧ c = 0) := by
  obtain ⟨A', c', e, h1, h2, h3, h4⟩ := h
  cases e
  exact ⟨rfl, h1.rd, h3, h4, h2⟩
/-- the values of a list, as far as Spoil wants them known: steps of n cells, the value in the second -/
def Spl (n : Nat) (w : World) (base : Nat) (A : Option Addr) (m : Nat) : Prop := ∀ j, j < m → ∃ b off v, A = some ⟨b, off, none⟩ ∧ w.cell? ⟨b, off + j * n + 1, none⟩ = some v ∧ TyB w v ∧ ∀ k, v.ownBlock = some k → base ≤ k ∧ k < w.heap.size
theorem RdX.splR {w : World} {base : Nat} {A : Option Addr} {ls : List Rw} (h : RdX rowN w (base ≤ ·) A ls) : Spl 2 w base A ls.length := fun j hj => by
  obtain ⟨b, off, cs, e, ⟨v, rfl, h1, h2, h3⟩, hat⟩ := h.get j hj
  exact ⟨b, off, v, e, hat 1 _ rfl, h2, h3⟩
theorem Spl.below {n : Nat} {w w' : World} {base : Nat} {A : Option Addr} {m : Nat} (h : Spl n w base A m) (hb : Below w.heap.size w w') : Spl n w' base A m := fun j hj => by
  obtain ⟨b, off, v, e, hc, ht, hk⟩ := h j hj
  exact ⟨b, off, v, e, (hb.cell (lt_of_cell hc)).trans hc, ht.below hb, fun k e => ⟨(hk k e).1, Nat.lt_of_lt_of_le (hk k e).2 hb.size⟩⟩
end Go.Proofs.YtdhlejhflkfoaaaDoor

/- Layer 7's laws: row, put, gone. -/
namespace Go.Proofs.YtdhlejhflkfoaaaDoor
open Go.RowKit Go.Shelf
set_option linter.unusedVariables false
set_option maxRecDepth 100000
set_option linter.unusedSimpArgs false

end Go.Proofs.YtdhlejhflkfoaaaDoor

/- Layer 7's laws: lives. -/
namespace Go.Proofs.YtdhlejhflkfoaaaDoor
open Go.RowKit Go.Shelf
set_option linter.unusedVariables false
set_option maxRecDepth 100000
set_option linter.unusedSimpArgs false

end Go.Proofs.YtdhlejhflkfoaaaDoor

/- Layer 7: what program and reference both answer, in one form. -/
namespace Go.Proofs.YtdhlejhflkfoaaaDoor
open Go.RowKit Go.Shelf
set_option linter.unusedVariables false
set_option maxRecDepth 100000
set_option linter.unusedSimpArgs false

theorem LsW.any {α : Type} {E : Elem α} {w : World} {F : Nat → Prop} {v : Value} {ls : List α} (h : LsW E w F v ls) : LsW E w anyB v ls := by
  obtain ⟨A, c, h1, h2, h3⟩ := h
  exact ⟨A, c, h1, h2.mono fun _ _ _ => trivial, h3⟩
theorem BsV.any {w : World} {F : Nat → Prop} {v : Value} {l : List UInt8} (h : BsV w F v l) : BsV w anyB v l := h.mono fun _ _ _ => trivial
section
variable {F G : Nat → Prop} {w : World}
end

end Go.Proofs.YtdhlejhflkfoaaaDoor

/- Layer 7's laws: slices of what was answered. -/
namespace Go.Proofs.YtdhlejhflkfoaaaDoor
open Go.RowKit Go.Shelf
set_option linter.unusedVariables false
set_option maxRecDepth 100000
set_option linter.unusedSimpArgs false

/-- bytes that are not none have an address -/
theorem BsV.head {w : World} {F : Nat → Prop} {A : Option Addr} {n c : Nat} {l : List UInt8} (h : BsV w F (.slice A n c) l) (hl : 0 < l.length) : ∃ b o, A = some ⟨b, o, none⟩ := by
  obtain ⟨A', c', e, h1, h2⟩ := h
  cases e
  rcases h1 with h | ⟨b, off, rfl, _⟩
  · rw [h] at hl; simp at hl
  · exact ⟨b, off, rfl⟩
theorem LsW.head {α : Type} {E : Elem α} {w : World} {F : Nat → Prop} {A : Option Addr} {n c : Nat} {l : List α} (h : LsW E w F (.slice A n c) l) (hl : 0 < l.length) : ∃ b o, A = some ⟨b, o, none⟩ := by
  rcases h.at.2.1 with h | ⟨b, off, xs, rfl, _⟩
  · rw [h] at hl; simp at hl
  · exact ⟨b, off, rfl⟩
theorem BsV.take {w : World} {F : Nat → Prop} {A : Option Addr} {n c : Nat} {l : List UInt8} (h : BsV w F (.slice A n c) l) (k : Nat) (hk : k ≤ l.length) : BsV w anyB (.slice A k c) (l.take k) := by
  obtain ⟨-, h1, h2, h3, h4⟩ := h.at
  refine ⟨A, c, by rw [List.length_take, Nat.min_eq_left hk], Rd.f (rd_prefix (q := l.drop k) (by rw [List.take_append_drop]; exact h1)) (fun _ _ _ _ => trivial), fun e => ?_, by rw [List.length_take]; omega, h3⟩
  obtain ⟨rfl, h5⟩ := h4 e
  exact ⟨by simp, h5⟩
end Go.Proofs.YtdhlejhflkfoaaaDoor

/- Two lists gone through side by side, in plain words: what comes of a table and changes, and of two tables. -/
namespace Go.Proofs.YtdhlejhflkfoaaaDoor
open Go.RowKit Go.Shelf
set_option linter.unusedVariables false
set_option maxRecDepth 100000
set_option linter.unusedSimpArgs false

def putB7 (x y : Rw) : List Ch := if x.2 = y.2 then [] else [(y.1, y.2, false)]
def mergeB : List Rw → List Rw → List Ch
  | [], [] => []
  | x :: a, [] => (x.1, [], true) :: mergeB a []
  | [], y :: b => (y.1, y.2, false) :: mergeB [] b
  | x :: a, y :: b => if lessK x.1 y.1 then (x.1, [], true) :: mergeB a (y :: b) else if lessK y.1 x.1 then (y.1, y.2, false) :: mergeB (x :: a) b else putB7 x y ++ mergeB a b
termination_by a b => a.length + b.length
theorem mem_putB {x y : Rw} {c : Ch} (h : c ∈ putB7 x y) : c.1 = y.1 ∧ c.2.2 = false := by
  unfold putB7 at h
  split at h
  · cases h
  · simp at h; rw [h]; exact ⟨rfl, rfl⟩
theorem mem_mergeB (a b : List Rw) : ∀ c ∈ mergeB a b, ((∃ x ∈ a, x.1 = c.1) ∨ ∃ y ∈ b, y.1 = c.1) ∧ (c.2.2 = true → c.2.1 = []) := by
  fun_induction mergeB a b with
  | case1 => intro y h; simp at h
  | case2 x t ih =>
    intro y h
    rcases List.mem_cons.1 h with rfl | h
    · exact ⟨.inl ⟨x, by simp, rfl⟩, fun _ => rfl⟩
    · refine ⟨?_, (ih y h).2⟩
      rcases (ih y h).1 with ⟨z, hz, e⟩ | ⟨z, hz, e⟩
      · exact .inl ⟨z, by simp [hz], e⟩
      · cases hz
  | case3 c l ih =>
    intro y h
    rcases List.mem_cons.1 h with rfl | h
    · exact ⟨.inr ⟨c, by simp, rfl⟩, fun h => by cases h⟩
    · refine ⟨?_, (ih y h).2⟩
      rcases (ih y h).1 with ⟨z, hz, e⟩ | ⟨z, hz, e⟩
      · cases hz
      · exact .inr ⟨z, by simp [hz], e⟩
  | case4 x t c l h1 ih =>
    intro y h
    rcases List.mem_cons.1 h with rfl | h
    · exact ⟨.inl ⟨x, by simp, rfl⟩, fun _ => rfl⟩
    · refine ⟨?_, (ih y h).2⟩
      rcases (ih y h).1 with ⟨z, hz, e⟩ | ⟨z, hz, e⟩
      · exact .inl ⟨z, by simp [hz], e⟩
      · exact .inr ⟨z, hz, e⟩
  | case5 x t c l h1 h2 ih =>
    intro y h
    rcases List.mem_cons.1 h with rfl | h
    · exact ⟨.inr ⟨c, by simp, rfl⟩, fun h => by cases h⟩
    · refine ⟨?_, (ih y h).2⟩
      rcases (ih y h).1 with ⟨z, hz, e⟩ | ⟨z, hz, e⟩
      · exact .inl ⟨z, hz, e⟩
      · exact .inr ⟨z, by simp [hz], e⟩
  | case6 x t c l h1 h2 ih =>
    intro y h
    rcases List.mem_append.1 h with h | h
    · have := mem_putB h
      exact ⟨.inr ⟨c, by simp, this.1.symm⟩, fun h => by rw [this.2] at h; cases h⟩
    · refine ⟨?_, (ih y h).2⟩
      rcases (ih y h).1 with ⟨z, hz, e⟩ | ⟨z, hz, e⟩
      · exact .inl ⟨z, by simp [hz], e⟩
      · exact .inr ⟨z, by simp [hz], e⟩
theorem putB_sort {x y : Rw} {m : List Ch} (h : SortC m) (hk : ∀ c ∈ m, lessK y.1 c.1 = true) : SortC (putB7 x y ++ m) := by
  unfold putB7
  split
  · exact h
  · exact sortC_cons.2 ⟨hk, h⟩
theorem sort_mergeB (a b : List Rw) (ha : SortR a) (hb : SortR b) : SortC (mergeB a b) := by
  fun_induction mergeB a b with
  | case1 => exact List.Pairwise.nil
  | case2 x t ih =>
    have h := sortR_cons.1 ha
    refine sortC_cons.2 ⟨fun y hy => ?_, ih h.2 List.Pairwise.nil⟩
    rcases (mem_mergeB _ _ y hy).1 with ⟨z, hz, e⟩ | ⟨z, hz, e⟩
    · rw [← e]; exact h.1 z hz
    · cases hz
  | case3 c l ih =>
    have h := sortR_cons.1 hb
    refine sortC_cons.2 ⟨fun y hy => ?_, ih List.Pairwise.nil h.2⟩
    rcases (mem_mergeB _ _ y hy).1 with ⟨z, hz, e⟩ | ⟨z, hz, e⟩
    · cases hz
    · rw [← e]; exact h.1 z hz
  | case4 x t c l h1 ih =>
    have h := sortR_cons.1 ha
    have h' := sortR_cons.1 hb
    refine sortC_cons.2 ⟨fun y hy => ?_, ih h.2 hb⟩
    rcases (mem_mergeB _ _ y hy).1 with ⟨z, hz, e⟩ | ⟨z, hz, e⟩
    · rw [← e]; exact h.1 z hz
    · rw [← e]
      rcases List.mem_cons.1 hz with rfl | hz
      · exact h1
      · exact lessK_trans h1 (h'.1 z hz)
  | case5 x t c l h1 h2 ih =>
    have h := sortR_cons.1 ha
    have h' := sortR_cons.1 hb
    refine sortC_cons.2 ⟨fun y hy => ?_, ih ha h'.2⟩
    rcases (mem_mergeB _ _ y hy).1 with ⟨z, hz, e⟩ | ⟨z, hz, e⟩
    · rw [← e]
      rcases List.mem_cons.1 hz with rfl | hz
      · exact h2
      · exact lessK_trans h2 (h.1 z hz)
    · rw [← e]; exact h'.1 z hz
  | case6 x t c l h1 h2 ih =>
    have h := sortR_cons.1 ha
    have h' := sortR_cons.1 hb
    have e1 := lessK_total (by simpa using h1) (by simpa using h2)
    refine putB_sort (ih h.2 h'.2) fun y hy => ?_
    rcases (mem_mergeB _ _ y hy).1 with ⟨z, hz, e⟩ | ⟨z, hz, e⟩
    · rw [← e, ← e1]; exact h.1 z hz
    · rw [← e]; exact h'.1 z hz
/-- changes as rows: lists of changes that say the same are the same -/
def encO : Option (List UInt8) → List UInt8
  | none => [0]
  | some v => 1 :: v
def encC (c : Ch) : Rw := (c.1, encO (if c.2.2 then none else some c.2.1))
theorem look_enc (l : List Ch) (k : Key) : lookR (l.map encC) k = (lookC l k).map encO := by
  induction l with
  | nil => rfl
  | cons c l ih =>
    rw [List.map_cons, lookR_cons, lookC_cons, ih]
    show (if c.1 = k then _ else _) = _
    split <;> rfl
theorem encC_inj : ∀ (l m : List Ch), (∀ c ∈ l, c.2.2 = true → c.2.1 = []) → (∀ c ∈ m, c.2.2 = true → c.2.1 = []) → l.map encC = m.map encC → l = m
  | [], [], _, _, _ => rfl
  | [], _ :: _, _, _, h => by simp at h
  | _ :: _, [], _, _, h => by simp at h
  | c :: l, d :: m, hl, hm, h => by
    simp only [List.map_cons, List.cons.injEq] at h
    rw [encC_inj l m (fun x hx => hl x (by simp [hx])) (fun x hx => hm x (by simp [hx])) h.2]
    have h1 := hl c (by simp)
    have h2 := hm d (by simp)
    have h3 := h.1
    obtain ⟨k, v, z⟩ := c
    obtain ⟨k', v', z'⟩ := d
    unfold encC at h3
    cases z <;> cases z' <;> simp [encO] at h3 h1 h2 ⊢
    · exact h3
    · exact ⟨h3, h1.trans h2.symm⟩
theorem enc_sort {l : List Ch} (h : SortC l) : SortR (l.map encC) := List.pairwise_map.2 h
theorem chg_ext {l m : List Ch} (hl : SortC l) (hm : SortC m) (gl : ∀ c ∈ l, c.2.2 = true → c.2.1 = []) (gm : ∀ c ∈ m, c.2.2 = true → c.2.1 = []) (h : ∀ k, lookC l k = lookC m k) : l = m :=
  encC_inj l m gl gm (table_ext _ _ (enc_sort hl) (enc_sort hm) fun k => by rw [look_enc, look_enc, h k])
theorem look_putB (x y : Rw) (m : List Ch) (k : Key) : lookC (putB7 x y ++ m) k = if y.1 = k ∧ x.2 ≠ y.2 then some (some y.2) else lookC m k := by
  unfold putB7
  by_cases h : x.2 = y.2
  · simp [h]
  · simp only [if_neg h, List.singleton_append, lookC_cons]
    by_cases e : y.1 = k <;> simp [e, h]
theorem look_mergeB (a b : List Rw) (k : Key) (ha : SortR a) (hb : SortR b) : lookC (mergeB a b) k = if lookR a k = lookR b k then none else some (lookR b k) := by
  fun_induction mergeB a b with
  | case1 => simp [lookC, lookR_nil]
  | case2 x t ih =>
    have h := sortR_cons.1 ha
    rw [lookC_cons, lookR_cons, ih h.2 List.Pairwise.nil]
    by_cases e : x.1 = k
    · simp [e, lookR_nil]
    · simp [e]
  | case3 c l ih =>
    have h := sortR_cons.1 hb
    rw [lookC_cons, lookR_cons, ih List.Pairwise.nil h.2]
    by_cases e : c.1 = k
    · simp [e, lookR_nil]
    · simp [e]
  | case4 x t c l h1 ih =>
    have h := sortR_cons.1 ha
    have h' := sortR_cons.1 hb
    rw [lookC_cons, ih h.2 hb, lookR_cons x]
    by_cases e : x.1 = k
    · subst e
      have hn : lookR (c :: l) x.1 = none := lookR_none fun y hy => by
        rcases List.mem_cons.1 hy with rfl | hy
        · exact (lessK_ne h1).symm
        · exact (lessK_ne (lessK_trans h1 (h'.1 y hy))).symm
      rw [hn]
      simp
    · simp [e]
  | case5 x t c l h1 h2 ih =>
    have h := sortR_cons.1 ha
    have h' := sortR_cons.1 hb
    rw [lookC_cons, ih ha h'.2, lookR_cons c]
    by_cases e : c.1 = k
    · subst e
      have hn : lookR (x :: t) c.1 = none := lookR_none fun y hy => by
        rcases List.mem_cons.1 hy with rfl | hy
        · exact (lessK_ne h2).symm
        · exact (lessK_ne (lessK_trans h2 (h.1 y hy))).symm
      rw [hn]
      simp
    · simp [e]
  | case6 x t c l h1 h2 ih =>
    have h := sortR_cons.1 ha
    have h' := sortR_cons.1 hb
    have e1 := lessK_total (by simpa using h1) (by simpa using h2)
    rw [look_putB, ih h.2 h'.2, lookR_cons, lookR_cons]
    by_cases e : c.1 = k
    · have e2 : x.1 = k := e1.trans e
      have hn : lookR t k = none := lookR_none fun y hy => e2 ▸ (lessK_ne (h.1 y hy)).symm
      have hm : lookR l k = none := lookR_none fun y hy => e ▸ (lessK_ne (h'.1 y hy)).symm
      rw [if_pos e2, if_pos e, hn, hm]
      by_cases hv : x.2 = c.2
      · simp [hv]
      · simp [hv, e]
    · have e2 : ¬ x.1 = k := by rw [e1]; exact e
      simp [e, e2]
theorem merge_between {a b : List Rw} (ha : mayP a = true) (hb : mayP b = true) : mergeB a b = betweenP a b := by
  have h1 := ((may_iff a).1 ha).2
  have h2 := ((may_iff b).1 hb).2
  refine chg_ext (sort_mergeB a b h1 h2) (sort_between a b) (fun c hc => (mem_mergeB a b c hc).2) (fun c hc hz => ?_) fun k => by rw [look_mergeB a b k h1 h2, look_between h1 h2]
  exact (((mayC_iff _).1 (may_between ha hb)).1 c hc).2 hz
/-- what Compare tells -/
theorem compare_is : ∀ (a b : Key), Lib.compareBytes a b = if lessK a b then -1 else if lessK b a then 1 else 0
  | [], [] => by simp [Lib.compareBytes, lessK_irrefl]
  | [], y :: b => by simp [Lib.compareBytes, lessK_nil]
  | x :: a, [] => by
    have : lessK (x :: a) [] = false := lessK_asymm (by rw [lessK_nil]; simp)
    simp [Lib.compareBytes, this, lessK_nil]
  | x :: a, y :: b => by
    have ih := compare_is a b
    have k1 : lessK (x :: a) (y :: b) = (decide (x < y) || (decide (x = y) && lessK a b)) := by
      unfold lessK
      rw [← Bool.decide_and, ← Bool.decide_or]
      exact decide_eq_decide.2 List.cons_lt_cons_iff
    have k2 : lessK (y :: b) (x :: a) = (decide (y < x) || (decide (y = x) && lessK b a)) := by
      unfold lessK
      rw [← Bool.decide_and, ← Bool.decide_or]
      exact decide_eq_decide.2 List.cons_lt_cons_iff
    rw [k1, k2]
    unfold Lib.compareBytes
    by_cases h1 : x < y
    · simp [h1]
    · by_cases h2 : y < x
      · have h3 : ¬ x = y := fun e => by subst e; exact h1 h2
        simp [h1, h2, h3]
      · have e : x = y := UInt8.le_antisymm (UInt8.not_lt.1 h2) (UInt8.not_lt.1 h1)
        subst e
        simp [ih, UInt8.lt_irrefl]

end Go.Proofs.YtdhlejhflkfoaaaDoor
/- BchBK: BatK1 BatK2 BatK3. -/
/- batch: keyOfRow, keyOfChange, rise, May, MayChange. -/
namespace Go.Proofs.YtdhlejhflkfoaaaDoor
open Go.RowKit Go.Shelf
set_option linter.unusedVariables false
set_option maxRecDepth 100000
set_option linter.unusedSimpArgs false

def riseP : Key → List Key → Bool
  | _, [] => true
  | last, k :: r => lessK last k && decide (k.length ≤ 16) && riseP k r
def endK : Key → List Key → Key
  | last, [] => last
  | _, x :: r => endK x r
theorem endK_snoc : ∀ (t : List Key) (last x : Key), endK last (t ++ [x]) = x
  | [], _, _ => rfl
  | y :: t, last, x => endK_snoc t y x
theorem rise_snoc : ∀ (t : List Key) (last x : Key), riseP last (t ++ [x]) = (riseP last t && (lessK (endK last t) x && decide (x.length ≤ 16)))
  | [], last, x => by simp [riseP, endK]
  | y :: t, last, x => by simp only [List.cons_append, riseP, rise_snoc t y x, Bool.and_assoc, endK]
def aheadK (t : List Key) (k : Nat) : Key := endK [] (t.take k)
theorem aheadK_succ {t : List Key} {k : Nat} (h : k < t.length) : aheadK t (k + 1) = t[k] := by
  unfold aheadK
  rw [List.take_succ_eq_append_getElem h, endK_snoc]
theorem rise_take {t : List Key} {k : Nat} (h : k < t.length) : riseP [] (t.take (k + 1)) = (riseP [] (t.take k) && (lessK (aheadK t k) t[k] && decide (t[k].length ≤ 16))) := by
  rw [List.take_succ_eq_append_getElem h, rise_snoc]
  rfl
theorem rise_less : ∀ (t : List Key) (last : Key) (k : Nat), riseP last t = true → riseP last (t.take k) = true
  | [], last, k, h => by simpa using h
  | x :: t, last, 0, h => rfl
  | x :: t, last, k + 1, h => by
    simp only [riseP, Bool.and_eq_true, List.take_succ_cons] at h ⊢
    exact ⟨h.1, rise_less t x k h.2⟩
theorem rise_no {t : List Key} {k : Nat} (h : k < t.length) (hf : (lessK (aheadK t k) t[k] && decide (t[k].length ≤ 16)) = false) : riseP [] t = false := by
  cases hm : riseP [] t
  · rfl
  · have := rise_less t [] (k + 1) hm
    rw [rise_take h, hf, Bool.and_false] at this
    cases this
theorem lessK_nonempty {a b : Key} (h : lessK a b = true) : b ≠ [] := by
  rintro rfl
  have : lessK a [] = false := by
    cases a with
    | nil => exact lessK_irrefl _
    | cons x a => exact lessK_asymm (by rw [lessK_nil]; simp)
  rw [this] at h
  cases h
theorem fits_rise (last k v : List UInt8) : fitsK last k v = (decide (v.length ≤ 8192) && (lessK last k && decide (k.length ≤ 16))) := by
  unfold fitsK
  cases h : lessK last k
  · simp
  · have := lessK_nonempty h
    have e : (k == []) = false := by simpa using this
    rw [e]
    simp [Bool.and_comm]
theorem mayFrom_rise : ∀ (t : List Rw) (last : Key), mayFrom last t = ((t.all fun x => decide (x.2.length ≤ 8192)) && riseP last (t.map (·.1)))
  | [], _ => rfl
  | x :: t, last => by
    simp only [mayFrom, fits_rise, mayFrom_rise t x.1, List.all_cons, List.map_cons, riseP]
    cases decide (x.2.length ≤ 8192) <;> cases lessK last x.1 <;> cases decide (x.1.length ≤ 16) <;> simp
theorem may_all {t : List Rw} (h : (t.all fun x => decide (x.2.length ≤ 8192)) = true) : mayP t = riseP [] (t.map (·.1)) := by
  unfold mayP
  rw [mayFrom_rise, h, Bool.true_and]
theorem may_none {t : List Rw} {k : Nat} (h : k < t.length) (hf : ¬ t[k].2.length ≤ 8192) : mayP t = false := by
  unfold mayP
  rw [mayFrom_rise]
  have : (t.all fun x => decide (x.2.length ≤ 8192)) = false := by
    rw [List.all_eq_false]
    exact ⟨_, List.getElem_mem h, by simpa using hf⟩
  rw [this]
  rfl
theorem all_take {α : Type} {p : α → Bool} {t : List α} {k : Nat} (h : k < t.length) : (t.take (k + 1)).all p = ((t.take k).all p && p t[k]) := by
  rw [List.take_succ_eq_append_getElem h, List.all_append]
  simp
/-- a row's and a change's place among the keys -/
theorem map_take1 {α β : Type} {f : α → β} {t : List α} {k : Nat} (h : k < t.length) : k < (t.map f).length := by simpa using h

theorem rw_c1 {w : World} {g : Nat} {x : Rw} {A : Option Addr} {c : Nat} (h : Cs w g 41 (rwCells x A c).toArray) : w.cell? ⟨g, 1, none⟩ = some (.slice A x.2.length c) := h.cell 1 rfl
theorem keyOfRow_any (x : Rw) (A : Option Addr) (c : Nat) (w : World) :
    Calls Tryd.prog 43 #[.agg (rwCells x A c).toArray] w fun e w' => e = .returned (.string ⟨x.1.toArray⟩) ∧ Below w.heap.size w w' := by
  go_enter Tryd.func43, Tryd.ntmps43
  go_wp2_with (first
    | ((with_reducible show wpList _ _ _ _ _ w); refine wpList_boxS rfl 41 _ rfl (rwCells x A c) rfl ?_; intro g1 w1 hk hb hg; go_frame; have q0 := rw_c0 hk; have B1 := Lib.hid hb; clear hk hb hg))
  go_ret
  exact ⟨rfl, B1.out⟩
end Go.Proofs.YtdhlejhflkfoaaaDoor

/- batch: rise, May, MayChange, Shared. -/
namespace Go.Proofs.YtdhlejhflkfoaaaDoor
open Go.RowKit Go.Shelf
set_option linter.unusedVariables false
set_option maxRecDepth 100000
set_option linter.unusedSimpArgs false

theorem leq_true {a b : Key} (h : lessK a b = false) : (lessK b a || b == a) = true := by
  cases h2 : lessK b a
  · rw [lessK_total h h2]; simp
  · simp
theorem leq_false {a b : Key} (h : lessK a b = true) : (lessK b a || b == a) = false := by
  rw [lessK_asymm h]
  simpa using (lessK_ne h).symm
set_option maxHeartbeats 2000000 in
theorem rise_row (t : List Rw) (A : Option Addr) (c : Nat) (F : Nat → Prop) (w : World) (hs : SmallR t) (hr : RdX rowE w F A t) :
    Calls Tryd.prog 42 #[.slice A t.length c, .func (.func 43) #[] #[]] w fun e w' => e = .returned (.bool (riseP [] (t.map (·.1)))) ∧ Below w.heap.size w w' := by
  have hl := hs.1
  have hl' : (t.length : Int) ≤ 9223372036854775807 := by omega
  have HS := Lib.hid hs.2
  have HR := Lib.hid hr
  have hlb := less_bytes
  clear hs hr hl
  go_enter Tryd.func42, Tryd.ntmps42
  go_wp2_with fail
  go_loopw [5, 11] (fun a j wr => ∃ k : Nat, j = .int .i64 k ∧ a = .string ⟨(aheadK (t.map (·.1)) k).toArray⟩ ∧ k ≤ t.length ∧ riseP [] ((t.map (·.1)).take k) = true ∧ Below w.heap.size w wr) (fun _ j _ => t.length - (RowKit.intOf j).toNat)
  case atStart => exact ⟨0, rfl, rfl, Nat.zero_le _, rfl, Below.refl _ _⟩
  case round =>
    obtain ⟨k, rfl, rfl, hk0, hI, hB⟩ := hrel
    have HI := Lib.hid hI
    have HB := Lib.hid hB
    clear hI hB
    by_cases hk : k < t.length
    · obtain ⟨b, off, A1, c1, rfl, hat, hbv⟩ := row_rd (HR.out.below HB.out) k hk
      have hsz := HS.out _ (List.getElem_mem hk)
      have hsz' : (t[k].1.length : Int) ≤ 9223372036854775807 := by omega
      have HAT := Lib.hid hat
      have hk' : (k : Int) < (t.length : Int) := by omega
      have hmk : k < (t.map (·.1)).length := map_take1 hk
      have T1 := Lib.hid (rise_take hmk)
      have T2 := Lib.hid (fun h => rise_no hmk h)
      have T3 := Lib.hid (aheadK_succ hmk)
      rw [List.getElem_map] at T1 T2 T3
      generalize aheadK (t.map (·.1)) k = last at *
      generalize t[k] = x at *
      clear hat hbv hsz
      have hkey := fun u => keyOfRow_any x A1 c1 u
      have HK := Lib.hid hkey
      clear hkey
      obtain ⟨m, hm⟩ : ∃ m, lessK last x.1 = m := ⟨_, rfl⟩
      rw [hm] at T1 T2
      cases m
      · have f3 := leq_true hm
        clear hm
        go_wp2_with (first
          | ((with_reducible show wpList _ _ _ _ _ wr); refine wpList_load_agg rfl 41 _ rfl b (off + k * 2) rfl (rwCells x A1 c1) HAT.out _ Tryd.underlying41 rfl (infoRw x A1 c1) ?_; go_frame)
          | ((with_reducible show wpList _ _ _ _ _ wr); refine wpList_allocS rfl 41 rfl _ zeroRw ?_; intro g1 w1 hk1 hb1 hg1; go_frame; have K1 := Lib.hid hk1; have B1 := Lib.hid (below_chain HB.out hb1); have G1 := Lib.hid hg1; clear hk1 hb1 hg1)
          | ((with_reducible show wpList _ _ _ _ _ w1); refine wpList_storeS rfl 41 _ _ rfl g1 rfl (rwCells x A1 c1) rwZero rfl K1.out rfl (rwCells_one x A1 c1) (infoRw x A1 c1) ?_; intro w2 hk2 ht2; go_frame; have K2 := Lib.hid hk2; have B2 := Lib.hid (below_turn B1.out ht2 B1.out.size (Nat.le_trans HB.out.size G1.out)); clear hk2 ht2)
          | ((with_reducible show wpList _ _ _ _ _ w2); refine wpList_loadS rfl 41 _ rfl g1 rfl (rwCells x A1 c1) K2.out _ Tryd.underlying41 rfl (infoRw x A1 c1) ?_; go_frame))
        refine (HK.out w2).mono ?_
        rintro e w3 ⟨rfl, hb3⟩
        go_wp2_with fail
        go_ret
        exact ⟨by rw [T2.out (by first | trivial | rfl)]; first | done | rfl, below_chain B2.out hb3⟩
      · have f3 := leq_false hm
        clear hm
        by_cases h16 : x.1.length ≤ 16
        · have h16' : (x.1.length : Int) ≤ 16 := by omega
          have e16 : decide (x.1.length ≤ 16) = true := by simpa using h16
          rw [e16] at T1
          go_wp2_with (first
            | ((with_reducible show wpList _ _ _ _ _ wr); refine wpList_load_agg rfl 41 _ rfl b (off + k * 2) rfl (rwCells x A1 c1) HAT.out _ Tryd.underlying41 rfl (infoRw x A1 c1) ?_; go_frame)
            | ((with_reducible show wpList _ _ _ _ _ wr); refine wpList_allocS rfl 41 rfl _ zeroRw ?_; intro g1 w1 hk1 hb1 hg1; go_frame; have K1 := Lib.hid hk1; have B1 := Lib.hid (below_chain HB.out hb1); have G1 := Lib.hid hg1; clear hk1 hb1 hg1)
            | ((with_reducible show wpList _ _ _ _ _ w1); refine wpList_storeS rfl 41 _ _ rfl g1 rfl (rwCells x A1 c1) rwZero rfl K1.out rfl (rwCells_one x A1 c1) (infoRw x A1 c1) ?_; intro w2 hk2 ht2; go_frame; have K2 := Lib.hid hk2; have B2 := Lib.hid (below_turn B1.out ht2 B1.out.size (Nat.le_trans HB.out.size G1.out)); clear hk2 ht2)
            | ((with_reducible show wpList _ _ _ _ _ w2); refine wpList_loadS rfl 41 _ rfl g1 rfl (rwCells x A1 c1) K2.out _ Tryd.underlying41 rfl (infoRw x A1 c1) ?_; go_frame))
          refine (HK.out w2).mono ?_
          rintro e w3 ⟨rfl, hb3⟩
          go_wp2_with fail
          go_roundw
          case rel => exact ⟨k + 1, by go_num, by rw [T3.out], hk, by rw [T1.out, HI.out]; rfl, below_chain B2.out hb3⟩
          case measure => simp [RowKit.intOf]; omega
        · have h16' : ¬ (x.1.length : Int) ≤ 16 := by omega
          have e16 : decide (x.1.length ≤ 16) = false := by simpa using h16
          rw [e16] at T2
          go_wp2_with (first
            | ((with_reducible show wpList _ _ _ _ _ wr); refine wpList_load_agg rfl 41 _ rfl b (off + k * 2) rfl (rwCells x A1 c1) HAT.out _ Tryd.underlying41 rfl (infoRw x A1 c1) ?_; go_frame)
            | ((with_reducible show wpList _ _ _ _ _ wr); refine wpList_allocS rfl 41 rfl _ zeroRw ?_; intro g1 w1 hk1 hb1 hg1; go_frame; have K1 := Lib.hid hk1; have B1 := Lib.hid (below_chain HB.out hb1); have G1 := Lib.hid hg1; clear hk1 hb1 hg1)
            | ((with_reducible show wpList _ _ _ _ _ w1); refine wpList_storeS rfl 41 _ _ rfl g1 rfl (rwCells x A1 c1) rwZero rfl K1.out rfl (rwCells_one x A1 c1) (infoRw x A1 c1) ?_; intro w2 hk2 ht2; go_frame; have K2 := Lib.hid hk2; have B2 := Lib.hid (below_turn B1.out ht2 B1.out.size (Nat.le_trans HB.out.size G1.out)); clear hk2 ht2)
            | ((with_reducible show wpList _ _ _ _ _ w2); refine wpList_loadS rfl 41 _ rfl g1 rfl (rwCells x A1 c1) K2.out _ Tryd.underlying41 rfl (infoRw x A1 c1) ?_; go_frame))
          refine (HK.out w2).mono ?_
          rintro e w3 ⟨rfl, hb3⟩
          go_wp2_with fail
          go_ret
          exact ⟨by rw [T2.out (by first | trivial | rfl)]; first | done | rfl, below_chain B2.out hb3⟩
    · have hv := Lib.hid (show riseP [] (t.map (·.1)) = true by have := HI.out; rwa [List.take_of_length_le (by simp; omega)] at this)
      go_wp2_with fail
      go_ret
      exact ⟨by rw [hv.out]; first | done | rfl, HB.out⟩
set_option maxHeartbeats 2000000 in
theorem May_any (t : List Rw) (A : Option Addr) (c : Nat) (F : Nat → Prop) (w : World) (hs : SmallR t) (hr : RdX rowE w F A t) :
    Calls Tryd.prog 21 #[.slice A t.length c] w fun e w' => e = .returned (.bool (mayP t)) ∧ Below w.heap.size w w' := by
  have hl := hs.1
  have hl' : (t.length : Int) ≤ 9223372036854775807 := by omega
  have hend := fun u (hb : Below w.heap.size w u) => rise_row t A c F u hs (hr.below hb)
  have HE := Lib.hid hend
  have HR := Lib.hid hr
  clear hs hr hl hend
  go_enter Tryd.func21, Tryd.ntmps21
  go_wp2_with fail
  go_loopw [7] (fun j wr => ∃ k : Nat, j = .int .i64 k ∧ k ≤ t.length ∧ (t.take k).all (fun x => decide (x.2.length ≤ 8192)) = true ∧ Below w.heap.size w wr) (fun j _ => t.length - (RowKit.intOf j).toNat)
  case atStart => exact ⟨0, rfl, Nat.zero_le _, rfl, Below.refl _ _⟩
  case round =>
    obtain ⟨k, rfl, hk0, hI, hB⟩ := hrel
    have HI := Lib.hid hI
    have HB := Lib.hid hB
    clear hI hB
    by_cases hk : k < t.length
    · obtain ⟨b, off, A1, c1, rfl, hat, hbv⟩ := row_rd (HR.out.below HB.out) k hk
      have HAT := Lib.hid hat
      have hk' : (k : Int) < (t.length : Int) := by omega
      have T1 := Lib.hid (all_take (p := (fun x => decide (x.2.length ≤ 8192))) hk)
      have hnone := fun h => may_none hk h
      have T0 := Lib.hid hnone
      clear hnone
      generalize t[k] = x at *
      clear hat hbv
      by_cases h8 : x.2.length ≤ 8192
      · have h8' : (x.2.length : Int) ≤ 8192 := by omega
        have e8 : decide (x.2.length ≤ 8192) = true := by simpa using h8
        have T1 := Lib.hid (T1.out.trans (by rw [e8]))
        clear T0
        go_wp2_with (first
          | ((with_reducible show wpList _ _ _ _ _ wr); refine wpList_load_agg rfl 41 _ rfl b (off + k * 2) rfl (rwCells x A1 c1) HAT.out _ Tryd.underlying41 rfl (infoRw x A1 c1) ?_; go_frame)
          | ((with_reducible show wpList _ _ _ _ _ wr); refine wpList_allocS rfl 41 rfl _ zeroRw ?_; intro g1 w1 hk1 hb1 hg1; go_frame; have K1 := Lib.hid hk1; have B1 := Lib.hid (below_chain HB.out hb1); have G1 := Lib.hid hg1; clear hk1 hb1 hg1)
          | ((with_reducible show wpList _ _ _ _ _ w1); refine wpList_storeS rfl 41 _ _ rfl g1 rfl (rwCells x A1 c1) rwZero rfl K1.out rfl (rwCells_one x A1 c1) (infoRw x A1 c1) ?_; intro w2 hk2 ht2; go_frame; have K2 := Lib.hid hk2; have q1 := rw_c1 hk2; have B2 := Lib.hid (below_turn B1.out ht2 B1.out.size (Nat.le_trans HB.out.size G1.out)); clear hk2 ht2))
        go_roundw
        case rel => exact ⟨k + 1, by go_num, hk, by rw [T1.out, HI.out]; first | done | rfl, B2.out⟩
        case measure => simp [RowKit.intOf]; omega
      · have h8' : ¬ (x.2.length : Int) ≤ 8192 := by omega
        have T2 := Lib.hid (T0.out h8)
        clear T0
        go_wp2_with (first
          | ((with_reducible show wpList _ _ _ _ _ wr); refine wpList_load_agg rfl 41 _ rfl b (off + k * 2) rfl (rwCells x A1 c1) HAT.out _ Tryd.underlying41 rfl (infoRw x A1 c1) ?_; go_frame)
          | ((with_reducible show wpList _ _ _ _ _ wr); refine wpList_allocS rfl 41 rfl _ zeroRw ?_; intro g1 w1 hk1 hb1 hg1; go_frame; have K1 := Lib.hid hk1; have B1 := Lib.hid (below_chain HB.out hb1); have G1 := Lib.hid hg1; clear hk1 hb1 hg1)
          | ((with_reducible show wpList _ _ _ _ _ w1); refine wpList_storeS rfl 41 _ _ rfl g1 rfl (rwCells x A1 c1) rwZero rfl K1.out rfl (rwCells_one x A1 c1) (infoRw x A1 c1) ?_; intro w2 hk2 ht2; go_frame; have K2 := Lib.hid hk2; have q1 := rw_c1 hk2; have B2 := Lib.hid (below_turn B1.out ht2 B1.out.size (Nat.le_trans HB.out.size G1.out)); clear hk2 ht2))
        go_ret
        exact ⟨by rw [T2.out]; first | done | rfl, B2.out⟩
    · have hv := Lib.hid (may_all (show t.all (fun x => decide (x.2.length ≤ 8192)) = true by have := HI.out; rwa [List.take_of_length_le (by omega)] at this))
      go_wp2_with fail
      refine (HE.out wr HB.out).mono ?_
      rintro e w3 ⟨rfl, hb3⟩
      go_wp2_with fail
      go_ret
      exact ⟨by rw [hv.out]; first | done | rfl, below_chain HB.out hb3⟩
end Go.Proofs.YtdhlejhflkfoaaaDoor

/- batch: number, Put. -/
namespace Go.Proofs.YtdhlejhflkfoaaaDoor
open Go.RowKit Go.Shelf
set_option linter.unusedVariables false
set_option maxRecDepth 100000
set_option linter.unusedSimpArgs false

end Go.Proofs.YtdhlejhflkfoaaaDoor
/- BchCK: BatK4 BatK5 BatK6 BatKG. -/
/- batch: the reader's number and piece. -/
namespace Go.Proofs.YtdhlejhflkfoaaaDoor
open Go.RowKit Go.Shelf
set_option linter.unusedVariables false
set_option maxRecDepth 100000
set_option linter.unusedSimpArgs false

end Go.Proofs.YtdhlejhflkfoaaaDoor

/- batch: what the reader's change reads, in plain words: no walk. -/
namespace Go.Proofs.YtdhlejhflkfoaaaDoor
open Go.RowKit Go.Shelf
set_option linter.unusedVariables false
set_option maxRecDepth 100000
set_option linter.unusedSimpArgs false

end Go.Proofs.YtdhlejhflkfoaaaDoor

/- batch: the reader's change. -/
namespace Go.Proofs.YtdhlejhflkfoaaaDoor
open Go.RowKit Go.Shelf
set_option linter.unusedVariables false
set_option maxRecDepth 100000
set_option linter.unusedSimpArgs false

end Go.Proofs.YtdhlejhflkfoaaaDoor

/- batch: Get. -/
namespace Go.Proofs.YtdhlejhflkfoaaaDoor
open Go.RowKit Go.Shelf
set_option linter.unusedVariables false
set_option maxRecDepth 100000
set_option linter.unusedSimpArgs false

def GetBRet (b : List UInt8) (w : World) (e : Ending) (w' : World) : Prop := Below w.heap.size w w' ∧ match getC b with
  | .error er => e = .returned (.tuple #[.slice none 0 0, .int .i64 er])
  | .ok l => ∃ v g, e = .returned (.tuple #[v, .int .i64 0]) ∧ OwnX chgE w' w.heap.size (fun k => w.heap.size ≤ k ∧ k ≠ g) v l
theorem GetBRet.has {b : List UInt8} {w w' : World} {l : List Ch} {v : Value} {g : Nat} (h : getC b = .ok l) (hb : Below w.heap.size w w') (hv : OwnX chgE w' w.heap.size (fun k => w.heap.size ≤ k ∧ k ≠ g) v l) : GetBRet b w (.returned (.tuple #[v, .int .i64 0])) w' := ⟨hb, by rw [h]; exact ⟨v, g, rfl, hv⟩⟩
end Go.Proofs.YtdhlejhflkfoaaaDoor
