/- batch: keyOfRow, keyOfChange, rise, May, MayChange. -/
import Derived.Test.YtiemphfikfigdaaBatRK
import Derived.Test.YtiemphfikfigdaaBatProg
namespace Go.Proofs.Ytiemphfikfigdaa
open Go.RowKit Go.Shelf
set_option linter.unusedVariables false
set_option maxRecDepth 100000
set_option linter.unusedSimpArgs false

def riseP : Key → List Key → Bool
  | _, [] => true
  | last, k :: r => lessK last k && decide (k.length ≤ 16) && riseP k r
def endK : Key → List Key → Key
  | last, [] => last
  | _, x :: r => endK x r
theorem endK_snoc : ∀ (t : List Key) (last x : Key), endK last (t ++ [x]) = x
  | [], _, _ => rfl
  | y :: t, last, x => endK_snoc t y x
theorem rise_snoc : ∀ (t : List Key) (last x : Key), riseP last (t ++ [x]) = (riseP last t && (lessK (endK last t) x && decide (x.length ≤ 16)))
  | [], last, x => by simp [riseP, endK]
  | y :: t, last, x => by simp only [List.cons_append, riseP, rise_snoc t y x, Bool.and_assoc, endK]
def aheadK (t : List Key) (k : Nat) : Key := endK [] (t.take k)
theorem aheadK_succ {t : List Key} {k : Nat} (h : k < t.length) : aheadK t (k + 1) = t[k] := by
  unfold aheadK
  rw [List.take_succ_eq_append_getElem h, endK_snoc]
theorem rise_take {t : List Key} {k : Nat} (h : k < t.length) : riseP [] (t.take (k + 1)) = (riseP [] (t.take k) && (lessK (aheadK t k) t[k] && decide (t[k].length ≤ 16))) := by
  rw [List.take_succ_eq_append_getElem h, rise_snoc]
  rfl
theorem rise_less : ∀ (t : List Key) (last : Key) (k : Nat), riseP last t = true → riseP last (t.take k) = true
  | [], last, k, h => by simpa using h
  | x :: t, last, 0, h => rfl
  | x :: t, last, k + 1, h => by
    simp only [riseP, Bool.and_eq_true, List.take_succ_cons] at h ⊢
    exact ⟨h.1, rise_less t x k h.2⟩
theorem rise_no {t : List Key} {k : Nat} (h : k < t.length) (hf : (lessK (aheadK t k) t[k] && decide (t[k].length ≤ 16)) = false) : riseP [] t = false := by
  cases hm : riseP [] t
  · rfl
  · have := rise_less t [] (k + 1) hm
    rw [rise_take h, hf, Bool.and_false] at this
    cases this
theorem lessK_nonempty {a b : Key} (h : lessK a b = true) : b ≠ [] := by
  rintro rfl
  have : lessK a [] = false := by
    cases a with
    | nil => exact lessK_irrefl _
    | cons x a => exact lessK_asymm (by rw [lessK_nil]; simp)
  rw [this] at h
  cases h
theorem fits_rise (last k v : List UInt8) : fitsK last k v = (decide (v.length ≤ 8192) && (lessK last k && decide (k.length ≤ 16))) := by
  unfold fitsK
  cases h : lessK last k
  · simp
  · have := lessK_nonempty h
    have e : (k == []) = false := by simpa using this
    rw [e]
    simp [Bool.and_comm]
def okV (x : Ch) : Bool := !(!decide (x.2.1.length ≤ 8192) || (x.2.2 && decide (0 < x.2.1.length)))
theorem okC_rise (last : Key) (x : Ch) : okC last x = (okV x && (lessK last x.1 && decide (x.1.length ≤ 16))) := by
  unfold okC okV
  rw [fits_rise]
  obtain ⟨k, v, z⟩ := x
  cases v <;> cases z <;> simp [Bool.and_comm, Bool.and_left_comm]
theorem mayFrom_rise : ∀ (t : List Rw) (last : Key), mayFrom last t = ((t.all fun x => decide (x.2.length ≤ 8192)) && riseP last (t.map (·.1)))
  | [], _ => rfl
  | x :: t, last => by
    simp only [mayFrom, fits_rise, mayFrom_rise t x.1, List.all_cons, List.map_cons, riseP]
    cases decide (x.2.length ≤ 8192) <;> cases lessK last x.1 <;> cases decide (x.1.length ≤ 16) <;> simp
theorem mayCFrom_rise : ∀ (t : List Ch) (last : Key), mayCFrom last t = (t.all okV && riseP last (t.map (·.1)))
  | [], _ => rfl
  | x :: t, last => by
    simp only [mayCFrom, okC_rise, mayCFrom_rise t x.1, List.all_cons, List.map_cons, riseP]
    cases okV x <;> cases lessK last x.1 <;> cases decide (x.1.length ≤ 16) <;> simp
theorem may_all {t : List Rw} (h : (t.all fun x => decide (x.2.length ≤ 8192)) = true) : mayP t = riseP [] (t.map (·.1)) := by
  unfold mayP
  rw [mayFrom_rise, h, Bool.true_and]
theorem mayC_all {t : List Ch} (h : t.all okV = true) : mayCP t = riseP [] (t.map (·.1)) := by
  unfold mayCP
  rw [mayCFrom_rise, h, Bool.true_and]
theorem may_none {t : List Rw} {k : Nat} (h : k < t.length) (hf : ¬ t[k].2.length ≤ 8192) : mayP t = false := by
  unfold mayP
  rw [mayFrom_rise]
  have : (t.all fun x => decide (x.2.length ≤ 8192)) = false := by
    rw [List.all_eq_false]
    exact ⟨_, List.getElem_mem h, by simpa using hf⟩
  rw [this]
  rfl
theorem mayC_none {t : List Ch} {k : Nat} (h : k < t.length) (hf : okV t[k] = false) : mayCP t = false := by
  unfold mayCP
  rw [mayCFrom_rise]
  have : t.all okV = false := by
    rw [List.all_eq_false]
    exact ⟨_, List.getElem_mem h, by simp [hf]⟩
  rw [this]
  rfl
theorem all_take {α : Type} {p : α → Bool} {t : List α} {k : Nat} (h : k < t.length) : (t.take (k + 1)).all p = ((t.take k).all p && p t[k]) := by
  rw [List.take_succ_eq_append_getElem h, List.all_append]
  simp
/-- a row's and a change's place among the keys -/
theorem map_take1 {α β : Type} {f : α → β} {t : List α} {k : Nat} (h : k < t.length) : k < (t.map f).length := by simpa using h

theorem chCells_one (x : Ch) (A : Option Addr) (c : Nat) : ∀ v ∈ chCells x A c, v.oneCell' = true := one3c rfl rfl rfl
theorem rw_c1 {w : World} {g : Nat} {x : Rw} {A : Option Addr} {c : Nat} (h : Cs w g 50 (rwCells x A c).toArray) : w.cell? ⟨g, 1, none⟩ = some (.slice A x.2.length c) := h.cell 1 rfl
theorem keyOfRow_any (x : Rw) (A : Option Addr) (c : Nat) (w : World) :
    Calls Try.prog 45 #[.agg (rwCells x A c).toArray] w fun e w' => e = .returned (.string ⟨x.1.toArray⟩) ∧ Below w.heap.size w w' := by
  go_enter Try.func45, Try.ntmps45
  go_wp2_with (first
    | ((with_reducible show wpList _ _ _ _ _ w); refine wpList_boxS rfl 50 _ rfl (rwCells x A c) rfl ?_; intro g1 w1 hk hb hg; go_frame; have q0 := rw_c0 hk; have B1 := Lib.hid hb; clear hk hb hg))
  go_ret
  exact ⟨rfl, B1.out⟩
theorem keyOfChange_any (x : Ch) (A : Option Addr) (c : Nat) (w : World) :
    Calls Try.prog 42 #[.agg (chCells x A c).toArray] w fun e w' => e = .returned (.string ⟨x.1.toArray⟩) ∧ Below w.heap.size w w' := by
  go_enter Try.func42, Try.ntmps42
  go_wp2_with (first
    | ((with_reducible show wpList _ _ _ _ _ w); refine wpList_boxS rfl 52 _ rfl (chCells x A c) rfl ?_; intro g1 w1 hk hb hg; go_frame; have q0 := ch_c0 hk; have B1 := Lib.hid hb; clear hk hb hg))
  go_ret
  exact ⟨rfl, B1.out⟩

end Go.Proofs.Ytiemphfikfigdaa
