/- Two lists gone through side by side, in plain words: what comes of a table and changes, and of two tables. -/
import Derived.Test.YtiemphfikfigdaaTblK
import Derived.Lib.Bytealg
namespace Go.Proofs.Ytiemphfikfigdaa
open Go.RowKit Go.Shelf
set_option linter.unusedVariables false
set_option maxRecDepth 100000
set_option linter.unusedSimpArgs false

def putA (c : Ch) : List Rw := if c.2.2 then [] else [(c.1, c.2.1)]
def mergeA : List Rw → List Ch → List Rw
  | [], [] => []
  | x :: t, [] => x :: mergeA t []
  | [], c :: l => putA c ++ mergeA [] l
  | x :: t, c :: l => if lessK x.1 c.1 then x :: mergeA t (c :: l) else if lessK c.1 x.1 then putA c ++ mergeA (x :: t) l else putA c ++ mergeA t l
termination_by t l => t.length + l.length
def putB (x y : Rw) : List Ch := if x.2 = y.2 then [] else [(y.1, y.2, false)]
def mergeB : List Rw → List Rw → List Ch
  | [], [] => []
  | x :: a, [] => (x.1, [], true) :: mergeB a []
  | [], y :: b => (y.1, y.2, false) :: mergeB [] b
  | x :: a, y :: b => if lessK x.1 y.1 then (x.1, [], true) :: mergeB a (y :: b) else if lessK y.1 x.1 then (y.1, y.2, false) :: mergeB (x :: a) b else putB x y ++ mergeB a b
termination_by a b => a.length + b.length
theorem mem_putA {c : Ch} {y : Rw} (h : y ∈ putA c) : y.1 = c.1 := by
  unfold putA at h
  split at h
  · cases h
  · simp at h; rw [h]
theorem mem_putB {x y : Rw} {c : Ch} (h : c ∈ putB x y) : c.1 = y.1 ∧ c.2.2 = false := by
  unfold putB at h
  split at h
  · cases h
  · simp at h; rw [h]; exact ⟨rfl, rfl⟩
theorem mem_mergeA (t : List Rw) (l : List Ch) : ∀ y ∈ mergeA t l, (∃ x ∈ t, x.1 = y.1) ∨ ∃ c ∈ l, c.1 = y.1 := by
  fun_induction mergeA t l with
  | case1 => intro y h; simp at h
  | case2 x t ih =>
    intro y h
    rcases List.mem_cons.1 h with rfl | h
    · exact .inl ⟨_, by simp, rfl⟩
    · rcases ih y h with ⟨z, hz, e⟩ | ⟨z, hz, e⟩
      · exact .inl ⟨z, by simp [hz], e⟩
      · cases hz
  | case3 c l ih =>
    intro y h
    rcases List.mem_append.1 h with h | h
    · exact .inr ⟨c, by simp, (mem_putA h).symm⟩
    · rcases ih y h with ⟨z, hz, e⟩ | ⟨z, hz, e⟩
      · cases hz
      · exact .inr ⟨z, by simp [hz], e⟩
  | case4 x t c l h1 ih =>
    intro y h
    rcases List.mem_cons.1 h with rfl | h
    · exact .inl ⟨_, by simp, rfl⟩
    · rcases ih y h with ⟨z, hz, e⟩ | ⟨z, hz, e⟩
      · exact .inl ⟨z, by simp [hz], e⟩
      · exact .inr ⟨z, hz, e⟩
  | case5 x t c l h1 h2 ih =>
    intro y h
    rcases List.mem_append.1 h with h | h
    · exact .inr ⟨c, by simp, (mem_putA h).symm⟩
    · rcases ih y h with ⟨z, hz, e⟩ | ⟨z, hz, e⟩
      · exact .inl ⟨z, hz, e⟩
      · exact .inr ⟨z, by simp [hz], e⟩
  | case6 x t c l h1 h2 ih =>
    intro y h
    rcases List.mem_append.1 h with h | h
    · exact .inr ⟨c, by simp, (mem_putA h).symm⟩
    · rcases ih y h with ⟨z, hz, e⟩ | ⟨z, hz, e⟩
      · exact .inl ⟨z, by simp [hz], e⟩
      · exact .inr ⟨z, by simp [hz], e⟩
theorem mem_mergeB (a b : List Rw) : ∀ c ∈ mergeB a b, ((∃ x ∈ a, x.1 = c.1) ∨ ∃ y ∈ b, y.1 = c.1) ∧ (c.2.2 = true → c.2.1 = []) := by
  fun_induction mergeB a b with
  | case1 => intro y h; simp at h
  | case2 x t ih =>
    intro y h
    rcases List.mem_cons.1 h with rfl | h
    · exact ⟨.inl ⟨x, by simp, rfl⟩, fun _ => rfl⟩
    · refine ⟨?_, (ih y h).2⟩
      rcases (ih y h).1 with ⟨z, hz, e⟩ | ⟨z, hz, e⟩
      · exact .inl ⟨z, by simp [hz], e⟩
      · cases hz
  | case3 c l ih =>
    intro y h
    rcases List.mem_cons.1 h with rfl | h
    · exact ⟨.inr ⟨c, by simp, rfl⟩, fun h => by cases h⟩
    · refine ⟨?_, (ih y h).2⟩
      rcases (ih y h).1 with ⟨z, hz, e⟩ | ⟨z, hz, e⟩
      · cases hz
      · exact .inr ⟨z, by simp [hz], e⟩
  | case4 x t c l h1 ih =>
    intro y h
    rcases List.mem_cons.1 h with rfl | h
    · exact ⟨.inl ⟨x, by simp, rfl⟩, fun _ => rfl⟩
    · refine ⟨?_, (ih y h).2⟩
      rcases (ih y h).1 with ⟨z, hz, e⟩ | ⟨z, hz, e⟩
      · exact .inl ⟨z, by simp [hz], e⟩
      · exact .inr ⟨z, hz, e⟩
  | case5 x t c l h1 h2 ih =>
    intro y h
    rcases List.mem_cons.1 h with rfl | h
    · exact ⟨.inr ⟨c, by simp, rfl⟩, fun h => by cases h⟩
    · refine ⟨?_, (ih y h).2⟩
      rcases (ih y h).1 with ⟨z, hz, e⟩ | ⟨z, hz, e⟩
      · exact .inl ⟨z, hz, e⟩
      · exact .inr ⟨z, by simp [hz], e⟩
  | case6 x t c l h1 h2 ih =>
    intro y h
    rcases List.mem_append.1 h with h | h
    · have := mem_putB h
      exact ⟨.inr ⟨c, by simp, this.1.symm⟩, fun h => by rw [this.2] at h; cases h⟩
    · refine ⟨?_, (ih y h).2⟩
      rcases (ih y h).1 with ⟨z, hz, e⟩ | ⟨z, hz, e⟩
      · exact .inl ⟨z, by simp [hz], e⟩
      · exact .inr ⟨z, by simp [hz], e⟩
theorem putA_sort {c : Ch} {m : List Rw} (h : SortR m) (hk : ∀ y ∈ m, lessK c.1 y.1 = true) : SortR (putA c ++ m) := by
  unfold putA
  split
  · exact h
  · exact sortR_cons.2 ⟨hk, h⟩
theorem putB_sort {x y : Rw} {m : List Ch} (h : SortC m) (hk : ∀ c ∈ m, lessK y.1 c.1 = true) : SortC (putB x y ++ m) := by
  unfold putB
  split
  · exact h
  · exact sortC_cons.2 ⟨hk, h⟩
theorem sort_mergeA (t : List Rw) (l : List Ch) (ht : SortR t) (hl : SortC l) : SortR (mergeA t l) := by
  fun_induction mergeA t l with
  | case1 => exact List.Pairwise.nil
  | case2 x t ih =>
    have h := sortR_cons.1 ht
    refine sortR_cons.2 ⟨fun y hy => ?_, ih h.2 List.Pairwise.nil⟩
    rcases mem_mergeA _ _ y hy with ⟨z, hz, e⟩ | ⟨z, hz, e⟩
    · rw [← e]; exact h.1 z hz
    · cases hz
  | case3 c l ih =>
    have h := sortC_cons.1 hl
    refine putA_sort (ih List.Pairwise.nil h.2) fun y hy => ?_
    rcases mem_mergeA _ _ y hy with ⟨z, hz, e⟩ | ⟨z, hz, e⟩
    · cases hz
    · rw [← e]; exact h.1 z hz
  | case4 x t c l h1 ih =>
    have h := sortR_cons.1 ht
    have h' := sortC_cons.1 hl
    refine sortR_cons.2 ⟨fun y hy => ?_, ih h.2 hl⟩
    rcases mem_mergeA _ _ y hy with ⟨z, hz, e⟩ | ⟨z, hz, e⟩
    · rw [← e]; exact h.1 z hz
    · rw [← e]
      rcases List.mem_cons.1 hz with rfl | hz
      · exact h1
      · exact lessK_trans h1 (h'.1 z hz)
  | case5 x t c l h1 h2 ih =>
    have h := sortR_cons.1 ht
    have h' := sortC_cons.1 hl
    refine putA_sort (ih ht h'.2) fun y hy => ?_
    rcases mem_mergeA _ _ y hy with ⟨z, hz, e⟩ | ⟨z, hz, e⟩
    · rw [← e]
      rcases List.mem_cons.1 hz with rfl | hz
      · exact h2
      · exact lessK_trans h2 (h.1 z hz)
    · rw [← e]; exact h'.1 z hz
  | case6 x t c l h1 h2 ih =>
    have h := sortR_cons.1 ht
    have h' := sortC_cons.1 hl
    have e1 := lessK_total (by simpa using h1) (by simpa using h2)
    refine putA_sort (ih h.2 h'.2) fun y hy => ?_
    rcases mem_mergeA _ _ y hy with ⟨z, hz, e⟩ | ⟨z, hz, e⟩
    · rw [← e, ← e1]; exact h.1 z hz
    · rw [← e]; exact h'.1 z hz
theorem sort_mergeB (a b : List Rw) (ha : SortR a) (hb : SortR b) : SortC (mergeB a b) := by
  fun_induction mergeB a b with
  | case1 => exact List.Pairwise.nil
  | case2 x t ih =>
    have h := sortR_cons.1 ha
    refine sortC_cons.2 ⟨fun y hy => ?_, ih h.2 List.Pairwise.nil⟩
    rcases (mem_mergeB _ _ y hy).1 with ⟨z, hz, e⟩ | ⟨z, hz, e⟩
    · rw [← e]; exact h.1 z hz
    · cases hz
  | case3 c l ih =>
    have h := sortR_cons.1 hb
    refine sortC_cons.2 ⟨fun y hy => ?_, ih List.Pairwise.nil h.2⟩
    rcases (mem_mergeB _ _ y hy).1 with ⟨z, hz, e⟩ | ⟨z, hz, e⟩
    · cases hz
    · rw [← e]; exact h.1 z hz
  | case4 x t c l h1 ih =>
    have h := sortR_cons.1 ha
    have h' := sortR_cons.1 hb
    refine sortC_cons.2 ⟨fun y hy => ?_, ih h.2 hb⟩
    rcases (mem_mergeB _ _ y hy).1 with ⟨z, hz, e⟩ | ⟨z, hz, e⟩
    · rw [← e]; exact h.1 z hz
    · rw [← e]
      rcases List.mem_cons.1 hz with rfl | hz
      · exact h1
      · exact lessK_trans h1 (h'.1 z hz)
  | case5 x t c l h1 h2 ih =>
    have h := sortR_cons.1 ha
    have h' := sortR_cons.1 hb
    refine sortC_cons.2 ⟨fun y hy => ?_, ih ha h'.2⟩
    rcases (mem_mergeB _ _ y hy).1 with ⟨z, hz, e⟩ | ⟨z, hz, e⟩
    · rw [← e]
      rcases List.mem_cons.1 hz with rfl | hz
      · exact h2
      · exact lessK_trans h2 (h.1 z hz)
    · rw [← e]; exact h'.1 z hz
  | case6 x t c l h1 h2 ih =>
    have h := sortR_cons.1 ha
    have h' := sortR_cons.1 hb
    have e1 := lessK_total (by simpa using h1) (by simpa using h2)
    refine putB_sort (ih h.2 h'.2) fun y hy => ?_
    rcases (mem_mergeB _ _ y hy).1 with ⟨z, hz, e⟩ | ⟨z, hz, e⟩
    · rw [← e, ← e1]; exact h.1 z hz
    · rw [← e]; exact h'.1 z hz
theorem look_putA (c : Ch) (m : List Rw) (k : Key) : lookR (putA c ++ m) k = if c.1 = k ∧ c.2.2 = false then some c.2.1 else lookR m k := by
  unfold putA
  obtain ⟨a, v, z⟩ := c
  cases z
  · simp only [Bool.false_eq_true, if_false, List.singleton_append, lookR_cons]
    by_cases h : a = k <;> simp [h]
  · simp
theorem look_mergeA (t : List Rw) (l : List Ch) (k : Key) (ht : SortR t) (hl : SortC l) : lookR (mergeA t l) k = (lookC l k).getD (lookR t k) := by
  fun_induction mergeA t l with
  | case1 => rfl
  | case2 x t ih =>
    have h := sortR_cons.1 ht
    rw [lookR_cons, lookR_cons, ih h.2 List.Pairwise.nil]
    rfl
  | case3 c l ih =>
    have h := sortC_cons.1 hl
    rw [look_putA, ih List.Pairwise.nil h.2, lookC_cons]
    obtain ⟨a, v, z⟩ := c
    by_cases e : a = k
    · subst e
      have hn := lookC_none fun y hy => (lessK_ne (h.1 y hy)).symm
      dsimp only at hn ⊢
      rw [hn]
      cases z <;> simp [lookR_nil]
    · simp [e]
  | case4 x t c l h1 ih =>
    have h := sortR_cons.1 ht
    have h' := sortC_cons.1 hl
    rw [lookR_cons, lookR_cons, ih h.2 hl]
    by_cases e : x.1 = k
    · subst e
      rw [if_pos rfl, if_pos rfl, lookC_cons, if_neg (lessK_ne h1).symm, lookC_none fun y hy => (lessK_ne (lessK_trans h1 (h'.1 y hy))).symm]
      rfl
    · rw [if_neg e, if_neg e]
  | case5 x t c l h1 h2 ih =>
    have h := sortR_cons.1 ht
    have h' := sortC_cons.1 hl
    rw [look_putA, ih ht h'.2, lookC_cons]
    obtain ⟨a, v, z⟩ := c
    by_cases e : a = k
    · subst e
      have hn := lookC_none fun y hy => (lessK_ne (h'.1 y hy)).symm
      have hm : lookR (x :: t) a = none := lookR_none fun y hy => by
        rcases List.mem_cons.1 hy with rfl | hy
        · exact (lessK_ne h2).symm
        · exact (lessK_ne (lessK_trans h2 (h.1 y hy))).symm
      dsimp only at hn ⊢
      rw [hn, hm]
      cases z <;> simp
    · simp [e]
  | case6 x t c l h1 h2 ih =>
    have h := sortR_cons.1 ht
    have h' := sortC_cons.1 hl
    have e1 := lessK_total (by simpa using h1) (by simpa using h2)
    rw [look_putA, ih h.2 h'.2, lookC_cons]
    obtain ⟨a, v, z⟩ := c
    by_cases e : a = k
    · subst e
      have hn := lookC_none fun y hy => (lessK_ne (h'.1 y hy)).symm
      have hm : lookR t a = none := lookR_none fun y hy => by
        dsimp only at e1
        exact e1 ▸ (lessK_ne (h.1 y hy)).symm
      dsimp only at hn ⊢
      rw [hn, hm]
      cases z <;> simp
    · have e2 : ¬ x.1 = k := by rw [e1]; exact e
      rw [lookR_cons, if_neg e2]
      simp [e]
theorem merge_apply {t : List Rw} {l : List Ch} (ht : mayP t = true) (hl : mayCP l = true) : mergeA t l = applyP t l := by
  have h1 := ((may_iff t).1 ht).2
  have h2 := ((mayC_iff l).1 hl).2
  exact table_ext _ _ (sort_mergeA t l h1 h2) (sort_apply l h1) fun k => by rw [look_mergeA t l k h1 h2, look_apply l t k h2]
/-- changes as rows: lists of changes that say the same are the same -/
def encO : Option (List UInt8) → List UInt8
  | none => [0]
  | some v => 1 :: v
def encC (c : Ch) : Rw := (c.1, encO (if c.2.2 then none else some c.2.1))
theorem look_enc (l : List Ch) (k : Key) : lookR (l.map encC) k = (lookC l k).map encO := by
  induction l with
  | nil => rfl
  | cons c l ih =>
    rw [List.map_cons, lookR_cons, lookC_cons, ih]
    show (if c.1 = k then _ else _) = _
    split <;> rfl
theorem encC_inj : ∀ (l m : List Ch), (∀ c ∈ l, c.2.2 = true → c.2.1 = []) → (∀ c ∈ m, c.2.2 = true → c.2.1 = []) → l.map encC = m.map encC → l = m
  | [], [], _, _, _ => rfl
  | [], _ :: _, _, _, h => by simp at h
  | _ :: _, [], _, _, h => by simp at h
  | c :: l, d :: m, hl, hm, h => by
    simp only [List.map_cons, List.cons.injEq] at h
    rw [encC_inj l m (fun x hx => hl x (by simp [hx])) (fun x hx => hm x (by simp [hx])) h.2]
    have h1 := hl c (by simp)
    have h2 := hm d (by simp)
    have h3 := h.1
    obtain ⟨k, v, z⟩ := c
    obtain ⟨k', v', z'⟩ := d
    unfold encC at h3
    cases z <;> cases z' <;> simp [encO] at h3 h1 h2 ⊢
    · exact h3
    · exact ⟨h3, h1.trans h2.symm⟩
theorem enc_sort {l : List Ch} (h : SortC l) : SortR (l.map encC) := List.pairwise_map.2 h
theorem chg_ext {l m : List Ch} (hl : SortC l) (hm : SortC m) (gl : ∀ c ∈ l, c.2.2 = true → c.2.1 = []) (gm : ∀ c ∈ m, c.2.2 = true → c.2.1 = []) (h : ∀ k, lookC l k = lookC m k) : l = m :=
  encC_inj l m gl gm (table_ext _ _ (enc_sort hl) (enc_sort hm) fun k => by rw [look_enc, look_enc, h k])
theorem look_putB (x y : Rw) (m : List Ch) (k : Key) : lookC (putB x y ++ m) k = if y.1 = k ∧ x.2 ≠ y.2 then some (some y.2) else lookC m k := by
  unfold putB
  by_cases h : x.2 = y.2
  · simp [h]
  · simp only [if_neg h, List.singleton_append, lookC_cons]
    by_cases e : y.1 = k <;> simp [e, h]
theorem look_mergeB (a b : List Rw) (k : Key) (ha : SortR a) (hb : SortR b) : lookC (mergeB a b) k = if lookR a k = lookR b k then none else some (lookR b k) := by
  fun_induction mergeB a b with
  | case1 => simp [lookC, lookR_nil]
  | case2 x t ih =>
    have h := sortR_cons.1 ha
    rw [lookC_cons, lookR_cons, ih h.2 List.Pairwise.nil]
    by_cases e : x.1 = k
    · simp [e, lookR_nil]
    · simp [e]
  | case3 c l ih =>
    have h := sortR_cons.1 hb
    rw [lookC_cons, lookR_cons, ih List.Pairwise.nil h.2]
    by_cases e : c.1 = k
    · simp [e, lookR_nil]
    · simp [e]
  | case4 x t c l h1 ih =>
    have h := sortR_cons.1 ha
    have h' := sortR_cons.1 hb
    rw [lookC_cons, ih h.2 hb, lookR_cons x]
    by_cases e : x.1 = k
    · subst e
      have hn : lookR (c :: l) x.1 = none := lookR_none fun y hy => by
        rcases List.mem_cons.1 hy with rfl | hy
        · exact (lessK_ne h1).symm
        · exact (lessK_ne (lessK_trans h1 (h'.1 y hy))).symm
      rw [hn]
      simp
    · simp [e]
  | case5 x t c l h1 h2 ih =>
    have h := sortR_cons.1 ha
    have h' := sortR_cons.1 hb
    rw [lookC_cons, ih ha h'.2, lookR_cons c]
    by_cases e : c.1 = k
    · subst e
      have hn : lookR (x :: t) c.1 = none := lookR_none fun y hy => by
        rcases List.mem_cons.1 hy with rfl | hy
        · exact (lessK_ne h2).symm
        · exact (lessK_ne (lessK_trans h2 (h.1 y hy))).symm
      rw [hn]
      simp
    · simp [e]
  | case6 x t c l h1 h2 ih =>
    have h := sortR_cons.1 ha
    have h' := sortR_cons.1 hb
    have e1 := lessK_total (by simpa using h1) (by simpa using h2)
    rw [look_putB, ih h.2 h'.2, lookR_cons, lookR_cons]
    by_cases e : c.1 = k
    · have e2 : x.1 = k := e1.trans e
      have hn : lookR t k = none := lookR_none fun y hy => e2 ▸ (lessK_ne (h.1 y hy)).symm
      have hm : lookR l k = none := lookR_none fun y hy => e ▸ (lessK_ne (h'.1 y hy)).symm
      rw [if_pos e2, if_pos e, hn, hm]
      by_cases hv : x.2 = c.2
      · simp [hv]
      · simp [hv, e]
    · have e2 : ¬ x.1 = k := by rw [e1]; exact e
      simp [e, e2]
theorem merge_between {a b : List Rw} (ha : mayP a = true) (hb : mayP b = true) : mergeB a b = betweenP a b := by
  have h1 := ((may_iff a).1 ha).2
  have h2 := ((may_iff b).1 hb).2
  refine chg_ext (sort_mergeB a b h1 h2) (sort_between a b) (fun c hc => (mem_mergeB a b c hc).2) (fun c hc hz => ?_) fun k => by rw [look_mergeB a b k h1 h2, look_between h1 h2]
  exact (((mayC_iff _).1 (may_between ha hb)).1 c hc).2 hz
/-- what Compare tells -/
theorem compare_is : ∀ (a b : Key), Lib.compareBytes a b = if lessK a b then -1 else if lessK b a then 1 else 0
  | [], [] => by simp [Lib.compareBytes, lessK_irrefl]
  | [], y :: b => by simp [Lib.compareBytes, lessK_nil]
  | x :: a, [] => by
    have : lessK (x :: a) [] = false := lessK_asymm (by rw [lessK_nil]; simp)
    simp [Lib.compareBytes, this, lessK_nil]
  | x :: a, y :: b => by
    have ih := compare_is a b
    have k1 : lessK (x :: a) (y :: b) = (decide (x < y) || (decide (x = y) && lessK a b)) := by
      unfold lessK
      rw [← Bool.decide_and, ← Bool.decide_or]
      exact decide_eq_decide.2 List.cons_lt_cons_iff
    have k2 : lessK (y :: b) (x :: a) = (decide (y < x) || (decide (y = x) && lessK b a)) := by
      unfold lessK
      rw [← Bool.decide_and, ← Bool.decide_or]
      exact decide_eq_decide.2 List.cons_lt_cons_iff
    rw [k1, k2]
    unfold Lib.compareBytes
    by_cases h1 : x < y
    · simp [h1]
    · by_cases h2 : y < x
      · have h3 : ¬ x = y := fun e => by subst e; exact h1 h2
        simp [h1, h2, h3]
      · have e : x = y := UInt8.le_antisymm (UInt8.not_lt.1 h2) (UInt8.not_lt.1 h1)
        subst e
        simp [ih, UInt8.lt_irrefl]

end Go.Proofs.Ytiemphfikfigdaa
