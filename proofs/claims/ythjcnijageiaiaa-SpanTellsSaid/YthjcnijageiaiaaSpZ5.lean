/- Plain: parts of spans that rise; gathered again. Of no program. -/
import Derived.Test.YthjcnijageiaiaaSpaQ
namespace Go.Proofs.Ythjcnijageiaiaa
open Go.RowKit Go.Shelf
set_option linter.unusedVariables false
set_option maxRecDepth 100000
set_option linter.unusedSimpArgs false

/-- one part more: those that touch are one, those without places are none -/
def stepG (q : List Sp) (p : Sp) : List Sp :=
  if p.2 ≤ p.1 then q else
  match q.getLast? with
  | some t => if t.2 = p.1 then q.dropLast ++ [(t.1, p.2)] else q ++ [p]
  | none => q ++ [p]
def gatherP (ps : List Sp) : List Sp := ps.foldl stepG []
theorem gatherP_snoc (ps : List Sp) (p : Sp) : gatherP (ps ++ [p]) = stepG (gatherP ps) p := by
  unfold gatherP
  rw [List.foldl_append]
  rfl
theorem stepG_no {q : List Sp} {p : Sp} (h : p.2 ≤ p.1) : stepG q p = q := if_pos h
theorem stepG_nil {p : Sp} (h : p.1 < p.2) : stepG [] p = [p] := by
  unfold stepG
  rw [if_neg (by omega)]
  rfl
theorem stepG_last {q : List Sp} {t p : Sp} (h : p.1 < p.2) (ht : t.2 = p.1) : stepG (q ++ [t]) p = q ++ [(t.1, p.2)] := by
  unfold stepG
  rw [if_neg (by omega)]
  simp [ht]
theorem stepG_new {q : List Sp} {t p : Sp} (h : p.1 < p.2) (ht : t.2 ≠ p.1) : stepG (q ++ [t]) p = q ++ [t] ++ [p] := by
  unfold stepG
  rw [if_neg (by omega)]
  simp [ht]
theorem snoc_cases {α : Type} (q : List α) : q = [] ∨ ∃ r t, q = r ++ [t] := by
  rcases List.eq_nil_or_concat q with h | ⟨r, t, h⟩
  · exact .inl h
  · exact .inr ⟨r, t, by rw [h, List.concat_eq_append]⟩
theorem stepG_len (q : List Sp) (p : Sp) : (stepG q p).length ≤ q.length + 1 := by
  by_cases h : p.2 ≤ p.1
  · rw [stepG_no h]; omega
  · rcases snoc_cases q with rfl | ⟨r, t, rfl⟩
    · rw [stepG_nil (by omega)]; simp
    · by_cases ht : t.2 = p.1
      · rw [stepG_last (by omega) ht]; simp
      · rw [stepG_new (by omega) ht]; simp
theorem gatherP_len (ps : List Sp) : (gatherP ps).length ≤ ps.length := by
  refine snoc_ind (P := fun ps => (gatherP ps).length ≤ ps.length) ?_ ?_ ps
  · simp [gatherP]
  · intro l x ih
    rw [gatherP_snoc, List.length_append]
    have := stepG_len (gatherP l) x
    simp
    omega
/-- parts that rise, from a place on -/
def risesP : Nat → List Sp → Prop
  | _, [] => True
  | b, p :: r => if p.1 < p.2 then b ≤ p.1 ∧ risesP p.2 r else risesP b r
theorem risesP_less : ∀ {ps : List Sp} {b c : Nat}, c ≤ b → risesP b ps → risesP c ps
  | [], _, _, _, _ => trivial
  | p :: r, b, c, h, k => by
    unfold risesP at k ⊢
    split
    · rename_i hp
      rw [if_pos hp] at k
      exact ⟨Nat.le_trans h k.1, k.2⟩
    · rename_i hp
      rw [if_neg hp] at k
      exact risesP_less h k
theorem inS_no {p : Sp} (h : p.2 ≤ p.1) (x : Nat) : inS p x = false := by
  cases e : inS p x
  · rfl
  · have := (inS_iff p x).1 e; omega
theorem endS_last (q : List Sp) (t : Sp) : endS 0 (q ++ [t]) = t.2 + 1 := endS_snoc q 0 t
/-- gathered: spans that may be, of the same places -/
theorem gather_is : ∀ (ps : List Sp) (q : List Sp) (b : Nat), mayS q = true → endS 0 q ≤ b + 1 → risesP b ps → mayS (ps.foldl stepG q) = true ∧ ∀ x, memS (ps.foldl stepG q) x = (memS q x || memS ps x)
  | [], q, b, h, _, _ => ⟨h, fun x => by rw [memS_nil, Bool.or_false]; rfl⟩
  | p :: r, q, b, h, he, hr => by
    unfold risesP at hr
    rw [List.foldl_cons]
    by_cases hp : p.1 < p.2
    · rw [if_pos hp] at hr
      have key : mayS (stepG q p) = true ∧ endS 0 (stepG q p) ≤ p.2 + 1 ∧ ∀ x, memS (stepG q p) x = (memS q x || inS p x) := by
        rcases snoc_cases q with rfl | ⟨u, t, rfl⟩
        · rw [stepG_nil hp]
          refine ⟨(mayFS_cons).2 ⟨Nat.zero_le _, hp, rfl⟩, Nat.le_refl _, fun x => ?_⟩
          rw [memS_cons, memS_nil, Bool.or_false, Bool.false_or]
        · rw [endS_last] at he
          obtain ⟨a1, a2, a3⟩ := (mayFS_app u t 0).1 h
          by_cases ht : t.2 = p.1
          · rw [stepG_last hp ht]
            refine ⟨(mayFS_app u _ 0).2 ⟨a1, a2, by dsimp only; omega⟩, by rw [endS_last]; exact Nat.le_refl _, fun x => ?_⟩
            rw [memS_app, memS_app, memS_cons, memS_nil, Bool.or_false, memS_cons, memS_nil, Bool.or_false, Bool.or_assoc]
            congr 1
            rw [Bool.eq_iff_iff, Bool.or_eq_true, inS_iff, inS_iff, inS_iff]
            dsimp only
            omega
          · rw [stepG_new hp ht]
            refine ⟨(mayFS_app _ _ 0).2 ⟨h, by rw [endS_last]; omega, hp⟩, by rw [endS_last]; exact Nat.le_refl _, fun x => ?_⟩
            rw [memS_app, memS_cons, memS_nil, Bool.or_false]
      obtain ⟨k1, k2, k3⟩ := key
      obtain ⟨g1, g2⟩ := gather_is r (stepG q p) p.2 k1 k2 hr.2
      exact ⟨g1, fun x => by rw [g2, k3, memS_cons, Bool.or_assoc]⟩
    · rw [if_neg hp] at hr
      rw [stepG_no (by omega)]
      obtain ⟨g1, g2⟩ := gather_is r q b h he hr
      exact ⟨g1, fun x => by rw [g2, memS_cons, inS_no (by omega), Bool.false_or]⟩
/-- what lies ahead of s, then i, then what lies behind s -/
def aheadP (l : List Sp) (s : Sp) : List Sp := l.map fun p => (p.1, min p.2 s.1)
def behindP (l : List Sp) (s : Sp) : List Sp := l.map fun p => (max p.1 s.2, p.2)
def partsP (l : List Sp) (s i : Sp) : List Sp := aheadP l s ++ [i] ++ behindP l s
theorem partsP_len (l : List Sp) (s i : Sp) : (partsP l s i).length = 2 * l.length + 1 := by
  simp [partsP, aheadP, behindP]
  omega
theorem behind_rises (s : Sp) : ∀ (l : List Sp) (b c : Nat), mayFS b l = true → c ≤ max b s.2 → risesP c (behindP l s)
  | [], _, _, _, _ => trivial
  | p :: r, b, c, h, hc => by
    rw [mayFS_cons] at h
    show risesP c ((max p.1 s.2, p.2) :: behindP r s)
    unfold risesP
    split
    · exact ⟨by dsimp only; omega, behind_rises s r (p.2 + 1) p.2 h.2.2 (by omega)⟩
    · exact behind_rises s r (p.2 + 1) c h.2.2 (by omega)
theorem ahead_rises (s : Sp) (qs : List Sp) (hq : risesP s.1 qs) : ∀ (l : List Sp) (b : Nat), mayFS b l = true → b ≤ s.1 ∨ b = 0 → ∀ c, c ≤ b → c ≤ s.1 → risesP c (aheadP l s ++ qs)
  | [], b, h, _, c, _, hc => risesP_less hc hq
  | p :: r, b, h, hb, c, hcb, hcs => by
    rw [mayFS_cons] at h
    show risesP c ((p.1, min p.2 s.1) :: (aheadP r s ++ qs))
    unfold risesP
    split
    · rename_i hp
      refine ⟨by dsimp only; omega, ?_⟩
      have : ∀ d, d ≤ p.2 → d ≤ s.1 → risesP d (aheadP r s ++ qs) := fun d h1 h2 => by
        by_cases hd : p.2 + 1 ≤ s.1
        · exact ahead_rises s qs hq r (p.2 + 1) h.2.2 (.inl hd) d (by omega) h2
        · exact ahead_rises s qs hq r d (mayFS_less (by omega) h.2.2) (.inl h2) d (Nat.le_refl _) h2
      exact this _ (Nat.min_le_left _ _) (Nat.min_le_right _ _)
    · exact ahead_rises s qs hq r c (mayFS_less (by omega) h.2.2) (.inl hcs) c (Nat.le_refl _) hcs
theorem mem_ahead (l : List Sp) (s : Sp) (x : Nat) : memS (aheadP l s) x = (memS l x && decide (x < s.1)) := by
  induction l with
  | nil => rfl
  | cons p r ih =>
    show memS ((p.1, min p.2 s.1) :: aheadP r s) x = _
    rw [memS_cons, memS_cons, ih, Bool.and_or_distrib_right]
    congr 1
    rw [Bool.eq_iff_iff, Bool.and_eq_true, inS_iff, inS_iff, decide_eq_true_eq]
    dsimp only
    omega
theorem mem_behind (l : List Sp) (s : Sp) (x : Nat) : memS (behindP l s) x = (memS l x && decide (s.2 ≤ x)) := by
  induction l with
  | nil => rfl
  | cons p r ih =>
    show memS ((max p.1 s.2, p.2) :: behindP r s) x = _
    rw [memS_cons, memS_cons, ih, Bool.and_or_distrib_right]
    congr 1
    rw [Bool.eq_iff_iff, Bool.and_eq_true, inS_iff, inS_iff, decide_eq_true_eq]
    dsimp only
    omega
theorem lay_add {l : List Sp} {s : Sp} (hm : mayS l = true) (hs : s.1 ≤ s.2) : AddOf l s (gatherP (partsP l s s)) := by
  have hr : risesP s.1 ([s] ++ behindP l s) := by
    show risesP s.1 (s :: behindP l s)
    unfold risesP
    split
    · exact ⟨Nat.le_refl _, behind_rises s l 0 s.2 hm (by omega)⟩
    · exact behind_rises s l 0 s.1 hm (by omega)
  have h1 := ahead_rises s _ hr l 0 hm (.inr rfl) 0 (Nat.le_refl _) (Nat.zero_le _)
  rw [← List.append_assoc] at h1
  obtain ⟨g1, g2⟩ := gather_is (partsP l s s) [] 0 rfl (Nat.zero_le _) h1
  refine ⟨g1, fun x => ?_⟩
  show memS ((partsP l s s).foldl stepG []) x = _
  rw [g2, memS_nil, Bool.false_or]
  unfold partsP
  rw [memS_app, memS_app, mem_ahead, mem_behind, memS_cons, memS_nil, Bool.or_false]
  have hi := inS_iff s x
  cases memS l x <;> cases h3 : inS s x
  · simp
  · simp
  · have : ¬ (s.1 ≤ x ∧ x < s.2) := fun h => by rw [hi.2 h] at h3; cases h3
    simp
    omega
  · simp
theorem lay_cut {l : List Sp} {s : Sp} (hm : mayS l = true) (hs : s.1 ≤ s.2) : CutOf l s (gatherP (partsP l s (0, 0))) := by
  have hr : risesP s.1 ([(0, 0)] ++ behindP l s) := by
    show risesP s.1 ((0, 0) :: behindP l s)
    unfold risesP
    rw [if_neg (by simp)]
    exact behind_rises s l 0 s.1 hm (by omega)
  have h1 := ahead_rises s _ hr l 0 hm (.inr rfl) 0 (Nat.le_refl _) (Nat.zero_le _)
  rw [← List.append_assoc] at h1
  obtain ⟨g1, g2⟩ := gather_is (partsP l s (0, 0)) [] 0 rfl (Nat.zero_le _) h1
  refine ⟨g1, fun x => ?_⟩
  show memS ((partsP l s (0, 0)).foldl stepG []) x = _
  rw [g2, memS_nil, Bool.false_or]
  unfold partsP
  rw [memS_app, memS_app, mem_ahead, mem_behind, memS_cons, memS_nil, Bool.or_false, inS_no (by simp), Bool.or_false]
  have hi := inS_iff s x
  cases memS l x <;> cases h3 : inS s x
  · simp
  · simp
  · have : ¬ (s.1 ≤ x ∧ x < s.2) := fun h => by rw [hi.2 h] at h3; cases h3
    simp
    omega
  · have := hi.1 h3
    simp
    omega
/-- ends below a bound -/
theorem stepG_lt {q : List Sp} {p : Sp} {N : Nat} (hq : ∀ t ∈ q, t.1 < N ∧ t.2 < N) (hp : p.1 < N ∧ p.2 < N) : ∀ t ∈ stepG q p, t.1 < N ∧ t.2 < N := by
  by_cases h : p.2 ≤ p.1
  · rw [stepG_no h]; exact hq
  · rcases snoc_cases q with rfl | ⟨r, t, rfl⟩
    · rw [stepG_nil (by omega)]
      intro u hu
      simp at hu
      subst hu
      exact hp
    · by_cases ht : t.2 = p.1
      · rw [stepG_last (by omega) ht]
        intro u hu
        simp at hu
        rcases hu with hu | rfl
        · exact hq u (by simp [hu])
        · exact ⟨(hq t (by simp)).1, hp.2⟩
      · rw [stepG_new (by omega) ht]
        intro u hu
        rw [List.mem_append] at hu
        rcases hu with hu | hu
        · exact hq u hu
        · simp at hu
          subst hu
          exact hp

end Go.Proofs.Ythjcnijageiaiaa
