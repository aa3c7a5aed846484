/- Plain: places put in order; the spans between them. Of no program. -/
import Derived.Test.YthjcnijageiaiaaSpaP
namespace Go.Proofs.Ythjcnijageiaiaa
open Go.RowKit Go.Shelf
set_option linter.unusedVariables false
set_option maxRecDepth 100000
set_option linter.unusedSimpArgs false

theorem snoc_ind {α : Type} {P : List α → Prop} (h0 : P []) (h1 : ∀ l x, P l → P (l ++ [x])) (l : List α) : P l := by
  rw [← List.reverse_reverse l]
  induction l.reverse with
  | nil => exact h0
  | cons x m ih =>
    rw [List.reverse_cons]
    exact h1 _ _ ih
/-- where the spans end, and one more -/
def endS : Nat → List Sp → Nat
  | b, [] => b
  | _, s :: r => endS (s.2 + 1) r
theorem endS_snoc : ∀ (l : List Sp) (b : Nat) (s : Sp), endS b (l ++ [s]) = s.2 + 1
  | [], _, _ => rfl
  | t :: l, b, s => endS_snoc l (t.2 + 1) s
theorem mayFS_snoc : ∀ (l : List Sp) (b : Nat) (s : Sp), mayFS b (l ++ [s]) = (mayFS b l && (decide (endS b l ≤ s.1) && decide (s.1 < s.2)))
  | [], b, s => by
    show (decide (b ≤ s.1) && decide (s.1 < s.2) && true) = (true && (decide (b ≤ s.1) && decide (s.1 < s.2)))
    rw [Bool.and_true, Bool.true_and]
  | t :: l, b, s => by
    simp only [List.cons_append, mayFS, mayFS_snoc l (t.2 + 1) s, endS, Bool.and_assoc]
    try rfl
theorem mayFS_take : ∀ (l : List Sp) (b k : Nat), mayFS b l = true → mayFS b (l.take k) = true
  | [], b, k, h => by simpa using h
  | s :: l, b, 0, h => rfl
  | s :: l, b, k + 1, h => by
    rw [mayFS_cons] at h
    rw [List.take_succ_cons, mayFS_cons]
    exact ⟨h.1, h.2.1, mayFS_take l _ k h.2.2⟩
def aheadS (l : List Sp) (k : Nat) : Nat := endS 0 (l.take k)
theorem aheadS_succ {l : List Sp} {k : Nat} (h : k < l.length) : aheadS l (k + 1) = l[k].2 + 1 := by
  unfold aheadS
  rw [List.take_succ_eq_append_getElem h, endS_snoc]
theorem mayS_take {l : List Sp} {k : Nat} (h : k < l.length) : mayS (l.take (k + 1)) = (mayS (l.take k) && (decide (aheadS l k ≤ l[k].1) && decide (l[k].1 < l[k].2))) := by
  unfold mayS
  rw [List.take_succ_eq_append_getElem h, mayFS_snoc]
  rfl
theorem mayS_no {l : List Sp} {k : Nat} (h : k < l.length) (hf : ¬ (aheadS l k ≤ l[k].1 ∧ l[k].1 < l[k].2)) : mayS l = false := by
  cases hm : mayS l
  · rfl
  · have h1 := mayFS_take l 0 (k + 1) hm
    rw [show mayFS 0 (l.take (k + 1)) = mayS (l.take (k + 1)) from rfl, mayS_take h] at h1
    simp at h1
    exact absurd h1.2 hf
/-- put, place by place -/
def stepZ (n : Nat) (p : List Nat × Bool) (x : Nat) : List Nat × Bool := ((if !p.2 && decide (n ≤ x) then p.1 ++ [n] else p.1) ++ (if x = n then [] else [x]), p.2 || decide (n ≤ x))
def foldZ (l : List Nat) (n : Nat) : List Nat × Bool := l.foldl (stepZ n) ([], false)
def putZ (l : List Nat) (n : Nat) : List Nat := if (foldZ l n).2 then (foldZ l n).1 else (foldZ l n).1 ++ [n]
theorem foldZ_snoc (l : List Nat) (n x : Nat) : foldZ (l ++ [x]) n = stepZ n (foldZ l n) x := by
  unfold foldZ
  rw [List.foldl_append]
  rfl
theorem foldZ_take {l : List Nat} {n k : Nat} (h : k < l.length) : foldZ (l.take (k + 1)) n = stepZ n (foldZ (l.take k) n) l[k] := by
  rw [List.take_succ_eq_append_getElem h, foldZ_snoc]
theorem foldZ_len' (n : Nat) (l : List Nat) : (foldZ l n).1.length + (if (foldZ l n).2 then 0 else 1) ≤ l.length + 1 := by
  have : ∀ (l : List Nat) (p : List Nat × Bool), (l.foldl (stepZ n) p).1.length + (if (l.foldl (stepZ n) p).2 then 0 else 1) ≤ p.1.length + (if p.2 then 0 else 1) + l.length := fun l => by
    induction l with
    | nil => intro p; exact Nat.le_refl _
    | cons x l ih =>
      intro p
      have h1 := ih (stepZ n p x)
      have h2 : (stepZ n p x).1.length + (if (stepZ n p x).2 then 0 else 1) ≤ p.1.length + (if p.2 then 0 else 1) + 1 := by
        obtain ⟨o, b⟩ := p
        unfold stepZ
        dsimp only
        cases b <;> by_cases e1 : n ≤ x <;> by_cases e2 : x = n <;> simp [e1, e2] <;> omega
      rw [List.foldl_cons, List.length_cons]
      omega
  have := this l ([], false)
  simp only [List.length_nil] at this
  have h3 : (if (([], false) : List Nat × Bool).2 = true then 0 else 1) = 1 := rfl
  rw [h3] at this
  unfold foldZ
  omega
theorem foldZ_len (n : Nat) (l : List Nat) : (foldZ l n).1.length ≤ l.length + 1 := by have := foldZ_len' n l; omega
theorem putZ_len (n : Nat) (l : List Nat) : (putZ l n).length ≤ l.length + 1 := by
  have := foldZ_len' n l
  unfold putZ
  split
  · omega
  · rename_i h
    rw [if_neg h] at this
    simp
    omega
/-- rising -/
abbrev Ris (l : List Nat) : Prop := l.Pairwise (· < ·)
theorem foldZ_is (n : Nat) : ∀ (l : List Nat), Ris l → Ris (foldZ l n).1 ∧ ((foldZ l n).2 = true ↔ ∃ x ∈ l, n ≤ x) ∧ ∀ x, x ∈ (foldZ l n).1 ↔ (x ∈ l ∧ x ≠ n) ∨ (x = n ∧ (foldZ l n).2 = true) := by
  refine snoc_ind ?_ ?_
  · intro _
    simp [foldZ]
  · intro l y ih h
    rw [Ris, List.pairwise_append] at h
    obtain ⟨h1, -, h3⟩ := h
    obtain ⟨i1, i2, i3⟩ := ih h1
    have hy : ∀ x ∈ l, x < y := fun x hx => h3 x hx y (by simp)
    rw [foldZ_snoc]
    generalize foldZ l n = p at *
    obtain ⟨o, b⟩ := p
    dsimp only at i1 i2 i3
    unfold stepZ
    dsimp only
    have hlow : ∀ x ∈ o, x < y ∨ (x = n ∧ b = true) := fun x hx => by
      rcases (i3 x).1 hx with h | h
      · exact .inl (hy x h.1)
      · exact .inr h
    cases b
    · have hno : ∀ x ∈ l, x < n := fun x hx => by
        by_cases hc : n ≤ x
        · exact absurd (i2.2 ⟨x, hx, hc⟩) (by simp)
        · omega
      have ho : ∀ x, x ∈ o ↔ x ∈ l := fun x => by
        rw [i3]
        constructor
        · rintro (h | h)
          · exact h.1
          · exact absurd h.2 (by simp)
        · intro h
          have := hno x h
          exact .inl ⟨h, by omega⟩
      by_cases e1 : n ≤ y
      · by_cases e2 : y = n
        · subst e2
          simp only [Bool.not_false, Bool.true_and, decide_true, if_true, Nat.le_refl, List.append_nil, Bool.false_or]
          refine ⟨?_, ⟨fun _ => ⟨y, by simp, Nat.le_refl _⟩, fun _ => trivial⟩, fun x => ?_⟩
          · rw [Ris, List.pairwise_append]
            exact ⟨i1, by simp, fun x hx z hz => by simp at hz; subst hz; exact hno x ((ho x).1 hx)⟩
          · simp only [List.mem_append, List.mem_singleton, ho]
            constructor
            · rintro (h | h)
              · have := hno x h
                exact .inl ⟨.inl h, by omega⟩
              · exact .inr ⟨h, trivial⟩
            · rintro (⟨h | h, k⟩ | h)
              · exact .inl h
              · exact absurd h k
              · exact .inr h.1
        · simp only [Bool.not_false, Bool.true_and, decide_eq_true e1, if_true, if_neg e2, Bool.false_or]
          refine ⟨?_, ⟨fun _ => ⟨y, by simp, e1⟩, fun _ => trivial⟩, fun x => ?_⟩
          · rw [Ris, List.pairwise_append, List.pairwise_append]
            refine ⟨⟨i1, by simp, fun x hx z hz => by simp at hz; subst hz; exact hno x ((ho x).1 hx)⟩, by simp, fun x hx z hz => ?_⟩
            simp at hz hx
            subst hz
            rcases hx with hx | rfl
            · exact hy x ((ho x).1 hx)
            · omega
          · simp only [List.mem_append, List.mem_singleton, ho]
            constructor
            · rintro ((h | h) | h)
              · have := hno x h
                exact .inl ⟨.inl h, by omega⟩
              · exact .inr ⟨h, trivial⟩
              · exact .inl ⟨.inr h, by omega⟩
            · rintro (⟨h | h, k⟩ | h)
              · exact .inl (.inl h)
              · exact .inr h
              · exact .inl (.inr h.1)
      · have e2 : ¬ y = n := by omega
        simp only [Bool.not_false, Bool.true_and, decide_eq_false e1, if_neg e2, Bool.false_or, Bool.false_eq_true, if_false]
        refine ⟨?_, ⟨fun h => absurd h (by simp), fun ⟨x, hx, hn⟩ => ?_⟩, fun x => ?_⟩
        · rw [Ris, List.pairwise_append]
          exact ⟨i1, by simp, fun x hx z hz => by simp at hz; subst hz; exact hy x ((ho x).1 hx)⟩
        · simp at hx
          rcases hx with hx | rfl
          · have := hno x hx; omega
          · omega
        · simp only [List.mem_append, List.mem_singleton, ho]
          constructor
          · rintro (h | h)
            · have := hno x h
              exact .inl ⟨.inl h, by omega⟩
            · exact .inl ⟨.inr h, by omega⟩
          · rintro (⟨h | h, k⟩ | h)
            · exact .inl h
            · exact .inr h
            · exact absurd h.2 (by simp)
    · obtain ⟨z, hz, hzn⟩ := i2.1 rfl
      have hzy := hy z hz
      have e2 : ¬ y = n := by omega
      simp only [Bool.not_true, Bool.false_and, Bool.false_eq_true, if_false, if_neg e2, Bool.true_or]
      refine ⟨?_, ⟨fun _ => ⟨z, by simp [hz], hzn⟩, fun _ => trivial⟩, fun x => ?_⟩
      · rw [Ris, List.pairwise_append]
        refine ⟨i1, by simp, fun x hx u hu => ?_⟩
        simp at hu
        subst hu
        rcases hlow x hx with h | h
        · exact h
        · omega
      · simp only [List.mem_append, List.mem_singleton, i3]
        constructor
        · rintro ((h | h) | h)
          · exact .inl ⟨.inl h.1, h.2⟩
          · exact .inr ⟨h.1, trivial⟩
          · exact .inl ⟨.inr h, by omega⟩
        · rintro (⟨h | h, k⟩ | h)
          · exact .inl (.inl ⟨h, k⟩)
          · exact .inr h
          · exact .inl (.inr ⟨h.1, trivial⟩)
theorem putZ_is (n : Nat) {l : List Nat} (h : Ris l) : Ris (putZ l n) ∧ ∀ x, x ∈ putZ l n ↔ x ∈ l ∨ x = n := by
  obtain ⟨i1, i2, i3⟩ := foldZ_is n l h
  unfold putZ
  cases hb : (foldZ l n).2
  · rw [if_neg (by simp)]
    rw [hb] at i2 i3
    have hno : ∀ x ∈ l, x < n := fun x hx => by
      by_cases hc : n ≤ x
      · exact absurd (i2.2 ⟨x, hx, hc⟩) (by simp)
      · omega
    have ho : ∀ x, x ∈ (foldZ l n).1 ↔ x ∈ l := fun x => by
      rw [i3]
      constructor
      · rintro (h | h)
        · exact h.1
        · exact absurd h.2 (by simp)
      · intro h
        have := hno x h
        exact .inl ⟨h, by omega⟩
    refine ⟨?_, fun x => ?_⟩
    · rw [Ris, List.pairwise_append]
      exact ⟨i1, by simp, fun x hx z hz => by simp at hz; subst hz; exact hno x ((ho x).1 hx)⟩
    · simp [ho]
  · rw [if_pos rfl]
    rw [hb] at i3
    refine ⟨i1, fun x => ?_⟩
    rw [i3]
    constructor
    · rintro (h | h)
      · exact .inl h.1
      · exact .inr h.1
    · rintro (h | h)
      · by_cases hc : x = n
        · exact .inr ⟨hc, rfl⟩
        · exact .inl ⟨h, hc⟩
      · exact .inr ⟨h, rfl⟩
/-- all ends -/
def endsF (o : List Nat) (l : List Sp) : List Nat := l.foldl (fun o t => putZ (putZ o t.1) t.2) o
def endsZ (l : List Sp) (s : Sp) : List Nat := endsF [] (s :: l)
theorem endsF_snoc (o : List Nat) (l : List Sp) (t : Sp) : endsF o (l ++ [t]) = putZ (putZ (endsF o l) t.1) t.2 := by
  unfold endsF
  rw [List.foldl_append]
  rfl
theorem endsF_take {l : List Sp} {k : Nat} (h : k < l.length) : endsF [] (l.take (k + 1)) = putZ (putZ (endsF [] (l.take k)) l[k].1) l[k].2 := by
  rw [List.take_succ_eq_append_getElem h, endsF_snoc]
theorem endsF_len (l : List Sp) : (endsF [] l).length ≤ 2 * l.length := by
  refine snoc_ind (P := fun l => (endsF [] l).length ≤ 2 * l.length) ?_ ?_ l
  · simp [endsF]
  · intro l t ih
    rw [endsF_snoc, List.length_append]
    have h1 := putZ_len t.2 (putZ (endsF [] l) t.1)
    have h2 := putZ_len t.1 (endsF [] l)
    simp
    omega
theorem endsF_is (l : List Sp) : Ris (endsF [] l) ∧ ∀ x, x ∈ endsF [] l ↔ ∃ t ∈ l, x = t.1 ∨ x = t.2 := by
  refine snoc_ind (P := fun l => Ris (endsF [] l) ∧ ∀ x, x ∈ endsF [] l ↔ ∃ t ∈ l, x = t.1 ∨ x = t.2) ?_ ?_ l
  · exact ⟨List.Pairwise.nil, by simp [endsF]⟩
  · intro l t ih
    obtain ⟨h1, h2⟩ := ih
    obtain ⟨a1, a2⟩ := putZ_is t.1 h1
    obtain ⟨b1, b2⟩ := putZ_is t.2 a1
    rw [endsF_snoc]
    refine ⟨b1, fun x => ?_⟩
    rw [b2, a2, h2]
    simp only [List.mem_append, List.mem_singleton]
    constructor
    · rintro ((⟨u, hu, h⟩ | h) | h)
      · exact ⟨u, .inl hu, h⟩
      · exact ⟨t, .inr rfl, .inl h⟩
      · exact ⟨t, .inr rfl, .inr h⟩
    · rintro ⟨u, hu | rfl, h⟩
      · exact .inl (.inl ⟨u, hu, h⟩)
      · rcases h with h | h
        · exact .inl (.inr h)
        · exact .inr h
/-- the places that are kept -/
def keepZ (l : List Sp) (s : Sp) (b : Bool) (x : Nat) : Bool := if b then memS l x || inS s x else memS l x && !inS s x
theorem ris_get {e : List Nat} (h : Ris e) {i j : Nat} (hj : j < e.length) (hij : i < j) : e[i] < e[j] := List.pairwise_iff_getElem.1 h i j (by omega) hj hij
/-- no end stands between two neighbours -/
theorem ris_gap {e : List Nat} (h : Ris e) {k : Nat} (hk : k + 1 < e.length) {y : Nat} (hy : y ∈ e) (h1 : e[k] < y) : e[k + 1] ≤ y := by
  obtain ⟨j, hj, rfl⟩ := List.getElem_of_mem hy
  by_cases hc : j ≤ k
  · have : e[j] ≤ e[k] := by
      rcases Nat.lt_or_ge j k with h2 | h2
      · exact Nat.le_of_lt (ris_get h (by omega) h2)
      · have : j = k := by omega
        subst this
        exact Nat.le_refl _
    omega
  · rcases Nat.lt_or_ge (k + 1) j with h2 | h2
    · exact Nat.le_of_lt (ris_get h hj h2)
    · have : j = k + 1 := by omega
      subst this
      exact Nat.le_refl _
theorem inS_seg {e : List Nat} (h : Ris e) {k : Nat} (hk : k + 1 < e.length) {t : Sp} (h1 : t.1 ∈ e) (h2 : t.2 ∈ e) {x : Nat} (hx : e[k] ≤ x) (hx2 : x < e[k + 1]) : inS t x = inS t e[k] := by
  rw [Bool.eq_iff_iff, inS_iff, inS_iff]
  constructor
  · rintro ⟨a, b⟩
    refine ⟨?_, by omega⟩
    by_cases hc : e[k] < t.1
    · have := ris_gap h hk h1 hc; omega
    · omega
  · rintro ⟨a, b⟩
    have := ris_gap h hk h2 b
    omega
theorem keep_seg {l : List Sp} {s : Sp} {b : Bool} {k : Nat} (hk : k + 1 < (endsZ l s).length) {x : Nat} (hx : (endsZ l s)[k] ≤ x) (hx2 : x < (endsZ l s)[k + 1]) : keepZ l s b x = keepZ l s b (endsZ l s)[k] := by
  obtain ⟨h1, h2⟩ := endsF_is (s :: l)
  have hs : inS s x = inS s (endsZ l s)[k] := inS_seg h1 hk ((h2 _).2 ⟨s, by simp, .inl rfl⟩) ((h2 _).2 ⟨s, by simp, .inr rfl⟩) hx hx2
  have hl : memS l x = memS l (endsZ l s)[k] := by
    rw [Bool.eq_iff_iff, memS_iff, memS_iff]
    have ht : ∀ t ∈ l, inS t x = inS t (endsZ l s)[k] := fun t ht => inS_seg h1 hk ((h2 _).2 ⟨t, by simp [ht], .inl rfl⟩) ((h2 _).2 ⟨t, by simp [ht], .inr rfl⟩) hx hx2
    constructor
    · rintro ⟨t, hm, h⟩
      exact ⟨t, hm, (inS_iff _ _).1 (by rw [← ht t hm]; exact (inS_iff _ _).2 h)⟩
    · rintro ⟨t, hm, h⟩
      exact ⟨t, hm, (inS_iff _ _).1 (by rw [ht t hm]; exact (inS_iff _ _).2 h)⟩
  unfold keepZ
  rw [hs, hl]
theorem keep_out {l : List Sp} {s : Sp} {b : Bool} {x : Nat} (h : keepZ l s b x = true) : (∃ y ∈ endsZ l s, y ≤ x) ∧ ∃ y ∈ endsZ l s, x < y := by
  obtain ⟨h1, h2⟩ := endsF_is (s :: l)
  have : ∃ t ∈ s :: l, inS t x = true := by
    unfold keepZ at h
    cases hm : memS l x
    · rw [hm] at h
      cases b
      · simp at h
      · simp at h
        exact ⟨s, by simp, h⟩
    · obtain ⟨t, ht, hh⟩ := (memS_iff l x).1 hm
      exact ⟨t, by simp [ht], (inS_iff _ _).2 hh⟩
  obtain ⟨t, ht, hh⟩ := this
  have hh := (inS_iff _ _).1 hh
  exact ⟨⟨t.1, (h2 _).2 ⟨t, ht, .inl rfl⟩, hh.1⟩, ⟨t.2, (h2 _).2 ⟨t, ht, .inr rfl⟩, hh.2⟩⟩
/-- what is gathered once k neighbours are seen -/
def SetI (keep : Nat → Bool) (e : List Nat) (k : Nat) (o : List Sp) : Prop := ∃ h : k < e.length, mayS o = true ∧ (∀ t ∈ o, t.2 ≤ e[k]) ∧ ∀ x, memS o x = (keep x && decide (x < e[k]))
theorem SetI.start {l : List Sp} {s : Sp} {b : Bool} : SetI (keepZ l s b) (endsZ l s) 0 [] := by
  obtain ⟨h1, h2⟩ := endsF_is (s :: l)
  have hm : s.1 ∈ endsZ l s := (h2 _).2 ⟨s, by simp, .inl rfl⟩
  refine ⟨List.length_pos_of_mem hm, rfl, (fun t ht => by cases ht), fun x => ?_⟩
  rw [memS_nil]
  cases hk : keepZ l s b x
  · rfl
  · obtain ⟨⟨y, hy, hyx⟩, -⟩ := keep_out hk
    obtain ⟨j, hj, rfl⟩ := List.getElem_of_mem hy
    have : (endsZ l s)[0]'(List.length_pos_of_mem hm) ≤ (endsZ l s)[j] := by
      rcases Nat.eq_zero_or_pos j with h0 | h0
      · subst h0; exact Nat.le_refl _
      · exact Nat.le_of_lt (ris_get h1 hj h0)
    rw [Bool.true_and, eq_comm, decide_eq_false_iff_not]
    omega
theorem SetI.done {l : List Sp} {s : Sp} {b : Bool} {k : Nat} {o : List Sp} (h : SetI (keepZ l s b) (endsZ l s) k o) (hk : ¬ k + 1 < (endsZ l s).length) : mayS o = true ∧ ∀ x, memS o x = keepZ l s b x := by
  obtain ⟨h1, -⟩ := endsF_is (s :: l)
  obtain ⟨hlt, a1, -, a3⟩ := h
  refine ⟨a1, fun x => ?_⟩
  rw [a3]
  cases hq : keepZ l s b x
  · rfl
  · obtain ⟨-, ⟨y, hy, hxy⟩⟩ := keep_out hq
    obtain ⟨j, hj, rfl⟩ := List.getElem_of_mem hy
    have : (endsZ l s)[j] ≤ (endsZ l s)[k] := by
      rcases Nat.lt_or_ge j k with h2 | h2
      · exact Nat.le_of_lt (ris_get h1 hlt h2)
      · have : j = k := by omega
        subst this
        exact Nat.le_refl _
    rw [Bool.true_and, decide_eq_true_eq]
    omega
section
variable {l : List Sp} {s : Sp} {b : Bool} {k : Nat} {o : List Sp}
theorem SetI.rise (h : SetI (keepZ l s b) (endsZ l s) k o) (hk : k + 1 < (endsZ l s).length) : (endsZ l s)[k] < (endsZ l s)[k + 1] := ris_get (endsF_is (s :: l)).1 hk (Nat.lt_succ_self _)
theorem keep_next (hk : k + 1 < (endsZ l s).length) (x : Nat) (hlt : (endsZ l s)[k] < (endsZ l s)[k + 1]) : (keepZ l s b x && decide (x < (endsZ l s)[k + 1])) = ((keepZ l s b x && decide (x < (endsZ l s)[k])) || (keepZ l s b (endsZ l s)[k] && inS ((endsZ l s)[k], (endsZ l s)[k + 1]) x)) := by
  have hseg := keep_seg (l := l) (s := s) (b := b) hk (x := x)
  rw [Bool.eq_iff_iff]
  simp only [Bool.and_eq_true, Bool.or_eq_true, decide_eq_true_eq, inS_iff]
  constructor
  · rintro ⟨h1, h2⟩
    by_cases hc : x < (endsZ l s)[k]
    · exact .inl ⟨h1, hc⟩
    · have := hseg (by omega) h2
      exact .inr ⟨by rw [← this]; exact h1, by omega, h2⟩
  · rintro (⟨h1, h2⟩ | ⟨h1, h2, h3⟩)
    · exact ⟨h1, by omega⟩
    · have := hseg h2 h3
      exact ⟨by rw [this]; exact h1, h3⟩
theorem SetI.skip (h : SetI (keepZ l s b) (endsZ l s) k o) (hk : k + 1 < (endsZ l s).length) (hf : keepZ l s b (endsZ l s)[k] = false) : SetI (keepZ l s b) (endsZ l s) (k + 1) o := by
  have hr := h.rise hk
  obtain ⟨hlt, a1, a2, a3⟩ := h
  refine ⟨hk, a1, fun t ht => ?_, fun x => ?_⟩
  · have := a2 t ht; omega
  · rw [a3, keep_next hk x hr, hf, Bool.false_and, Bool.or_false]
theorem mayFS_app (q : List Sp) (t : Sp) (c : Nat) : mayFS c (q ++ [t]) = true ↔ mayFS c q = true ∧ endS c q ≤ t.1 ∧ t.1 < t.2 := by
  rw [mayFS_snoc]
  simp
theorem SetI.app (h : SetI (keepZ l s b) (endsZ l s) k o) (hk : k + 1 < (endsZ l s).length) (hf : keepZ l s b (endsZ l s)[k] = true) (hl : ∀ q t, o = q ++ [t] → t.2 ≠ (endsZ l s)[k]) : SetI (keepZ l s b) (endsZ l s) (k + 1) (o ++ [((endsZ l s)[k], (endsZ l s)[k + 1])]) := by
  have hr := h.rise hk
  obtain ⟨hlt, a1, a2, a3⟩ := h
  refine ⟨hk, ?_, fun t ht => ?_, fun x => ?_⟩
  · refine (mayFS_app o _ 0).2 ⟨a1, ?_, hr⟩
    rcases List.eq_nil_or_concat o with rfl | ⟨q, t, rfl⟩
    · exact Nat.zero_le _
    · rw [List.concat_eq_append] at *
      have h1 := a2 t (by simp)
      have h2 := hl q t rfl
      have : endS 0 (q ++ [t]) = t.2 + 1 := endS_snoc q 0 t
      rw [this]
      dsimp only
      omega
  · simp at ht
    rcases ht with ht | rfl
    · have := a2 t ht; omega
    · exact Nat.le_refl _
  · rw [memS_app, a3, keep_next hk x hr, hf, Bool.true_and, memS_cons, memS_nil, Bool.or_false]
theorem SetI.merge {q : List Sp} {x y : Nat} (h : SetI (keepZ l s b) (endsZ l s) k (q ++ [(x, y)])) (hk : k + 1 < (endsZ l s).length) (hf : keepZ l s b (endsZ l s)[k] = true) (hy : y = (endsZ l s)[k]) : SetI (keepZ l s b) (endsZ l s) (k + 1) (q ++ [(x, (endsZ l s)[k + 1])]) := by
  have hr := h.rise hk
  obtain ⟨hlt, a1, a2, a3⟩ := h
  obtain ⟨b1, b2, b3⟩ := (mayFS_app q (x, y) 0).1 a1
  dsimp only at b2 b3
  refine ⟨hk, (mayFS_app q _ 0).2 ⟨b1, b2, by dsimp only; omega⟩, fun t ht => ?_, fun z => ?_⟩
  · simp at ht
    rcases ht with ht | rfl
    · have := a2 t (by simp [ht]); omega
    · exact Nat.le_refl _
  · have h1 := a3 z
    rw [memS_app, memS_cons, memS_nil, Bool.or_false] at h1
    rw [keep_next hk z hr, hf, Bool.true_and, ← h1, memS_app, memS_cons, memS_nil, Bool.or_false, Bool.or_assoc]
    congr 1
    rw [Bool.eq_iff_iff]
    simp only [Bool.or_eq_true, inS_iff]
    omega
end

end Go.Proofs.Ythjcnijageiaiaa
