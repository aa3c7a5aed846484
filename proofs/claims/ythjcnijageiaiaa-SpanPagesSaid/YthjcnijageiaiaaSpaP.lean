/- Spans, plain: sets of places, told by their ends; one list for each set. Of no program. -/
import Derived.Test.YthjcnijageiaiaaWordsK
namespace Go.Proofs.Ythjcnijageiaiaa
open Go.RowKit Go.Shelf
set_option linter.unusedVariables false
set_option maxRecDepth 100000
set_option linter.unusedSimpArgs false

/-- a span: from one place on, up to another one -/
abbrev Sp := Nat × Nat
def inS (s : Sp) (x : Nat) : Bool := decide (s.1 ≤ x) && decide (x < s.2)
def memS (l : List Sp) (x : Nat) : Bool := l.any fun s => inS s x
/-- spans that may be, from a place on -/
def mayFS : Nat → List Sp → Bool
  | _, [] => true
  | b, s :: r => decide (b ≤ s.1) && decide (s.1 < s.2) && mayFS (s.2 + 1) r
def mayS (l : List Sp) : Bool := mayFS 0 l
theorem inS_iff (s : Sp) (x : Nat) : inS s x = true ↔ s.1 ≤ x ∧ x < s.2 := by simp [inS]
theorem memS_nil (x : Nat) : memS [] x = false := rfl
theorem memS_cons (s : Sp) (l : List Sp) (x : Nat) : memS (s :: l) x = (inS s x || memS l x) := rfl
theorem memS_app (l m : List Sp) (x : Nat) : memS (l ++ m) x = (memS l x || memS m x) := List.any_append
theorem mayFS_cons {b : Nat} {s : Sp} {r : List Sp} : mayFS b (s :: r) = true ↔ b ≤ s.1 ∧ s.1 < s.2 ∧ mayFS (s.2 + 1) r = true := by
  simp [mayFS, and_assoc]
theorem mayFS_less : ∀ {l : List Sp} {b c : Nat}, c ≤ b → mayFS b l = true → mayFS c l = true
  | [], _, _, _, _ => rfl
  | s :: r, b, c, h, k => by
    rw [mayFS_cons] at k ⊢
    exact ⟨Nat.le_trans h k.1, k.2⟩
theorem memS_low : ∀ {l : List Sp} {b x : Nat}, mayFS b l = true → memS l x = true → b ≤ x
  | [], _, _, _, h => by cases h
  | s :: r, b, x, hm, h => by
    rw [mayFS_cons] at hm
    rw [memS_cons, Bool.or_eq_true, inS_iff] at h
    rcases h with h | h
    · omega
    · have := memS_low hm.2.2 h
      omega
theorem memS_under {l : List Sp} {b x : Nat} (hm : mayFS b l = true) (h : x < b) : memS l x = false := by
  cases e : memS l x
  · rfl
  · have := memS_low hm e
    omega
/-- one list for each set -/
theorem may_ext : ∀ {l m : List Sp} {b : Nat}, mayFS b l = true → mayFS b m = true → (∀ x, memS l x = memS m x) → l = m
  | [], [], _, _, _, _ => rfl
  | [], t :: m, b, _, hm, h => by
    rw [mayFS_cons] at hm
    have h1 := h t.1
    rw [memS_nil, memS_cons, (inS_iff t t.1).2 ⟨Nat.le_refl _, hm.2.1⟩, Bool.true_or] at h1
    cases h1
  | s :: l, [], b, hl, _, h => by
    rw [mayFS_cons] at hl
    have h1 := h s.1
    rw [memS_nil, memS_cons, (inS_iff s s.1).2 ⟨Nat.le_refl _, hl.2.1⟩, Bool.true_or] at h1
    cases h1
  | s :: l, t :: m, b, hl, hm, h => by
    obtain ⟨s1, s2⟩ := s
    obtain ⟨t1, t2⟩ := t
    rw [mayFS_cons] at hl hm
    obtain ⟨a1, a2, a3⟩ := hl
    obtain ⟨b1, b2, b3⟩ := hm
    dsimp only at *
    have first : ∀ {p q : Sp} {l m : List Sp}, p.1 < p.2 → q.1 < q.2 → mayFS (q.2 + 1) m = true → (∀ x, memS (p :: l) x = memS (q :: m) x) → q.1 ≤ p.1 := by
      intro p q l m hp hq hm h
      have h1 := h p.1
      rw [memS_cons, (inS_iff p p.1).2 ⟨Nat.le_refl _, hp⟩, Bool.true_or] at h1
      have h2 := h1.symm
      rw [memS_cons, Bool.or_eq_true, inS_iff] at h2
      rcases h2 with h2 | h2
      · exact h2.1
      · have := memS_low hm h2; omega
    have e1 : s1 = t1 := by
      have f1 := first (p := (s1, s2)) (q := (t1, t2)) a2 b2 b3 h
      have f2 := first (p := (t1, t2)) (q := (s1, s2)) b2 a2 a3 fun x => (h x).symm
      dsimp only at f1 f2
      omega
    subst e1
    have last : ∀ {q2 p2 : Nat} {l m : List Sp}, s1 < p2 → mayFS (p2 + 1) l = true → (∀ x, memS ((s1, p2) :: l) x = memS ((s1, q2) :: m) x) → q2 ≤ p2 := by
      intro q2 p2 l m hp hl h
      by_cases hc : q2 ≤ p2
      · exact hc
      · exfalso
        have h1 := h p2
        rw [memS_cons, memS_cons, (inS_iff (s1, q2) p2).2 ⟨Nat.le_of_lt hp, by show p2 < q2; omega⟩, Bool.true_or, memS_under hl (Nat.lt_succ_self _), Bool.or_false] at h1
        have := ((inS_iff (s1, p2) p2).1 h1).2
        exact Nat.lt_irrefl _ this
    have e2 : s2 = t2 := by
      have f1 := last a2 a3 h
      have f2 := last b2 b3 fun x => (h x).symm
      omega
    subst e2
    have e3 : l = m := may_ext a3 b3 fun x => by
      have h1 := h x
      rw [memS_cons, memS_cons] at h1
      cases e : inS (s1, s2) x
      · rwa [e, Bool.false_or, Bool.false_or] at h1
      · have := ((inS_iff (s1, s2) x).1 e).2
        dsimp only at this
        rw [memS_under a3 (by omega), memS_under b3 (by omega)]
    rw [e3]
/-- behind a span's end nothing is -/
theorem mem_end : ∀ {l : List Sp} {b : Nat} {t : Sp}, mayFS b l = true → t ∈ l → memS l t.2 = false ∧ t.1 < t.2 ∧ b ≤ t.1
  | [], _, _, _, h => by cases h
  | s :: r, b, t, hm, h => by
    rw [mayFS_cons] at hm
    rcases List.mem_cons.1 h with rfl | h
    · refine ⟨?_, hm.2.1, hm.1⟩
      rw [memS_cons, memS_under hm.2.2 (Nat.lt_succ_self _), Bool.or_false]
      simp [inS]
    · obtain ⟨h1, h2, h3⟩ := mem_end hm.2.2 h
      refine ⟨?_, h2, by omega⟩
      rw [memS_cons, h1, Bool.or_false]
      cases e : inS s t.2
      · rfl
      · have := ((inS_iff s t.2).1 e).2; omega
/-- how many places -/
def lenS (l : List Sp) : Nat := l.foldr (fun s n => s.2 - s.1 + n) 0
def cnt (f : Nat → Bool) (n : Nat) : Nat := ((List.range n).filter f).length
theorem cnt_succ (f : Nat → Bool) (n : Nat) : cnt f (n + 1) = cnt f n + if f n then 1 else 0 := by
  unfold cnt
  rw [List.range_succ, List.filter_append, List.length_append]
  cases h : f n <;> simp [h]
theorem cnt_or (f g : Nat → Bool) : ∀ (n : Nat), (∀ x, ¬ (f x = true ∧ g x = true)) → cnt (fun x => f x || g x) n = cnt f n + cnt g n
  | 0, _ => rfl
  | n + 1, h => by
    rw [cnt_succ, cnt_succ, cnt_succ, cnt_or f g n h]
    have := h n
    cases e1 : f n <;> cases e2 : g n <;> simp_all <;> omega
theorem cnt_congr {f g : Nat → Bool} (h : ∀ x, f x = g x) (n : Nat) : cnt f n = cnt g n := by
  have : f = g := funext h
  rw [this]
theorem cnt_in (s : Sp) (hs : s.1 ≤ s.2) : ∀ n, cnt (inS s) n = min n s.2 - min n s.1
  | 0 => by simp [cnt]
  | n + 1 => by
    rw [cnt_succ, cnt_in s hs n]
    cases e : inS s n
    · have : ¬ (s.1 ≤ n ∧ n < s.2) := fun h => by rw [(inS_iff s n).2 h] at e; cases e
      rw [if_neg (by decide)]
      omega
    · have := (inS_iff s n).1 e
      rw [if_pos rfl]
      omega
theorem cnt_mem : ∀ {l : List Sp} {b n : Nat}, mayFS b l = true → (∀ s ∈ l, s.2 ≤ n) → cnt (memS l) n = lenS l
  | [], _, n, _, _ => by
    have : ∀ n, cnt (memS []) n = 0 := fun n => by
      induction n with
      | zero => rfl
      | succ n ih => rw [cnt_succ, ih]; rfl
    exact this n
  | s :: r, b, n, hm, hn => by
    rw [mayFS_cons] at hm
    have h1 := hn s (by simp)
    have h2 : cnt (memS (s :: r)) n = cnt (inS s) n + cnt (memS r) n := cnt_or (inS s) (memS r) n fun x hx => by
      have h3 := memS_low hm.2.2 hx.2
      have h4 := ((inS_iff s x).1 hx.1).2
      omega
    rw [h2, cnt_in s (Nat.le_of_lt hm.2.1), cnt_mem hm.2.2 fun t ht => hn t (by simp [ht])]
    show _ = s.2 - s.1 + lenS r
    omega
/-- what Add, what Cut tells -/
def AddOf (l : List Sp) (s : Sp) (r : List Sp) : Prop := mayS r = true ∧ ∀ x, memS r x = (memS l x || inS s x)
def CutOf (l : List Sp) (s : Sp) (r : List Sp) : Prop := mayS r = true ∧ ∀ x, memS r x = (memS l x && !inS s x)
theorem AddOf.one {l r q : List Sp} {s : Sp} (h : AddOf l s r) (k : AddOf l s q) : r = q := may_ext h.1 k.1 fun x => (h.2 x).trans (k.2 x).symm
theorem CutOf.one {l r q : List Sp} {s : Sp} (h : CutOf l s r) (k : CutOf l s q) : r = q := may_ext h.1 k.1 fun x => (h.2 x).trans (k.2 x).symm
/-- Add, then Cut, is Cut alone -/
theorem add_cut {l a c d : List Sp} {s : Sp} (ha : AddOf l s a) (hc : CutOf l s c) (hd : CutOf a s d) : c = d :=
  may_ext hc.1 hd.1 fun x => by
    rw [hc.2, hd.2, ha.2]
    cases memS l x <;> cases inS s x <;> rfl
theorem add_len {l a c : List Sp} {s : Sp} (hs : s.1 ≤ s.2) (ha : AddOf l s a) (hc : CutOf l s c) : lenS a = lenS c + (s.2 - s.1) := by
  obtain ⟨n, h1, h2, h3⟩ : ∃ n, (∀ t ∈ a, t.2 ≤ n) ∧ (∀ t ∈ c, t.2 ≤ n) ∧ s.2 ≤ n := by
    have up : ∀ l : List Sp, ∃ n, ∀ t ∈ l, t.2 ≤ n := fun l => by
      induction l with
      | nil => exact ⟨0, fun t h => by cases h⟩
      | cons x l ih =>
        obtain ⟨n, hn⟩ := ih
        refine ⟨max n x.2, fun t ht => ?_⟩
        rcases List.mem_cons.1 ht with rfl | ht
        · exact Nat.le_max_right _ _
        · exact Nat.le_trans (hn t ht) (Nat.le_max_left _ _)
    obtain ⟨n1, k1⟩ := up a
    obtain ⟨n2, k2⟩ := up c
    exact ⟨max (max n1 n2) s.2, fun t ht => by have := k1 t ht; omega, fun t ht => by have := k2 t ht; omega, Nat.le_max_right _ _⟩
  rw [← cnt_mem ha.1 h1, ← cnt_mem hc.1 h2]
  have e : cnt (memS a) n = cnt (fun x => memS c x || inS s x) n := cnt_congr (fun x => by
    rw [ha.2, hc.2]
    cases memS l x <;> cases inS s x <;> rfl) n
  rw [e, cnt_or _ _ n fun x hx => by
    have h := hx.1
    rw [hc.2, hx.2] at h
    simp at h]
  rw [cnt_in s hs]
  omega
/-- are all places of a span there? -/
def holdsS (l : List Sp) (s : Sp) : Bool := decide (s.1 ≤ s.2) && ((l.any fun t => decide (t.1 ≤ s.1) && decide (s.2 ≤ t.2)) || s.1 == s.2)
theorem memS_iff (l : List Sp) (x : Nat) : memS l x = true ↔ ∃ t ∈ l, t.1 ≤ x ∧ x < t.2 := by
  unfold memS
  rw [List.any_eq_true]
  constructor
  · rintro ⟨t, h1, h2⟩
    exact ⟨t, h1, (inS_iff t x).1 h2⟩
  · rintro ⟨t, h1, h2⟩
    exact ⟨t, h1, (inS_iff t x).2 h2⟩
/-- they are just if each of its places is there -/
theorem holds_iff {l : List Sp} {s : Sp} (hm : mayS l = true) (hs : s.1 ≤ s.2) : holdsS l s = true ↔ ∀ x, inS s x = true → memS l x = true := by
  unfold holdsS
  rw [decide_eq_true hs, Bool.true_and, Bool.or_eq_true, List.any_eq_true, beq_iff_eq]
  constructor
  · rintro (⟨t, ht, hh⟩ | h) x hx
    · simp only [Bool.and_eq_true, decide_eq_true_eq] at hh
      have := (inS_iff s x).1 hx
      exact (memS_iff l x).2 ⟨t, ht, by omega, by omega⟩
    · have := (inS_iff s x).1 hx
      omega
  · intro h
    by_cases he : s.1 = s.2
    · exact .inr he
    · left
      obtain ⟨t, ht, h1, h2⟩ := (memS_iff l s.1).1 (h s.1 ((inS_iff s s.1).2 ⟨Nat.le_refl _, by omega⟩))
      refine ⟨t, ht, ?_⟩
      simp only [Bool.and_eq_true, decide_eq_true_eq]
      refine ⟨h1, ?_⟩
      by_cases hc : s.2 ≤ t.2
      · exact hc
      · exfalso
        have h3 := (mem_end hm ht).1
        have h4 := h t.2 ((inS_iff s t.2).2 ⟨by omega, by omega⟩)
        rw [h3] at h4
        cases h4

end Go.Proofs.Ythjcnijageiaiaa
