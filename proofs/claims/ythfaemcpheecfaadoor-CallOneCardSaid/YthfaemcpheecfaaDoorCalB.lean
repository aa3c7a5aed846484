/- What is put is got, and what is got is put. Plain. -/
import Derived.Test.YthfaemcpheecfaaDoorCal7
import Derived.Test.YthfaemcpheecfaaDoorCalM
namespace Go.Proofs.YthfaemcpheecfaaDoor
open Go.RowKit Go.Shelf
set_option linter.unusedVariables false
set_option maxRecDepth 100000
set_option linter.unusedSimpArgs false

theorem callR_only (c : CallX) (hk : kindX c.kind = true) : restC c.kind (headC calZero (headD c)) (restD (kRow c.kind) c) = onlyX c := by
  obtain ⟨c1, c2, c3, k, c5, c6, c7, c8, c9, c10, c11, c12, c13⟩ := c
  rcases kind_cases k hk with rfl | rfl | rfl | rfl | rfl | rfl | rfl | rfl | rfl | rfl | rfl | rfl
  all_goals rfl
theorem may_only {c : CallX} (h : mayX c = true) : onlyX c = c := by
  rw [may_is] at h
  simp only [Bool.and_eq_true] at h
  exact (sameX_iff _ _).1 h.1.1.1.1.2
theorem headOk {c : CallX} (h : calOk c) : fdsOk 4096 headS (headD c) := by
  obtain ⟨h1, h2, h3, h4, -⟩ := h
  exact ⟨⟨by show c.client < 4294967296; omega, rfl⟩, ⟨h2, rfl⟩, ⟨h3, rfl⟩, ⟨by show c.kind < 4294967296; omega, rfl⟩, trivial⟩
theorem restOk {c : CallX} (h : calOk c) (hf : calFit c) (k : Nat) : fdsOk 4096 (restS (kRow k)) (restD (kRow k) c) := by
  obtain ⟨h1, h2, h3, h4, h5, h6, h7, h8, h9, h10⟩ := h
  obtain ⟨f1, f2, f3⟩ := hf
  have g1 := L_size c.name
  have g2 := L_size c.toname
  rcases kRow_six k with e | e | e | e | e | e
  all_goals
    rw [e]
    simp [kNone, restS, restD, fdsOk, fdOk]
    omega
theorem restC_four (k : Nat) (c : CallX) (xs : List Fd) : (restC k c xs).client = c.client ∧ (restC k c xs).inc = c.inc ∧ (restC k c xs).seq = c.seq ∧ (restC k c xs).kind = c.kind := by
  unfold restC
  split
  · split <;> simp
  · split
    · split <;> simp
    · split
      · split <;> simp
      · split
        · split <;> simp
        · split
          · split <;> simp
          · split <;> simp
theorem restC_client (k : Nat) (c : CallX) (xs : List Fd) : (restC k c xs).client = c.client := (restC_four k c xs).1
theorem restC_inc (k : Nat) (c : CallX) (xs : List Fd) : (restC k c xs).inc = c.inc := (restC_four k c xs).2.1
theorem restC_seq (k : Nat) (c : CallX) (xs : List Fd) : (restC k c xs).seq = c.seq := (restC_four k c xs).2.2.1
theorem restC_kind (k : Nat) (c : CallX) (xs : List Fd) : (restC k c xs).kind = c.kind := (restC_four k c xs).2.2.2
theorem headR_four (l : List UInt8) : (headR l).1 = [⟨(numR ⟨l, 0, 0⟩ 4).1.toNat, []⟩, ⟨(numR (numR ⟨l, 0, 0⟩ 4).2 4).1.toNat, []⟩, ⟨(numR (numR (numR ⟨l, 0, 0⟩ 4).2 4).2 8).1.toNat, []⟩, ⟨(numR (numR (numR (numR ⟨l, 0, 0⟩ 4).2 4).2 8).2 4).1.toNat, []⟩] := rfl
/-- behind the head of a call that is laid -/
theorem head_put {c : CallX} (h : calOk c) (q : List UInt8) : headR (layL headS (headD c) ++ q) = (headD c, ⟨layL headS (headD c) ++ q, (layL headS (headD c)).length, 0⟩) := by
  have := okL 4096 (by decide) headS (headD c) [] q (headOk h)
  simpa [headR] using this
theorem putX_two (c : CallX) : putX c = layL headS (headD c) ++ layL (restS (kRow c.kind)) (restD (kRow c.kind) c) := by
  unfold putX
  exact layL_app _ _ _ _ rfl
theorem kind_put {c : CallX} (h : calOk c) (q : List UInt8) : kindR (layL headS (headD c) ++ q) = c.kind := by
  unfold kindR
  rw [head_put h]
  rfl
theorem rest_put {c : CallX} (h : calOk c) (hf : calFit c) (q : List UInt8) : restR (putX c ++ q) = (restD (kRow c.kind) c, ⟨putX c ++ q, (putX c).length, 0⟩) := by
  rw [putX_two, List.append_assoc]
  unfold restR
  rw [kind_put h, head_put h]
  have := okL 4096 (by decide) (restS (kRow c.kind)) (restD (kRow c.kind) c) (layL headS (headD c)) q (restOk h hf c.kind)
  rw [List.append_assoc] at this
  rw [this, List.length_append]
theorem call_put {c : CallX} (h : calOk c) (hf : calFit c) (hk : kindX c.kind = true) (q : List UInt8) : callR (putX c ++ q) = onlyX c := by
  unfold callR
  rw [rest_put h hf]
  have e : kindR (putX c ++ q) = c.kind := by rw [putX_two, List.append_assoc]; exact kind_put h _
  have e2 : (headR (putX c ++ q)).1 = headD c := by rw [putX_two, List.append_assoc, head_put h]
  rw [e, e2]
  exact callR_only c hk
/-- of a call that may be: how long its bytes are -/
theorem mayX_small {c : CallX} (h : mayX c = true) : (L c.name).length ≤ 32 ∧ (L c.toname).length ≤ 32 ∧ c.data.length ≤ 64 := by
  unfold mayX at h
  simp only [Bool.and_eq_true] at h
  obtain ⟨⟨⟨⟨⟨⟨⟨⟨h0, h1⟩, h2⟩, h3⟩, h4⟩, h5⟩, h6⟩, h7⟩, h8⟩ := h
  refine ⟨?_, ?_, ?_⟩
  · unfold mayNameX at h6
    split at h6
    · have := nameL_len h6; omega
    · rw [List.isEmpty_iff] at h6; rw [h6]; simp
  · unfold mayToX at h7
    split at h7
    · have := nameL_len h7; omega
    · simp only [Bool.and_eq_true] at h7
      rw [List.isEmpty_iff] at h7; rw [h7.2]; simp
  · unfold mayDataX at h8
    split at h8
    · simp only [Bool.and_eq_true, decide_eq_true_eq] at h8; omega
    · rw [beq_iff_eq] at h8; omega
theorem putX_small {c : CallX} (h : mayX c = true) : (putX c).length ≤ 400 := by
  obtain ⟨f1, f2, f3⟩ := mayX_small h
  have h1 := bytesX_le (L c.name)
  have h2 := bytesX_le (L c.toname)
  have h3 := bytesX_le c.data
  rw [putX_two]
  rcases kRow_six c.kind with e | e | e | e | e | e
  all_goals
    rw [e]
    simp [headS, headD, restS, restD, layL, layF, kNone, beL_length]
    try omega
theorem put_get {c : CallX} (h : calOk c) (hm : mayX c = true) (q : List UInt8) (hq : ¬ 4096 < (putX c ++ q).length) : getX (putX c ++ q) = if q = [] then (c, 0) else (calZero, 5) := by
  obtain ⟨hk, hf⟩ := mayX_fit hm
  have e : kindR (putX c ++ q) = c.kind := by rw [putX_two, List.append_assoc]; exact kind_put h _
  have e2 : (headR (putX c ++ q)).2.err = 0 := by rw [putX_two, List.append_assoc, head_put h]
  have e3 := rest_put h hf q
  have e4 := call_put h hf hk q
  rw [may_only hm] at e4
  unfold getX
  rw [if_neg hq, if_neg (by rw [e2]; simp), if_neg (by rw [e, hk]; simp), e3, e4]
  dsimp only
  rw [if_neg (by simp), hm]
  by_cases h0 : q = []
  · subst h0
    rw [if_neg (by simp), if_pos rfl]
  · have := List.length_pos_iff.2 h0
    rw [if_pos (.inl (by rw [List.length_append]; omega)), if_neg h0]
theorem put_cut {c : CallX} (h : calOk c) (hm : mayX c = true) (n : Nat) (hn : n < (putX c).length) : getX ((putX c).take n) = (calZero, 4) := by
  obtain ⟨hk, hf⟩ := mayX_fit hm
  have hs := putX_small hm
  unfold getX
  rw [if_neg (by rw [List.length_take]; omega)]
  rw [putX_two] at hn ⊢
  by_cases h1 : n < (layL headS (headD c)).length
  · have e : (layL headS (headD c) ++ layL (restS (kRow c.kind)) (restD (kRow c.kind) c)).take n = (layL headS (headD c)).take n := List.take_append_of_le_length (by omega)
    have hc := cutL 4096 (by decide) headS (headD c) [] n (headOk h) h1
    rw [e]
    have hc : (headR ((layL headS (headD c)).take n)).2.err = 4 := by simpa [headR] using hc
    rw [if_pos (by rw [hc]; decide), hc]
  · have e : (layL headS (headD c) ++ layL (restS (kRow c.kind)) (restD (kRow c.kind) c)).take n = layL headS (headD c) ++ (layL (restS (kRow c.kind)) (restD (kRow c.kind) c)).take (n - (layL headS (headD c)).length) := by
      rw [List.take_append, List.take_of_length_le (by omega)]
    rw [e]
    rw [List.length_append] at hn
    have hc := cutL 4096 (by decide) (restS (kRow c.kind)) (restD (kRow c.kind) c) (layL headS (headD c)) (n - (layL headS (headD c)).length) (restOk h hf c.kind) (by omega)
    have hr : (restR (layL headS (headD c) ++ (layL (restS (kRow c.kind)) (restD (kRow c.kind) c)).take (n - (layL headS (headD c)).length))).2.err = 4 := by
      unfold restR
      rw [kind_put h, head_put h]
      exact hc
    rw [if_neg (by rw [head_put h]; simp), if_neg (by rw [kind_put h, hk]; simp), if_pos (by rw [hr]; decide), hr]
theorem get_zero {b : List UInt8} (h : (getX b).2 ≠ 0) : (getX b).1 = calZero := by
  unfold getX at h ⊢
  split
  · rfl
  · split
    · rfl
    · split
      · rfl
      · split
        · rfl
        · split
          · rfl
          · rename_i a1 a2 a3 a4 a5
            rw [if_neg a1, if_neg a2, if_neg a3, if_neg a4, if_neg a5] at h
            exact absurd rfl h
theorem rest_back (k : Nat) (c : CallX) (ys : List Fd) (hk : c.kind = k) (h : fdsOk 4096 (restS (kRow k)) ys) : restD (kRow k) (restC k c ys) = ys := by
  have two : ∀ (x : Fd), fdOk 4096 .n x → (⟨x.n, []⟩ : Fd) = x := fun x hx => by obtain ⟨n, b⟩ := x; obtain ⟨-, e⟩ := hx; dsimp only at e; rw [e]
  have byt : ∀ (x : Fd), fdOk 4096 .b x → (⟨0, x.b⟩ : Fd) = x := fun x hx => by obtain ⟨n, b⟩ := x; obtain ⟨-, e⟩ := hx; dsimp only at e; rw [e]
  by_cases e2 : k = 2
  · subst e2
    match ys, h with
    | [a, b, d], ⟨ha, hb, hd, _⟩ => show [(⟨a.n, []⟩ : Fd), ⟨b.n, []⟩, ⟨d.n, []⟩] = _; rw [two a ha, two b hb, two d hd]
  by_cases e3 : k = 3 ∨ k = 7 ∨ k = 8 ∨ k = 9 ∨ k = 10
  · have e : kRow k = ⟨0, 0, true, false, false⟩ := by unfold kRow; rw [if_neg e2, if_pos e3]
    rw [e] at h ⊢
    unfold restC
    rw [if_neg e2, if_pos e3]
    match ys, h with
    | [a, b, d], ⟨ha, hb, hd, _⟩ => show [(⟨a.n, []⟩ : Fd), ⟨b.n, []⟩, ⟨0, d.b⟩] = _; rw [two a ha, two b hb, byt d hd]
  by_cases e4 : k = 4
  · subst e4
    match ys, h with
    | [a, b, d, f], ⟨ha, hb, hd, hf, _⟩ => show [(⟨a.n, []⟩ : Fd), ⟨b.n, []⟩, ⟨d.n, []⟩, ⟨f.n, []⟩] = _; rw [two a ha, two b hb, two d hd, two f hf]
  by_cases e5 : k = 5
  · subst e5
    match ys, h with
    | [a, b, d, f], ⟨ha, hb, hd, hf, _⟩ => show [(⟨a.n, []⟩ : Fd), ⟨b.n, []⟩, ⟨d.n, []⟩, ⟨0, f.b⟩] = _; rw [two a ha, two b hb, two d hd, byt f hf]
  by_cases e6 : k = 11
  · subst e6
    match ys, h with
    | [a, b, d, f, g, i], ⟨ha, hb, hd, hf, hg, hi, _⟩ => show [(⟨a.n, []⟩ : Fd), ⟨b.n, []⟩, ⟨0, d.b⟩, ⟨f.n, []⟩, ⟨g.n, []⟩, ⟨0, i.b⟩] = _; rw [two a ha, two b hb, byt d hd, two f hf, two g hg, byt i hi]
  · have e : kRow k = kNone := by unfold kRow; rw [if_neg e2, if_neg e3, if_neg e4, if_neg e5, if_neg e6]
    rw [e] at h ⊢
    unfold restC
    rw [if_neg e2, if_neg e3, if_neg e4, if_neg e5, if_neg e6]
    match ys, h with
    | [a, b], ⟨ha, hb, _⟩ => show [(⟨a.n, []⟩ : Fd), ⟨b.n, []⟩] = _; rw [two a ha, two b hb]
theorem head_back (l : List UInt8) (h : (headR l).2.err = 0) : ∃ p, (headR l).2 = ⟨l, p, 0⟩ ∧ p ≤ l.length ∧ l = layL headS (headR l).1 ++ l.drop p ∧ fdsOk 4096 headS (headR l).1 := by
  obtain ⟨p, e1, e2, e3, e4, e5⟩ := backL 4096 headS ⟨l, 0, 0⟩ rfl (Nat.zero_le _) h
  exact ⟨p, e1, e3, by have e := e4; simp only [List.drop_zero] at e; exact e, e5⟩
theorem call_back10 {b : List UInt8} (h : (getX b).2 = 0) : mayX (getX b).1 = true ∧ putX (getX b).1 = b := by
  unfold getX at h ⊢
  by_cases h1 : 4096 < b.length
  · rw [if_pos h1] at h; exact absurd h (by simp)
  rw [if_neg h1] at h ⊢
  by_cases h2 : (headR b).2.err ≠ 0
  · rw [if_pos h2] at h; exact absurd h h2
  rw [if_neg h2] at h ⊢
  by_cases h3 : kindX (kindR b) = false
  · rw [if_pos h3] at h; exact absurd h (by simp)
  rw [if_neg h3] at h ⊢
  by_cases h4 : (restR b).2.err ≠ 0
  · rw [if_pos h4] at h; exact absurd h h4
  rw [if_neg h4] at h ⊢
  by_cases h5 : (restR b).2.pos < b.length ∨ mayX (callR b) = false
  · rw [if_pos h5] at h; exact absurd h (by simp)
  rw [if_neg h5]
  rw [not_or] at h5
  obtain ⟨h5, h6⟩ := h5
  refine ⟨by simpa using h6, ?_⟩
  show putX (callR b) = b
  obtain ⟨p, e1, e2, e3, e4⟩ := head_back b (by omega)
  have hr : restR b = tellL 4096 (restS (kRow (kindR b))) ⟨b, p, 0⟩ := by unfold restR; rw [e1]
  obtain ⟨p2, k1, k2, k3, k4, k5⟩ := backL 4096 (restS (kRow (kindR b))) ⟨b, p, 0⟩ rfl e2 (by rw [← hr]; omega)
  rw [← hr] at k1 k4 k5
  dsimp only at k2 k3 k4
  rw [k1] at h5
  dsimp only at h5
  have hp2 : p2 = b.length := by omega
  rw [hp2, List.drop_length, List.append_nil] at k4
  have hkind : (callR b).kind = kindR b := by
    unfold callR
    rw [(restC_kind _ _ _)]
    rfl
  rw [putX_two, hkind]
  have hd : headD (callR b) = (headR b).1 := by
    rw [headR_four]
    unfold callR headD
    rw [restC_client, restC_inc, restC_seq, restC_kind, headR_four]
    rfl
  have hre : restD (kRow (kindR b)) (callR b) = (restR b).1 := by
    unfold callR
    exact rest_back (kindR b) _ _ rfl k5
  rw [hd, hre, ← k4]
  exact e3.symm

end Go.Proofs.YthfaemcpheecfaaDoor
