/- Layer 7's laws: slices of what was answered. -/
import Derived.Test.YtiemphfikfigdaaBatBoth
namespace Go.Proofs.Ytiemphfikfigdaa
open Go.RowKit Go.Shelf
set_option linter.unusedVariables false
set_option maxRecDepth 100000
set_option linter.unusedSimpArgs false

theorem slB_h (b o len cap h : Nat) (hh : h ≤ cap) (W : World) : (Instr.slice 23 (.slice (some ⟨b, o, none⟩) len cap) none (some (.int .i64 (h : Int))) none).run Try.prog W = .ok (.slice (some ⟨b, o, none⟩) h cap) W := by
  have ht' : Try.prog.underlying 23 = some (.slice (Try.prog.elem 23)) := by simp [Program.elem, Try.underlying23]
  have he : Try.prog.elem 23 = 5 := by simp [Program.elem, Try.underlying23]
  rw [run_slice_h W 23 _ _ _ ht' .i64 _ (by omega) (by omega), he, Try.sizeOf5]
  show Result.ok (sliced (some ⟨b, o, none⟩) 0 h cap 1) W = _
  by_cases hc : cap = 0
  · subst hc
    simp [sliced]
  · simp [sliced, Addr.add, hc]
theorem slC_h (b o len cap h : Nat) (hh : h ≤ cap) (W : World) : (Instr.slice 22 (.slice (some ⟨b, o, none⟩) len cap) none (some (.int .i64 (h : Int))) none).run Try.prog W = .ok (.slice (some ⟨b, o, none⟩) h cap) W := by
  have ht' : Try.prog.underlying 22 = some (.slice (Try.prog.elem 22)) := by simp [Program.elem, Try.underlying22]
  have he : Try.prog.elem 22 = 52 := by simp [Program.elem, Try.underlying22]
  rw [run_slice_h W 22 _ _ _ ht' .i64 _ (by omega) (by omega), he, Try.sizeOf52]
  show Result.ok (sliced (some ⟨b, o, none⟩) 0 h cap 3) W = _
  by_cases hc : cap = 0
  · subst hc
    simp [sliced]
  · simp [sliced, Addr.add, hc]
/-- the changes from k on -/
theorem slC_l (b o len cap k : Nat) (hk : k ≤ len) (hl : len ≤ cap) (W : World) : ∃ A', (Instr.slice 22 (.slice (some ⟨b, o, none⟩) len cap) (some (.int .i64 (k : Int))) none none).run Try.prog W = .ok (.slice (some A') (len - k) (cap - k)) W ∧ (k < cap → A' = ⟨b, o + k * 3, none⟩) := by
  have ht' : Try.prog.underlying 22 = some (.slice (Try.prog.elem 22)) := by simp [Program.elem, Try.underlying22]
  have he : Try.prog.elem 22 = 52 := by simp [Program.elem, Try.underlying22]
  rw [run_slice_l W 22 _ _ _ ht' .i64 _ (by omega) (by omega), he, Try.sizeOf52]
  by_cases hc : cap = k
  · refine ⟨⟨b, o, none⟩, ?_, fun h => by omega⟩
    show Result.ok (sliced (some ⟨b, o, none⟩) k len cap 3) W = _
    simp [sliced, hc]
  · refine ⟨⟨b, o + k * 3, none⟩, ?_, fun _ => rfl⟩
    show Result.ok (sliced (some ⟨b, o, none⟩) k len cap 3) W = _
    by_cases h0 : k = 0
    · subst h0
      simp [sliced, Addr.add, hc]
    · have h3 : ¬ k * 3 = 0 := by omega
      simp [sliced, Addr.add, hc, h3]
/-- bytes that are not none have an address -/
theorem BsV.head {w : World} {F : Nat → Prop} {A : Option Addr} {n c : Nat} {l : List UInt8} (h : BsV w F (.slice A n c) l) (hl : 0 < l.length) : ∃ b o, A = some ⟨b, o, none⟩ := by
  obtain ⟨A', c', e, h1, h2⟩ := h
  cases e
  rcases h1 with h | ⟨b, off, rfl, _⟩
  · rw [h] at hl; simp at hl
  · exact ⟨b, off, rfl⟩
theorem LsV.head {α : Type} {E : Elem α} {w : World} {F : Nat → Prop} {A : Option Addr} {n c : Nat} {l : List α} (h : LsV E w F (.slice A n c) l) (hl : 0 < l.length) : ∃ b o, A = some ⟨b, o, none⟩ := by
  rcases h.at.2.1 with h | ⟨b, off, xs, rfl, _⟩
  · rw [h] at hl; simp at hl
  · exact ⟨b, off, rfl⟩
theorem BsV.take {w : World} {F : Nat → Prop} {A : Option Addr} {n c : Nat} {l : List UInt8} (h : BsV w F (.slice A n c) l) (k : Nat) (hk : k ≤ l.length) : BsV w anyB (.slice A k c) (l.take k) := by
  obtain ⟨-, h1, h2, h3, h4⟩ := h.at
  refine ⟨A, c, by rw [List.length_take, Nat.min_eq_left hk], Rd.f (rd_prefix (q := l.drop k) (by rw [List.take_append_drop]; exact h1)) (fun _ _ _ _ => trivial), fun e => ?_, by rw [List.length_take]; omega, h3⟩
  obtain ⟨rfl, h5⟩ := h4 e
  exact ⟨by simp, h5⟩
theorem mayC_small' : ∀ (l : List Ch) (last : Key), mayCFrom last l = true → ∀ z ∈ l, z.1.length ≤ 16
  | [], _, _ => by simp
  | x :: r, last, h => by
    simp only [mayCFrom, Bool.and_eq_true] at h
    intro z hz
    rcases List.mem_cons.1 hz with rfl | hz
    · exact okC_len h.1
    · exact mayC_small' r x.1 h.2 z hz
theorem mayC_small {l : List Ch} (h : mayCP l = true) : ∀ z ∈ l, z.1.length ≤ 16 := mayC_small' l [] h
theorem next_err {last : Key} {b : List UInt8} {er : Int} (h : nextP last b = .error er) : er ≠ 0 := by
  rintro rfl
  rcases b with _ | ⟨s, _ | ⟨m, b⟩⟩
  · simp [nextP] at h
  · simp only [nextP] at h
    split at h <;> simp at h
  · simp only [nextP] at h
    (repeat' split at h) <;> simp at h
theorem getF_err : ∀ (f : Nat) (last : Key) (b : List UInt8) (er : Int), getF f last b = .error er → er ≠ 0
  | 0, last, b, er, h => by cases h
  | f + 1, last, [], er, h => by cases h
  | f + 1, last, s :: b, er, h => by
    unfold getF at h
    cases hn : nextP last (s :: b) with
    | error e =>
      rw [hn] at h
      cases h
      exact next_err hn
    | ok c =>
      obtain ⟨c, r⟩ := c
      rw [hn] at h
      simp only at h
      cases hr : getF f c.1 r with
      | error e =>
        rw [hr] at h
        cases h
        exact getF_err f c.1 r _ hr
      | ok l =>
        rw [hr] at h
        cases h
theorem get_err {b : List UInt8} {er : Int} (h : getC b = .error er) : er ≠ 0 := getF_err _ _ _ _ h
theorem put_some {l : List Ch} (h : 0 < (putFrom [] l).length) : 0 < l.length := by
  cases l with
  | nil => simp [putFrom] at h
  | cons x r => simp

end Go.Proofs.Ytiemphfikfigdaa
