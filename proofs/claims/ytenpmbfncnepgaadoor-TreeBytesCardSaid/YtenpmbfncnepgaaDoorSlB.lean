/- Slices of slices of bytes: from a place on, up to a place, between two. -/
import Derived.Test.YtenpmbfncnepgaaDoorWordsK
namespace Go.Proofs.YtenpmbfncnepgaaDoor
open Go.RowKit Go.Shelf
set_option linter.unusedVariables false
set_option maxRecDepth 100000
set_option linter.unusedSimpArgs false

/-- where a slice from place k on starts -/
def cutA (A : Option Addr) (k c : Nat) : Option Addr := if c = k then A else A.map (·.add (k * 1))
theorem cutA_none {A : Option Addr} {k c : Nat} (h : cutA A k c = none) : A = none := by
  unfold cutA at h
  split at h
  · exact h
  · simpa using h
theorem cutA_zero (A : Option Addr) (c : Nat) : cutA A 0 c = A := by
  unfold cutA
  split
  · rfl
  · cases A <;> simp [Addr.add]
theorem und_el : Tryd.prog.underlying 26 = some (.slice (Tryd.prog.elem 26)) := by simp [Program.elem, Tryd.underlying26]
theorem el_u8 : Tryd.prog.elem 26 = 5 := by simp [Program.elem, Tryd.underlying26]
theorem sl_l (A : Option Addr) (n c k : Nat) (hk : k ≤ n) (W : World) : (Instr.slice 26 (.slice A n c) (some (.int .i64 (k : Int))) none none).run Tryd.prog W = .ok (.slice (cutA A k c) (n - k) (c - k)) W := by
  rw [run_slice_l W 26 _ _ _ und_el .i64 _ (by omega) (by omega), el_u8, Tryd.sizeOf5]
  rfl
theorem sl_h (A : Option Addr) (n c h : Nat) (hh : h ≤ c) (W : World) : (Instr.slice 26 (.slice A n c) none (some (.int .i64 (h : Int))) none).run Tryd.prog W = .ok (.slice A h c) W := by
  rw [run_slice_h W 26 _ _ _ und_el .i64 _ (by omega) (by omega), el_u8, Tryd.sizeOf5]
  show Result.ok (Value.slice (cutA A 0 c) (h - 0) (c - 0)) W = _
  rw [cutA_zero]
  rfl
theorem sl_lh (A : Option Addr) (n c l h : Nat) (hl : l ≤ h) (hh : h ≤ c) (W : World) : (Instr.slice 26 (.slice A n c) (some (.int .i64 (l : Int))) (some (.int .i64 (h : Int))) none).run Tryd.prog W = .ok (.slice (cutA A l c) (h - l) (c - l)) W := by
  rw [run_slice_lh W 26 _ _ _ und_el .i64 .i64 _ _ (by omega) (by omega) (by omega), el_u8, Tryd.sizeOf5]
  rfl
theorem RdF.cut {w : World} {F : Nat → Prop} {A : Option Addr} {l : List UInt8} {c k : Nat} (h : RdF w F A l) (hk : k ≤ l.length) (hc : l.length ≤ c) : RdF w F (cutA A k c) (l.drop k) := by
  by_cases h0 : k = l.length
  · left; rw [h0]; simp
  rcases h with h | ⟨b, off, rfl, hF, hce⟩
  · rw [h] at hk h0; simp at hk h0; omega
  · refine .inr ⟨b, off + k, ?_, hF, fun j hj => ?_⟩
    · unfold cutA
      rw [if_neg (by omega)]
      by_cases hz : k = 0
      · subst hz; simp [Addr.add]
      · simp [Addr.add, hz]
    · rw [List.length_drop] at hj
      have := hce (k + j) (by omega)
      rw [← Nat.add_assoc] at this
      rw [this, List.getElem_drop]
theorem RdF.take {w : World} {F : Nat → Prop} {A : Option Addr} {l : List UInt8} (h : RdF w F A l) (k : Nat) : RdF w F A (l.take k) := by
  rcases h with h | ⟨b, off, rfl, hF, hce⟩
  · left; rw [h]; simp
  · refine .inr ⟨b, off, rfl, hF, fun j hj => ?_⟩
    rw [List.length_take] at hj
    rw [hce j (by omega), List.getElem_take]
theorem BsV.cut {w : World} {F : Nat → Prop} {A : Option Addr} {n c : Nat} {l : List UInt8} (h : BsV w F (.slice A n c) l) (k : Nat) (hk : k ≤ l.length) : BsV w F (.slice (cutA A k c) (l.length - k) (c - k)) (l.drop k) := by
  obtain ⟨A', c', e, h1, h2, h3, h4⟩ := h
  cases e
  refine ⟨_, _, by rw [List.length_drop], h1.cut hk h3, fun e => ?_, by rw [List.length_drop]; omega, by omega⟩
  obtain ⟨rfl, rfl⟩ := h2 (cutA_none e)
  simp
theorem BsV.upto {w : World} {F : Nat → Prop} {A : Option Addr} {n c : Nat} {l : List UInt8} (h : BsV w F (.slice A n c) l) (k : Nat) (hk : k ≤ l.length) : BsV w F (.slice A k c) (l.take k) := by
  obtain ⟨A', c', e, h1, h2, h3, h4⟩ := h
  cases e
  refine ⟨A, c, by rw [List.length_take, Nat.min_eq_left hk], h1.take k, fun e => ?_, by rw [List.length_take]; omega, h4⟩
  obtain ⟨rfl, rfl⟩ := h2 e
  simp
theorem BsV.window {w : World} {F : Nat → Prop} {A : Option Addr} {n c : Nat} {l : List UInt8} (h : BsV w F (.slice A n c) l) (i j : Nat) (hi : i ≤ j) (hj : j ≤ l.length) : BsV w F (.slice (cutA A i c) (j - i) (c - i)) ((l.drop i).take (j - i)) := by
  have h1 := h.cut i (by omega)
  exact h1.upto (j - i) (by rw [List.length_drop]; omega)

end Go.Proofs.YtenpmbfncnepgaaDoor
