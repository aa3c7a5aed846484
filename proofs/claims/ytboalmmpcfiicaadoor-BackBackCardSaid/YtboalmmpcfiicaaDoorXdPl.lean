/- What is laid is told: numbers, truths, bytes. Plain. -/
import Derived.Test.YtboalmmpcfiicaaDoorXd4
namespace Go.Proofs.YtboalmmpcfiicaaDoor
open Go.RowKit Go.Shelf
set_option linter.unusedVariables false
set_option maxRecDepth 100000
set_option linter.unusedSimpArgs false

theorem xcut (x P : Int) (hP : 0 < P) : x % (P * 256) = (x / P % 256) * P + x % P := by
  have h1 := Int.emod_add_mul_ediv x (P * 256)
  have h2 := Int.emod_add_mul_ediv x P
  have h3 := Int.emod_add_mul_ediv (x / P) 256
  have h4 : x / P / 256 = x / (P * 256) := Int.ediv_ediv_of_nonneg (by omega)
  rw [h4] at h3
  generalize x / (P * 256) = q at *
  generalize x / P = r at *
  generalize r % 256 = s at *
  have h5 : P * r = P * s + P * (256 * q) := by rw [← h3, Int.mul_add]
  have h6 : P * 256 * q = P * (256 * q) := Int.mul_assoc P 256 q
  have h7 : s * P = P * s := Int.mul_comm s P
  omega
theorem xdigits (x : Int) : ∀ k : Nat, beSum ((List.range k).map fun j => x / 256 ^ (k - 1 - j) % 256) = x % 256 ^ k
  | 0 => by simp [beSum]
  | k + 1 => by
    have hP : (0 : Int) < 256 ^ k := Int.pow_pos (by decide)
    rw [List.range_succ_eq_map, List.map_cons, List.map_map]
    simp only [beSum, List.length_map, List.length_range]
    have e : (List.range k).map ((fun j => x / 256 ^ (k + 1 - 1 - j) % 256) ∘ Nat.succ) = (List.range k).map fun j => x / 256 ^ (k - 1 - j) % 256 := by
      apply List.map_congr_left
      intro j hj
      have : k + 1 - 1 - (j + 1) = k - 1 - j := by omega
      simp only [Function.comp, Nat.succ_eq_add_one, this]
    rw [e, xdigits x k, Int.pow_succ, xcut x _ hP]
    rfl
theorem xseg_put (p q : List UInt8) (x : Int) (k : Nat) (x0 : 0 ≤ x) (x1 : x < 256 ^ k) : beSum (seg (p ++ beL x k ++ q) p.length k) = x := by
  have e : seg (p ++ beL x k ++ q) p.length k = (List.range k).map fun j => x / 256 ^ (k - 1 - j) % 256 := by
    apply List.map_congr_left
    intro j hj
    have hj' : j < k := List.mem_range.1 hj
    have hb : 0 ≤ x / 256 ^ (k - 1 - j) % 256 ∧ x / 256 ^ (k - 1 - j) % 256 < 256 := by omega
    have e1 : (p ++ beL x k ++ q)[p.length + j]? = some (UInt8.ofNat (x / 256 ^ (k - 1 - j) % 256).toNat) := by
      rw [List.append_assoc, List.getElem?_append_right (by omega), Nat.add_sub_cancel_left, List.getElem?_append_left (by rw [beL_length]; exact hj')]
      simp [beL, hj']
    unfold byteAt
    rw [List.getD, e1, Option.getD_some, UInt8.toNat_ofNat']
    omega
  rw [e, xdigits, Int.emod_eq_of_lt x0 x1]
theorem numOk (p q : List UInt8) (x : Int) (k : Nat) (x0 : 0 ≤ x) (x1 : x < 256 ^ k) : numR ⟨p ++ beL x k ++ q, p.length, 0⟩ k = (x, ⟨p ++ beL x k ++ q, p.length + k, 0⟩) := by
  unfold numR
  rw [if_neg (by simp), if_neg (by simp only [List.length_append, beL_length]; omega)]
  simp only [xseg_put p q x k x0 x1]
theorem numCut (all : List UInt8) (pos k : Nat) (h : all.length < pos + k) : numR ⟨all, pos, 0⟩ k = (0, ⟨all, pos, 4⟩) := by
  unfold numR
  rw [if_neg (by simp), if_pos h]
theorem truth_ok (p q : List UInt8) (b : Bool) : truthR ⟨p ++ truthX b ++ q, p.length, 0⟩ = (b, ⟨p ++ truthX b ++ q, p.length + 4, 0⟩) := by
  unfold truthR truthX
  rw [numOk p q _ 4 (by split <;> decide) (by split <;> decide)]
  cases b <;> rfl
theorem byteAt_app (p q : List UInt8) (j : Nat) : byteAt (p ++ q) (p.length + j) = byteAt q j := by
  unfold byteAt
  rw [List.getD_eq_getElem?_getD, List.getD_eq_getElem?_getD, List.getElem?_append_right (by omega), Nat.add_sub_cancel_left]
theorem pad_ok (p b q : List UInt8) : padE (p ++ (b ++ List.replicate (padN b.length) 0 ++ q)) p.length b.length = 0 := by
  unfold padE
  rw [if_neg (by simp only [List.length_append, List.length_replicate]; omega), if_pos]
  refine allZ_true fun j hj => ?_
  have e : p ++ (b ++ List.replicate (padN b.length) 0 ++ q) = (p ++ b) ++ (List.replicate (padN b.length) 0 ++ q) := by simp
  rw [e, ← List.length_append, byteAt_app]
  unfold byteAt
  rw [List.getD_eq_getElem?_getD, List.getElem?_append_left (by rw [List.length_replicate]; exact hj), List.getElem?_replicate, if_pos hj]
  rfl
theorem bytes_ok (p q b : List UInt8) (hb : b.length < 4294967296) : bytesR ⟨p ++ bytesX b ++ q, p.length, 0⟩ (b.length : Int) = (b, ⟨p ++ bytesX b ++ q, p.length + (bytesX b).length, 0⟩) := by
  rw [bytesR_is]
  have e1 : p ++ bytesX b ++ q = p ++ beL (b.length : Int) 4 ++ (b ++ List.replicate (padN b.length) 0 ++ q) := by simp [bytesX]
  have e2 : p ++ bytesX b ++ q = (p ++ beL (b.length : Int) 4) ++ (b ++ List.replicate (padN b.length) 0 ++ q) := by simp [bytesX]
  have hn : numR ⟨p ++ bytesX b ++ q, p.length, 0⟩ 4 = ((b.length : Int), ⟨p ++ bytesX b ++ q, p.length + 4, 0⟩) := by
    rw [e1]
    exact numOk p _ _ 4 (by omega) (by omega)
  rw [hn]
  unfold bytesN
  have hl : (p ++ beL (b.length : Int) 4).length = p.length + 4 := by simp [beL_length]
  have hp : padE (p ++ bytesX b ++ q) (p.length + 4) b.length = 0 := by
    rw [e2, ← hl]
    exact pad_ok _ b q
  have ht : ((p ++ bytesX b ++ q).drop (p.length + 4)).take b.length = b := by
    rw [e2, ← hl, List.drop_left, List.append_assoc, List.take_left]
  dsimp only
  rw [if_neg (by simp), if_neg (by simp), Int.toNat_natCast, if_pos hp, ht, bytesX_length]
  simp only [Prod.mk.injEq, RS.mk.injEq, true_and, and_true]
  omega

end Go.Proofs.YtboalmmpcfiicaaDoor
