/- num.Get as a whole, and its reference; what num.Put answers. -/
import Derived.Test.YtlhbipommhljiaaNGet
namespace Go.Proofs.Ytlhbipommhljiaa
open Go.RowKit Go.Shelf
set_option linter.unusedVariables false

theorem byteAt_nonneg (l : List UInt8) (j : Nat) : 0 ≤ byteAt l j := by unfold byteAt; omega
theorem rd_cell {W : World} {b off : Nat} {l : List UInt8} (hc : ∀ j (h : j < l.length), W.cell? ⟨b, off + j, none⟩ = some (.int .u8 (l[j].toNat : Int))) (j : Nat) (h : j < l.length) : W.cell? ⟨b, off + j, none⟩ = some (.int .u8 (byteAt l j)) := by
  rw [hc j h]
  simp [byteAt, List.getElem?_eq_getElem h]
theorem place_iff {n : Nat} {i : Int} : placeB n i = true ↔ 0 ≤ i ∧ i ≤ (n : Int) := by simp [placeB]
/-- the number that bytes tell, the highest first -/
def beSum : List Int → Int
  | [] => 0
  | v :: l => v * 256 ^ l.length + beSum l
theorem beSum_snoc (l : List Int) (v : Int) : beSum (l ++ [v]) = 256 * beSum l + v := by
  induction l with
  | nil => simp [beSum]
  | cons u l ih =>
    simp only [List.cons_append, beSum, ih, List.length_append, List.length_cons, List.length_nil, Nat.zero_add]
    rw [Int.pow_succ, Int.mul_add, ← Int.mul_assoc u, Int.mul_comm (u * _) 256]
    omega
theorem getSt_rev (l : List Int) : (getSt l.reverse).1 = beSum l := by
  induction l with
  | nil => rfl
  | cons v l ih => rw [List.reverse_cons, getSt_snoc]; simp only [getStep, beSum, ih, getSt_length, List.length_reverse]; omega
/-- the k bytes of l from i on -/
def seg (l : List UInt8) (i k : Nat) : List Int := (List.range k).map fun j => byteAt l (i + j)
theorem seg_succ (l : List UInt8) (i k : Nat) : seg l i (k + 1) = seg l i k ++ [byteAt l (i + k)] := by simp [seg, List.range_succ]
theorem seg_length (l : List UInt8) (i k : Nat) : (seg l i k).length = k := by simp [seg]
theorem beSum_bd (l : List UInt8) (i k : Nat) : 0 ≤ beSum (seg l i k) ∧ beSum (seg l i k) < 256 ^ k := by
  induction k with
  | zero => simp [seg, beSum]
  | succ k ih =>
    rw [seg_succ, beSum_snoc, Int.pow_succ]
    have h1 := byteAt_nonneg l (i + k)
    have h2 := byteAt_le l (i + k)
    omega
theorem beSum_64 (l : List UInt8) (i k : Nat) (hk : k ≤ 8) : beSum (seg l i k) ≤ 18446744073709551615 := by
  have h := beSum_bd l i k
  have hP : (256 : Nat) ^ k ≤ 256 ^ 8 := Nat.pow_le_pow_right (by decide) hk
  have hc : ((256 ^ k : Nat) : Int) = 256 ^ k := Int.natCast_pow 256 k
  have h8 : (256 : Nat) ^ 8 = 18446744073709551616 := by decide
  omega
/-- what Get answers -/
def getV (l : List UInt8) (i s : Int) : Value :=
  if sizeB s = false ∨ placeB l.length i = false then .tuple #[.int .u64 0, .int .i64 2]
  else if (l.length : Int) - i < s then .tuple #[.int .u64 0, .int .i64 4]
  else .tuple #[.int .u64 (beSum (seg l i.toNat s.toNat)), .int .i64 0]
theorem size_bd {s : Int} (h : sizeB s = true) : 1 ≤ s ∧ s ≤ 8 := by
  simp only [sizeB, Bool.or_eq_true, beq_iff_eq] at h
  omega
theorem Get_any (l : List UInt8) (A : Option Addr) (c : Nat) (i s : Int) (w : World) (hl : l.length ≤ maxLen) (hlc : l.length ≤ c) (hr : Rd w A l) :
    Calls Try.prog 39 #[.slice A l.length c, .int .i64 i, .int .i64 s] w fun e W' => e = .returned (getV l i s) ∧ Below w.heap.size w W' := by
  unfold getV
  by_cases h1 : sizeB s = false ∨ placeB l.length i = false
  · rw [if_pos h1]
    exact (Get_arg l A c i s w hl h1).mono fun e W' ⟨he, hw⟩ => ⟨he, by rw [← hw]; exact Below.refl _ _⟩
  rw [if_neg h1]
  have hs : sizeB s = true := by
    rcases h : sizeB s with _ | _
    · exact absurd (.inl h) h1
    · rfl
  have hp : placeB l.length i = true := by
    rcases h : placeB l.length i with _ | _
    · exact absurd (.inr h) h1
    · rfl
  by_cases h2 : (l.length : Int) - i < s
  · rw [if_pos h2]
    exact (Get_short l A c i s w hl hs hp h2).mono fun e W' ⟨he, hw⟩ => ⟨he, by rw [← hw]; exact Below.refl _ _⟩
  rw [if_neg h2]
  obtain ⟨hi0, hi1⟩ := place_iff.1 hp
  obtain ⟨hs0, hs1⟩ := size_bd hs
  obtain ⟨i, rfl⟩ := Int.eq_ofNat_of_zero_le hi0
  obtain ⟨k, rfl⟩ := Int.eq_ofNat_of_zero_le (show 0 ≤ s by omega)
  simp only [Int.toNat_natCast]
  rcases hr with rfl | ⟨b, off, rfl, hcell⟩
  · simp at h2 hi1; omega
  · have hb : b < w.heap.size := lt_of_cell (hcell 0 (by omega))
    have h := callsIn_wide.1 (Get_in l b off c i k w hl (by omega) (by omega) hs (by omega) hlc hb hcell)
    have e : ((List.range k).reverse.map fun j => byteAt l (i + j)) = (seg l i k).reverse := by simp [seg, List.map_reverse]
    rw [e, getSt_rev] at h
    exact h
theorem GetRef_any (l : List UInt8) (A : Option Addr) (c : Nat) (i s : Int) (w : World) (hl : l.length ≤ maxLen) (hlc : l.length ≤ c) (hr : Rd w A l) :
    Calls Try.prog 30 #[.slice A l.length c, .int .i64 i, .int .i64 s] w fun e W' => e = .returned (getV l i s) ∧ w = W' := by
  unfold maxLen at hl
  have hsize := size_ref s
  rcases hs : sizeB s with _ | _
  · have hz : getV l i s = .tuple #[.int .u64 0, .int .i64 2] := by
      unfold getV
      rw [if_pos (.inl hs)]
    rw [hz]
    rw [hs] at hsize
    clear hz
    go_enter Try.func30, Try.ntmps30
    go_wp2_with (go_at_call 36; refine (hsize _).mono ?_; rintro e w' ⟨rfl, rfl⟩)
    go_ret2
    exact ⟨rfl, rfl⟩
  rw [hs] at hsize
  obtain ⟨hs0, hs1⟩ := size_bd hs
  by_cases h0 : i < 0
  · have hz : getV l i s = .tuple #[.int .u64 0, .int .i64 2] := by
      unfold getV
      rw [if_pos (.inr (by simp [placeB]; omega))]
    rw [hz]
    clear hz
    go_enter Try.func30, Try.ntmps30
    go_wp2_with (go_at_call 36; refine (hsize _).mono ?_; rintro e w' ⟨rfl, rfl⟩)
    go_ret2
    exact ⟨rfl, rfl⟩
  have h0' : decide (i < 0) = false := by simpa using h0
  by_cases h1 : (l.length : Int) < i
  · have hz : getV l i s = .tuple #[.int .u64 0, .int .i64 2] := by
      unfold getV
      rw [if_pos (.inr (by simp [placeB]; omega))]
    rw [hz]
    clear hz h0
    go_enter Try.func30, Try.ntmps30
    go_wp2_with (go_at_call 36; refine (hsize _).mono ?_; rintro e w' ⟨rfl, rfl⟩)
    go_ret2
    exact ⟨rfl, rfl⟩
  have h1' : decide ((l.length : Int) < i) = false := by simpa using h1
  have hp : placeB l.length i = true := place_iff.2 (by omega)
  have hnot : ¬ (sizeB s = false ∨ placeB l.length i = false) := by simp [hs, hp]
  by_cases h3 : (l.length : Int) - i < s
  · have hz : getV l i s = .tuple #[.int .u64 0, .int .i64 4] := by
      unfold getV
      rw [if_neg hnot, if_pos h3]
    rw [hz]
    have hi0 : 0 ≤ i := by omega
    have hi1 : i ≤ (l.length : Int) := by omega
    clear hz h0 h1 hp hs hnot
    go_enter Try.func30, Try.ntmps30
    go_wp2_with (go_at_call 36; refine (hsize _).mono ?_; rintro e w' ⟨rfl, rfl⟩)
    go_ret2
    exact ⟨rfl, rfl⟩
  have hz : getV l i s = .tuple #[.int .u64 (beSum (seg l i.toNat s.toNat)), .int .i64 0] := by
    unfold getV
    rw [if_neg hnot, if_neg h3]
  rw [hz]
  obtain ⟨i, rfl⟩ := Int.eq_ofNat_of_zero_le (show 0 ≤ i by omega)
  obtain ⟨n, rfl⟩ := Int.eq_ofNat_of_zero_le (show 0 ≤ s by omega)
  simp only [Int.toNat_natCast]
  have h3' : decide ((l.length : Int) - i < n) = false := by simpa using h3
  have hin : i + n ≤ l.length := by omega
  have hsum : (i : Int) + (n : Int) ≤ l.length := by omega
  have hcell : ∀ j, j < n → ∃ b off, A = some ⟨b, off, none⟩ ∧ w.cell? ⟨b, off + (i + j), none⟩ = some (.int .u8 (byteAt l (i + j))) := fun j hj => by
    rcases hr with rfl | ⟨b, off, rfl, hc⟩
    · simp at hin; omega
    · exact ⟨b, off, rfl, rd_cell hc _ (by omega)⟩
  have HC := Lib.hid hcell
  clear hz h0 h1 h3 hp hcell hr hs hnot
  go_enter Try.func30, Try.ntmps30
  go_wp2_with (go_at_call 36; refine (hsize _).mono ?_; rintro e w' ⟨rfl, rfl⟩)
  go_loop [8, 9] (fun m j => ∃ k : Nat, k ≤ n ∧ j = .int .i64 ((i : Int) + (k : Int)) ∧ m = .int .u64 (beSum (seg l i k))) (fun _ j => i + n - (intOf j).toNat)
  case atStart => exact ⟨0, Nat.zero_le _, by simp, rfl⟩
  case round =>
    obtain ⟨k, hk, rfl, rfl⟩ := hrel
    have hbd := beSum_bd l i k
    by_cases hlt : k < n
    · have hlt' : (i : Int) + (k : Int) < (i : Int) + (n : Int) := by omega
      have hlt2 : (i : Int) + (k : Int) < (l.length : Int) := by omega
      obtain ⟨b, off, rfl, hc1⟩ := HC.out k hlt
      have htn : ((i : Int) + (k : Int)).toNat = i + k := by omega
      have hb0 := byteAt_nonneg l (i + k)
      have hb1 := byteAt_le l (i + k)
      have hs64 := beSum_64 l i (k + 1) (by omega)
      have hsn : beSum (seg l i (k + 1)) = 256 * beSum (seg l i k) + byteAt l (i + k) := by rw [seg_succ, beSum_snoc]
      have hb2 : 256 * beSum (seg l i k) + byteAt l (i + k) ≤ 18446744073709551615 := by rw [← hsn]; exact hs64
      have hb3 : 256 * beSum (seg l i k) ≤ 18446744073709551615 := by omega
      have HSN := Lib.hid hsn
      have hbl := hbd.1
      clear hsn hs64 hbd
      go_wp2
      go_round
      case rel => exact ⟨k + 1, by omega, by go_num, by rw [HSN.out]⟩
      case measure => simp [intOf]; omega
    · obtain rfl : k = n := by omega
      clear hbd
      go_wp2
      go_ret2
      exact ⟨rfl, rfl⟩
/-- the bytes of x in k places -/
def beL (x : Int) (k : Nat) : List UInt8 := (List.range k).map fun j => UInt8.ofNat (x / 256 ^ (k - 1 - j) % 256).toNat
theorem beL_length (x : Int) (k : Nat) : (beL x k).length = k := by simp [beL]
theorem size_cases {k : Nat} (h : sizeB k = true) : k = 1 ∨ k = 2 ∨ k = 4 ∨ k = 8 := by
  simp only [sizeB, Bool.or_eq_true, beq_iff_eq] at h
  omega
/-- the byte that Put lays at place j -/
theorem beArr_get (x : Int) (k j : Nat) (hs : sizeB k = true) (hj : j < k) : (beArr x k)[j]? = some (.int .u8 (x / 256 ^ (k - 1 - j) % 256)) := by
  rcases size_cases hs with rfl | rfl | rfl | rfl
  · obtain rfl : j = 0 := by omega
    simp [beArr, putSt, putStep, zeros, List.range_succ]
  · have : j = 0 ∨ j = 1 := by omega
    rcases this with rfl | rfl <;> simp [beArr, putSt, putStep, zeros, List.range_succ]
  · have : j = 0 ∨ j = 1 ∨ j = 2 ∨ j = 3 := by omega
    rcases this with rfl | rfl | rfl | rfl <;> simp [beArr, putSt, putStep, zeros, List.range_succ] <;> omega
  · have : j = 0 ∨ j = 1 ∨ j = 2 ∨ j = 3 ∨ j = 4 ∨ j = 5 ∨ j = 6 ∨ j = 7 := by omega
    rcases this with rfl | rfl | rfl | rfl | rfl | rfl | rfl | rfl <;> simp [beArr, putSt, putStep, zeros, List.range_succ] <;> omega
theorem rd_put {W : World} {h : Nat} (x : Int) (k : Nat) (hs : sizeB k = true) (hc : Cs W h 5 (beArr x k)) : Rd W (some ⟨h, 0, none⟩) (beL x k) := by
  refine .inr ⟨h, 0, rfl, fun j hj => ?_⟩
  rw [beL_length] at hj
  rw [Nat.zero_add, hc.cell j (beArr_get x k j hs hj)]
  have hb : 0 ≤ x / 256 ^ (k - 1 - j) % 256 ∧ x / 256 ^ (k - 1 - j) % 256 < 256 := by omega
  simp only [beL, List.getElem_map, List.getElem_range]
  generalize x / 256 ^ (k - 1 - j) % 256 = v at *
  congr 2
  have : (UInt8.ofNat v.toNat).toNat = v.toNat := by
    rw [UInt8.toNat_ofNat']
    omega
  omega
/-- What Put answers, at a new block, or not at all. -/
theorem Put_ok (x : Int) (k : Nat) (hs : sizeB k = true) (hx : 0 ≤ x) (hx' : x ≤ 18446744073709551615) (w : World) (hfit : fitsB x k = true) :
    Calls Try.prog 32 #[.int .u64 x, .int .i64 k] w fun e W' => e = .returned (.tuple #[.slice (some ⟨w.heap.size + 1, 0, none⟩) k k, .int .i64 0]) ∧ Below w.heap.size w W' ∧ Rd W' (some ⟨w.heap.size + 1, 0, none⟩) (beL x k) := by
  have hk := size_bd hs
  exact (callsIn_wide.1 (Put_in x k (by omega) (by omega) hs hx hx' w hfit)).mono fun e W' ⟨he, hb, hc⟩ => ⟨he, hb, rd_put x k hs hc⟩
theorem Put_no (x s : Int) (hx : 0 ≤ x) (hx' : x ≤ 18446744073709551615) (w : World) (h : sizeB s = false ∨ fitsB x s = false) :
    Calls Try.prog 32 #[.int .u64 x, .int .i64 s] w fun e W' => e = .returned (.tuple #[.slice none 0 0, .int .i64 2]) ∧ Below w.heap.size w W' := by
  have hsize := isSize_any s
  rcases hs : sizeB s with _ | _
  · rw [hs] at hsize
    go_enter Try.func32, Try.ntmps32
    go_wp2_with (go_at_call 40; refine (hsize _).mono ?_; rintro e w' ⟨rfl, rfl⟩)
    go_ret2
    exact ⟨rfl, (Below.refl _ _).alloc (Nat.le_refl _) _⟩
  · have hf := fits_any x s hx hx' hs
    have h' : fitsB x s = false := by
      rcases h with h | h
      · rw [hs] at h; cases h
      · exact h
    rw [hs] at hsize
    rw [h'] at hf
    clear h h'
    go_enter Try.func32, Try.ntmps32
    go_wp2_with (first | (go_at_call 40; refine (hsize _).mono ?_; rintro e w' ⟨rfl, rfl⟩) | (go_at_call 41; refine (hf _).mono ?_; rintro e w' ⟨rfl, rfl⟩))
    go_ret2
    exact ⟨rfl, (Below.refl _ _).alloc (Nat.le_refl _) _⟩

end Go.Proofs.Ytlhbipommhljiaa
