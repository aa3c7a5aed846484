/- Same; Put as a whole; the reference of Put; Copy, Wide, Left. -/
import Derived.Test.YtdlpnndoifdamaaNumRef
namespace Go.Proofs.Ytdlpnndoifdamaa
open Go.RowKit Go.Shelf
set_option linter.unusedVariables false

theorem ba_size (l : List UInt8) : (⟨l.toArray⟩ : ByteArray).size = l.length := by
  show l.toArray.size = _
  simp
theorem conv_rd {W : World} {A : Option Addr} {l : List UInt8} (h : Rd W A l) (c : Nat) : (convert 23 9 (.slice A l.length c)).run Try.prog W = .ok (.string ⟨l.toArray⟩) W := by
  rcases h with rfl | ⟨b, off, rfl, hc⟩
  · exact run_convert_bytes_zero W 23 5 Try.underlying23 Try.underlying5 A c 9 Try.underlying9
  · have := Lib.run_convert_whole (P := Try.prog) W 23 5 9 Try.underlying23 Try.underlying5 Try.underlying9 b off ⟨l.toArray⟩ (fun i hi => by
      have hi' : i < l.length := by rw [ba_size] at hi; exact hi
      rw [hc i hi']
      rfl) c
    rw [ba_size] at this
    exact this

theorem Same_any (A B : Option Addr) (p q : List UInt8) (ca cb : Nat) (w : World) (hA : Rd w A p) (hB : Rd w B q) :
    Calls Try.prog 14 #[.slice A p.length ca, .slice B q.length cb] w fun e w' => e = .returned (.bool (p == q)) ∧ w = w' := by
  have k1 := conv_rd hA ca
  have k2 := conv_rd hB cb
  clear hA hB
  go_enter Try.func14, Try.ntmps14
  go_wp2
  go_ret
  exact ⟨rfl, rfl⟩

/-- the bytes of x in k places -/
def beL (x : Int) (k : Nat) : List UInt8 := (List.range k).map fun j => UInt8.ofNat (x / 256 ^ (k - 1 - j) % 256).toNat
theorem beL_length (x : Int) (k : Nat) : (beL x k).length = k := by simp [beL]

theorem size_cases {k : Nat} (h : sizeB k = true) : k = 1 ∨ k = 2 ∨ k = 4 ∨ k = 8 := by
  simp only [sizeB, Bool.or_eq_true, beq_iff_eq] at h
  omega

/-- the byte that Put lays at place j -/
theorem beArr_get (x : Int) (k j : Nat) (hs : sizeB k = true) (hj : j < k) : (beArr x k)[j]? = some (.int .u8 (x / 256 ^ (k - 1 - j) % 256)) := by
  rcases size_cases hs with rfl | rfl | rfl | rfl
  · obtain rfl : j = 0 := by omega
    simp [beArr, putSt, putStep, zeros, List.range_succ]
  · have : j = 0 ∨ j = 1 := by omega
    rcases this with rfl | rfl <;> simp [beArr, putSt, putStep, zeros, List.range_succ]
  · have : j = 0 ∨ j = 1 ∨ j = 2 ∨ j = 3 := by omega
    rcases this with rfl | rfl | rfl | rfl <;> simp [beArr, putSt, putStep, zeros, List.range_succ] <;> omega
  · have : j = 0 ∨ j = 1 ∨ j = 2 ∨ j = 3 ∨ j = 4 ∨ j = 5 ∨ j = 6 ∨ j = 7 := by omega
    rcases this with rfl | rfl | rfl | rfl | rfl | rfl | rfl | rfl <;> simp [beArr, putSt, putStep, zeros, List.range_succ] <;> omega

theorem rd_put {W : World} {h : Nat} (x : Int) (k : Nat) (hs : sizeB k = true) (hc : Cs W h 5 (beArr x k)) : Rd W (some ⟨h, 0, none⟩) (beL x k) := by
  refine .inr ⟨h, 0, rfl, fun j hj => ?_⟩
  rw [beL_length] at hj
  rw [Nat.zero_add, hc.cell j (beArr_get x k j hs hj)]
  have hb : 0 ≤ x / 256 ^ (k - 1 - j) % 256 ∧ x / 256 ^ (k - 1 - j) % 256 < 256 := by omega
  simp only [beL, List.getElem_map, List.getElem_range]
  generalize x / 256 ^ (k - 1 - j) % 256 = v at *
  congr 2
  have : (UInt8.ofNat v.toNat).toNat = v.toNat := by
    rw [UInt8.toNat_ofNat']
    omega
  omega

/-- What Put answers, at a new block, or not at all. -/
theorem Put_ok (x : Int) (k : Nat) (hs : sizeB k = true) (hx : 0 ≤ x) (hx' : x ≤ 18446744073709551615) (w : World) (hfit : fitsB x k = true) :
    Calls Try.prog 8 #[.int .u64 x, .int .i64 k] w fun e W' => e = .returned (.tuple #[.slice (some ⟨w.heap.size + 1, 0, none⟩) k k, .int .i64 0]) ∧ Below w.heap.size w W' ∧ Rd W' (some ⟨w.heap.size + 1, 0, none⟩) (beL x k) := by
  have hk := size_bd hs
  exact (callsIn_wide.1 (Put_in x k (by omega) (by omega) hs hx hx' w hfit)).mono fun e W' ⟨he, hb, hc⟩ => ⟨he, hb, rd_put x k hs hc⟩

theorem Put_no (x s : Int) (hx : 0 ≤ x) (hx' : x ≤ 18446744073709551615) (w : World) (h : sizeB s = false ∨ fitsB x s = false) :
    Calls Try.prog 8 #[.int .u64 x, .int .i64 s] w fun e W' => e = .returned (.tuple #[.slice none 0 0, .int .i64 2]) ∧ Below w.heap.size w W' := by
  have hsize := isSize_any s
  rcases hs : sizeB s with _ | _
  · rw [hs] at hsize
    go_enter Try.func8, Try.ntmps8
    go_wp2_with (go_at_call 22; refine (hsize _).mono ?_; rintro e w' ⟨rfl, rfl⟩)
    go_ret2
    exact ⟨rfl, (Below.refl _ _).alloc (Nat.le_refl _) _⟩
  · have hf := fits_any x s hx hx' hs
    have h' : fitsB x s = false := by
      rcases h with h | h
      · rw [hs] at h; cases h
      · exact h
    rw [hs] at hsize
    rw [h'] at hf
    clear h h'
    go_enter Try.func8, Try.ntmps8
    go_wp2_with (first | (go_at_call 22; refine (hsize _).mono ?_; rintro e w' ⟨rfl, rfl⟩) | (go_at_call 23; refine (hf _).mono ?_; rintro e w' ⟨rfl, rfl⟩))
    go_ret2
    exact ⟨rfl, (Below.refl _ _).alloc (Nat.le_refl _) _⟩

end Go.Proofs.Ytdlpnndoifdamaa
