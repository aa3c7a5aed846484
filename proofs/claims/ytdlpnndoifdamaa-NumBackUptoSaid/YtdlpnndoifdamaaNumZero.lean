/- num.Zero and its reference; the reference of Get. -/
import Derived.Test.YtdlpnndoifdamaaNumGet
namespace Go.Proofs.Ytdlpnndoifdamaa
open Go.RowKit Go.Shelf
set_option linter.unusedVariables false

theorem byteAt_nonneg (l : List UInt8) (j : Nat) : 0 ≤ byteAt l j := by unfold byteAt; omega

/-- are the n bytes from i on 0? -/
def allZ (l : List UInt8) (i n : Nat) : Bool := (List.range n).all fun j => byteAt l (i + j) == 0
theorem allZ_true {l : List UInt8} {i n : Nat} (h : ∀ j, j < n → byteAt l (i + j) = 0) : allZ l i n = true := by
  unfold allZ
  rw [List.all_eq_true]
  intro j hj
  simpa using h j (List.mem_range.1 hj)
theorem allZ_false {l : List UInt8} {i n : Nat} (k : Nat) (hk : k < n) (h : byteAt l (i + k) ≠ 0) : allZ l i n = false := by
  unfold allZ
  rw [Bool.eq_false_iff]
  intro hh
  have := (List.all_eq_true.1 hh) k (List.mem_range.2 hk)
  simp at this
  exact h this

/-- the error of bytes that are 0, or not -/
def zres (z : Bool) : Int := if z = true then 0 else 5
/-- what Zero answers -/
def zeroV (l : List UInt8) (i n : Int) : Int :=
  if placeB l.length i = false ∨ n < 0 then 2
  else if (l.length : Int) - i < n then 4
  else zres (allZ l i.toNat n.toNat)

theorem rd_cell {W : World} {b off : Nat} {l : List UInt8} (hc : ∀ j (h : j < l.length), W.cell? ⟨b, off + j, none⟩ = some (.int .u8 (l[j].toNat : Int))) (j : Nat) (h : j < l.length) : W.cell? ⟨b, off + j, none⟩ = some (.int .u8 (byteAt l j)) := by
  rw [hc j h]
  simp [byteAt, List.getElem?_eq_getElem h]

theorem place_iff {n : Nat} {i : Int} : placeB n i = true ↔ 0 ≤ i ∧ i ≤ (n : Int) := by simp [placeB]

theorem Zero_arg (l : List UInt8) (A : Option Addr) (c : Nat) (i n : Int) (w : World) (hl : l.length ≤ maxLen) (h : placeB l.length i = false ∨ n < 0) :
    Calls Try.prog 17 #[.slice A l.length c, .int .i64 i, .int .i64 n] w fun e W' => e = .returned (.int .i64 2) ∧ w = W' := by
  have hplace := fun W => isPlace_any A l.length c i W hl
  rcases hp : placeB l.length i with _ | _
  · rw [hp] at hplace
    go_enter Try.func17, Try.ntmps17
    go_wp2_with (go_at_call 26; refine (hplace _).mono ?_; rintro e w' ⟨rfl, rfl⟩)
    go_ret
    exact ⟨rfl, rfl⟩
  · have hn : n < 0 := by
      rcases h with h | h
      · rw [hp] at h; cases h
      · exact h
    rw [hp] at hplace
    go_enter Try.func17, Try.ntmps17
    go_wp2_with (go_at_call 26; refine (hplace _).mono ?_; rintro e w' ⟨rfl, rfl⟩)
    go_ret
    exact ⟨rfl, rfl⟩

theorem Zero_short (l : List UInt8) (A : Option Addr) (c : Nat) (i n : Int) (w : World) (hl : l.length ≤ maxLen) (hp : placeB l.length i = true) (hn : 0 ≤ n) (h : (l.length : Int) - i < n) :
    Calls Try.prog 17 #[.slice A l.length c, .int .i64 i, .int .i64 n] w fun e W' => e = .returned (.int .i64 4) ∧ w = W' := by
  have hplace := fun W => isPlace_any A l.length c i W hl
  rw [hp] at hplace
  obtain ⟨hi0, hi1⟩ := place_iff.1 hp
  unfold maxLen at hl
  clear hp
  go_enter Try.func17, Try.ntmps17
  go_wp2_with (go_at_call 26; refine (hplace _).mono ?_; rintro e w' ⟨rfl, rfl⟩)
  go_ret
  exact ⟨rfl, rfl⟩

/-- none to look at -/
theorem Zero_none (l : List UInt8) (A : Option Addr) (c i : Nat) (w : World) (hl : l.length ≤ maxLen) (hlc : l.length ≤ c) (hi : i ≤ l.length) :
    Calls Try.prog 17 #[.slice A l.length c, .int .i64 i, .int .i64 0] w fun e W' => e = .returned (.int .i64 0) ∧ w = W' := by
  have hplace : ∀ W, Calls Try.prog 26 #[.slice A l.length c, .int .i64 i] W fun e w' => e = .returned (.bool true) ∧ W = w' := fun W => by
    have := isPlace_any A l.length c i W hl
    rwa [show placeB l.length i = true by simp [placeB]; omega] at this
  obtain ⟨A', hsl⟩ : ∃ A', ∀ W, (Instr.slice 23 (.slice A l.length c) (some (.int .i64 (i : Int))) (some (.int .i64 (i : Int))) none).run Try.prog W = .ok (.slice A' 0 (c - i)) W := by
    refine ⟨if c = i then A else A.map (·.add (i * 1)), fun W => ?_⟩
    rw [run_slice_lh (P := Try.prog) W 23 A l.length c Try.underlying23 .i64 .i64 (i : Int) (i : Int) (by omega) (Int.le_refl _) (by omega)]
    simp [sliced, Result.andThen, Try.sizeOf5, Program.elem, Try.underlying23]
  unfold maxLen at hl
  have hn2 : decide ((l.length : Int) - i < 0) = false := by simp; omega
  go_enter Try.func17, Try.ntmps17
  go_wp2_with (go_at_call 26; refine (hplace _).mono ?_; rintro e w' ⟨rfl, rfl⟩)
  go_loop [30] (fun j => j = .int .i64 0) (fun _ => 0)
  case atStart => rfl
  case round =>
    subst hrel
    go_wp2
    go_ret
    exact ⟨rfl, rfl⟩

theorem Zero_some (l : List UInt8) (b off c i n : Nat) (w : World) (hl : l.length ≤ maxLen) (hlc : l.length ≤ c) (hn : 0 < n) (hin : i + n ≤ l.length)
    (hcell : ∀ j (h : j < l.length), w.cell? ⟨b, off + j, none⟩ = some (.int .u8 (l[j].toNat : Int))) :
    Calls Try.prog 17 #[.slice (some ⟨b, off, none⟩) l.length c, .int .i64 i, .int .i64 n] w fun e W' => e = .returned (.int .i64 (zres (allZ l i n))) ∧ w = W' := by
  have hplace : ∀ W, Calls Try.prog 26 #[.slice (some ⟨b, off, none⟩) l.length c, .int .i64 i] W fun e w' => e = .returned (.bool true) ∧ W = w' := fun W => by
    have := isPlace_any (some ⟨b, off, none⟩) l.length c i W hl
    rwa [show placeB l.length i = true by simp [placeB]; omega] at this
  have hsl : ∀ W, (Instr.slice 23 (.slice (some ⟨b, off, none⟩) l.length c) (some (.int .i64 (i : Int))) (some (.int .i64 ((i : Int) + (n : Int)))) none).run Try.prog W = .ok (.slice (some ⟨b, off + i, none⟩) n (c - i)) W := fun W => by
    have h := Lib.run_slice_window (P := Try.prog) W 23 5 Try.underlying23 (fun w => Try.sizeOf5 w) b off l.length c i (i + n) (by omega) (by omega)
    rw [show i + n - i = n by omega] at h
    rw [← h]
    rfl
  unfold maxLen at hl
  have hn2 : decide ((l.length : Int) - i < n) = false := by simp; omega
  have hn1 : ¬ ((l.length : Int) - i < n) := by omega
  have hsum : (i : Int) + (n : Int) ≤ l.length := by omega
  have hc0 : ∀ j, j < n → w.cell? ⟨b, off + i + j, none⟩ = some (.int .u8 (byteAt l (i + j))) := fun j hj => by
    rw [Nat.add_assoc]; exact rd_cell hcell _ (by omega)
  have HC := Lib.hid hc0
  clear hc0 hcell
  go_enter Try.func17, Try.ntmps17
  go_wp2_with (go_at_call 26; refine (hplace _).mono ?_; rintro e w' ⟨rfl, rfl⟩)
  go_loop [30] (fun j => ∃ k : Nat, k ≤ n ∧ j = .int .i64 k ∧ Hid (∀ q, q < k → byteAt l (i + q) = 0)) (fun j => n - (intOf j).toNat)
  case atStart => exact ⟨0, Nat.zero_le _, rfl, Lib.hid fun q hq => by omega⟩
  case round =>
    obtain ⟨k, hk, rfl, HQ⟩ := hrel
    by_cases hlt : k < n
    · have hc1 := HC.out k hlt
      by_cases hz : byteAt l (i + k) = 0
      · rw [hz] at hc1
        have HZ := Lib.hid hz
        clear hz
        go_wp2
        go_round
        case rel => exact ⟨k + 1, by omega, by go_num, Lib.hid fun q hq => by
          rcases Nat.lt_or_ge q k with h | h
          · exact HQ.out q h
          · rw [show q = k by omega]; exact HZ.out⟩
        case measure => simp [intOf]; omega
      · have hb1 : (byteAt l (i + k) != 0) = true := by simpa using hz
        have HF := Lib.hid (allZ_false (l := l) (i := i) (n := n) k hlt hz)
        generalize byteAt l (i + k) = v at *
        clear hz
        go_wp2
        go_ret
        exact ⟨by rw [HF.out]; rfl, rfl⟩
    · obtain rfl : k = n := by omega
      go_wp2
      go_ret
      exact ⟨by rw [allZ_true (l := l) (i := i) (n := k) (fun q hq => HQ.out q hq)]; rfl, rfl⟩

theorem Zero_any (l : List UInt8) (A : Option Addr) (c : Nat) (i n : Int) (w : World) (hl : l.length ≤ maxLen) (hlc : l.length ≤ c) (hr : Rd w A l) :
    Calls Try.prog 17 #[.slice A l.length c, .int .i64 i, .int .i64 n] w fun e W' => e = .returned (.int .i64 (zeroV l i n)) ∧ w = W' := by
  unfold zeroV
  by_cases h1 : placeB l.length i = false ∨ n < 0
  · rw [if_pos h1]
    exact Zero_arg l A c i n w hl h1
  · rw [if_neg h1]
    have hp : placeB l.length i = true := by
      rcases h : placeB l.length i with _ | _
      · exact absurd (.inl h) h1
      · rfl
    have hn : 0 ≤ n := by
      rcases Int.lt_or_le n 0 with h | h
      · exact absurd (.inr h) h1
      · exact h
    by_cases h2 : (l.length : Int) - i < n
    · rw [if_pos h2]
      exact Zero_short l A c i n w hl hp hn h2
    · rw [if_neg h2]
      obtain ⟨hi0, hi1⟩ := place_iff.1 hp
      obtain ⟨i, rfl⟩ := Int.eq_ofNat_of_zero_le hi0
      obtain ⟨n, rfl⟩ := Int.eq_ofNat_of_zero_le hn
      simp only [Int.toNat_natCast]
      rcases Nat.eq_zero_or_pos n with rfl | hn0
      · exact Zero_none l A c i w hl hlc (by omega)
      · rcases hr with rfl | ⟨b, off, rfl, hcell⟩
        · simp at h2 hi1; omega
        · exact Zero_some l b off c i n w hl hlc hn0 (by omega) hcell

end Go.Proofs.Ytdlpnndoifdamaa
