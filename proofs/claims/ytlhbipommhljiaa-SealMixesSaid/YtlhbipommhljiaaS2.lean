/- sum.More, sum.Of, and their references. -/
import Derived.Test.YtlhbipommhljiaaS1
namespace Go.Proofs.Ytlhbipommhljiaa
open Go.RowKit Go.Shelf
set_option linter.unusedVariables false

theorem rd_at {W : World} {A : Option Addr} {l : List UInt8} (h : Rd W A l) (k : Nat) (hk : k < l.length) : ∃ b off, A = some ⟨b, off, none⟩ ∧ W.cell? ⟨b, off + k, none⟩ = some (.int .u8 (l[k].toNat : Int)) := by
  rcases h with rfl | ⟨b, off, rfl, hc⟩
  · simp at hk
  · exact ⟨b, off, rfl, hc k hk⟩
set_option maxHeartbeats 400000 in
theorem More_any (s : Nat) (hs : s < 4294967296) (l : List UInt8) (A : Option Addr) (c : Nat) (w : World) (hl : l.length ≤ 281474976710656) (hr : Rd w A l) :
    Calls Try.prog 34 #[.int .u32 (s : Int), .slice A l.length c] w fun e w' => e = .returned (.int .u32 (moreN s l : Nat)) ∧ w = w' := by
  have HR := Lib.hid (fun k hk => rd_at hr k hk)
  have HS := Lib.hid hs
  clear hr hs
  go_enter Try.func34, Try.ntmps34
  go_wp2
  go_loop [0, 9] (fun t i => ∃ k : Nat, k ≤ l.length ∧ i = .int .i64 (k : Int) ∧ t = .int .u32 (moreN s (l.take k) : Nat)) (fun _ i => l.length - (intOf i).toNat)
  case atStart => exact ⟨0, Nat.zero_le _, rfl, by rw [List.take_zero, moreN_nil]⟩
  case round =>
    obtain ⟨k, hk, rfl, rfl⟩ := hrel
    by_cases hlt : k < l.length
    · obtain ⟨b, off, rfl, hc1⟩ := HR.out k hlt
      have HSN := Lib.hid (moreN_snoc s l k hlt)
      have hcall := Take_any (moreN s (l.take k)) l[k].toNat (moreN_lt _ _ HS.out) (byte_toNat_lt l k hlt)
      generalize moreN s (l.take k) = m at *
      generalize l[k].toNat = cc at *
      go_wp2_with fail
      refine (hcall _).mono ?_
      clear hcall
      rintro e _ ⟨rfl, rfl⟩
      go_wp2
      go_round
      case rel => exact ⟨k + 1, by omega, by go_num, by rw [HSN.out]⟩
      case measure => simp [intOf]; omega
    · obtain rfl : k = l.length := by omega
      rw [List.take_length]
      go_wp2
      go_ret
      exact ⟨rfl, rfl⟩
set_option maxHeartbeats 400000 in
theorem MoreRef_any (s : Nat) (hs : s < 4294967296) (l : List UInt8) (A : Option Addr) (c : Nat) (w : World) (hl : l.length ≤ 281474976710656) (hr : Rd w A l) :
    Calls Try.prog 37 #[.int .u32 (s : Int), .slice A l.length c] w fun e w' => e = .returned (.int .u32 (moreN s l : Nat)) ∧ w = w' := by
  have HR := Lib.hid (fun k hk => rd_at hr k hk)
  have HS := Lib.hid hs
  clear hr hs
  go_enter Try.func37, Try.ntmps37
  go_wp2
  go_loop [0, 5] (fun t i => ∃ k : Nat, k ≤ l.length ∧ i = .int .i64 (k : Int) ∧ t = .int .u32 (moreN s (l.take k) : Nat)) (fun _ i => l.length - (intOf i).toNat)
  case atStart => exact ⟨0, Nat.zero_le _, rfl, by rw [List.take_zero, moreN_nil]⟩
  case round =>
    obtain ⟨k, hk, rfl, rfl⟩ := hrel
    by_cases hlt : k < l.length
    · obtain ⟨b, off, rfl, hc1⟩ := HR.out k hlt
      have HSN := Lib.hid (moreN_snoc s l k hlt)
      have hcall := TakeRef_any (moreN s (l.take k)) l[k].toNat (moreN_lt _ _ HS.out) (byte_toNat_lt l k hlt)
      generalize moreN s (l.take k) = m at *
      generalize l[k].toNat = cc at *
      go_wp2_with fail
      refine (hcall _).mono ?_
      clear hcall
      rintro e _ ⟨rfl, rfl⟩
      go_wp2
      go_round
      case rel => exact ⟨k + 1, by omega, by go_num, by rw [HSN.out]⟩
      case measure => simp [intOf]; omega
    · obtain rfl : k = l.length := by omega
      rw [List.take_length]
      go_wp2
      go_ret
      exact ⟨rfl, rfl⟩
/-- the sum of bytes -/
def ofN (l : List UInt8) : Nat := moreN 2166136261 l
theorem ofN_lt (l : List UInt8) : ofN l < 4294967296 := moreN_lt _ _ (by decide)
theorem Of_any (l : List UInt8) (A : Option Addr) (c : Nat) (w : World) (hl : l.length ≤ 281474976710656) (hr : Rd w A l) :
    Calls Try.prog 35 #[.slice A l.length c] w fun e w' => e = .returned (.int .u32 (ofN l : Nat)) ∧ w = w' := by
  have hm := More_any 2166136261 (by decide) l A c w hl hr
  unfold ofN
  clear hr
  generalize moreN 2166136261 l = r at *
  go_enter Try.func35, Try.ntmps35
  go_wp2_with fail
  refine hm.mono ?_
  rintro e _ ⟨rfl, rfl⟩
  go_wp2
  go_ret
  exact ⟨rfl, rfl⟩
theorem OfRef_any (l : List UInt8) (A : Option Addr) (c : Nat) (w : World) (hl : l.length ≤ 281474976710656) (hr : Rd w A l) :
    Calls Try.prog 38 #[.slice A l.length c] w fun e w' => e = .returned (.int .u32 (ofN l : Nat)) ∧ w = w' := by
  have hm := MoreRef_any 2166136261 (by decide) l A c w hl hr
  unfold ofN
  clear hr
  generalize moreN 2166136261 l = r at *
  go_enter Try.func38, Try.ntmps38
  go_wp2_with fail
  refine hm.mono ?_
  rintro e _ ⟨rfl, rfl⟩
  go_wp2
  go_ret
  exact ⟨rfl, rfl⟩

end Go.Proofs.Ytlhbipommhljiaa
