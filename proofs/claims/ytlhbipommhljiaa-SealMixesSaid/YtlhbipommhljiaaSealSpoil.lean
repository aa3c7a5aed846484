/- The reference of Put as a whole; Spoil: bytes that were handed back are written over. -/
import Derived.Test.YtlhbipommhljiaaSealRefP
import Derived.Test.YtlhbipommhljiaaSealRefG
namespace Go.Proofs.Ytlhbipommhljiaa
open Go.RowKit Go.Shelf
set_option linter.unusedVariables false
set_option linter.unusedSimpArgs false

theorem RefPut_any (n : Int) (b : List UInt8) (A : Option Addr) (c : Nat) (w : World) (hl : b.length ≤ 281474976710656) (h0 : 0 ≤ n) (h1 : n < 4294967296) (hr : Rd w A b) : Calls Try.prog 8 #[.int .u32 n, .slice A b.length c] w fun e w' =>
    e = .returned (.tuple #[bv (putB n b), .int .i64 (putE n b)]) ∧ Below w.heap.size w w' := by
  unfold putB putE
  by_cases h : 44 < b.length
  · rw [if_pos h, if_neg (by decide)]
    exact RefPut_long n b A c w h hl
  · rw [if_neg h]
    by_cases hz : n = 0
    · subst hz
      rw [if_pos rfl, if_neg (by decide)]
      exact RefPut_zero b A c w (by omega)
    · rw [if_neg hz, if_pos rfl]
      exact RefPut_main n b A c w (by omega) (by omega) h1 hr
theorem OwnCur.set {w : World} {B g : Nat} {l : List UInt8} (h : OwnCur w B g l) (k : Nat) (c : UInt8) : OwnCur (w.setCell ⟨g, k, none⟩ (.int .u8 (c.toNat : Int))) B g (l.set k c) := by
  obtain ⟨hb, cur, hc, ht⟩ := h
  refine ⟨hb, _, hc.set k (.int .u8 (c.toNat : Int)), ?_⟩
  rw [Array.toList_setIfInBounds, List.length_set, List.take_set, ht]
  simp [cellsOf, List.map_set]
theorem Spoil_nil (by' : Int) (w : World) : Calls Try.prog 13 #[.slice none 0 0, .int .u8 by'] w fun e w' => (∃ v, e = .returned v) ∧ w = w' := by
  go_enter Try.func13, Try.ntmps13
  go_wp2
  go_loop [5] (fun i => i = .int .i64 0) (fun _ => 0)
  case atStart => rfl
  case round =>
    obtain rfl := hrel
    go_wp2
    go_end0
    exact ⟨⟨_, rfl⟩, rfl⟩
set_option maxHeartbeats 1000000 in
theorem Spoil_own (g : Nat) (l : List UInt8) (w0 w : World) (hl : l.length = 44) (ho : OwnCur w w0.heap.size g l) (hb : Below w0.heap.size w0 w) : Calls Try.prog 13 #[.slice (some ⟨g, 0, none⟩) 44 44, .int .u8 3] w fun e w' => (∃ v, e = .returned v) ∧ Below w0.heap.size w0 w' := by
  have HG := Lib.hid ho.1
  have HO := Lib.hid ho
  have HB := Lib.hid hb
  have HL := Lib.hid hl
  clear ho hb hl
  go_enter Try.func13, Try.ntmps13
  go_wp2
  go_loopw [5] (fun i wr => ∃ (k : Nat) (m : List UInt8), k ≤ 44 ∧ i = .int .i64 (k : Int) ∧ m.length = 44 ∧ OwnCur wr w0.heap.size g m ∧ Below w0.heap.size w0 wr) (fun i _ => 44 - (intOf i).toNat)
  case atStart => exact ⟨0, l, by decide, rfl, HL.out, HO.out, HB.out⟩
  case round =>
    obtain ⟨k, m, hk, rfl, hm, ho, hb⟩ := hrel
    have HM := Lib.hid hm
    have HO2 := Lib.hid ho
    have HB2 := Lib.hid hb
    clear ho hb HO HB
    by_cases hlt : k < 44
    · have hlt' : (k : Int) < 44 := by omega
      have hL := Lib.hid hlt
      have hkm : k < m.length := by omega
      obtain ⟨xk, hxk⟩ : ∃ xk : UInt8, xk = m[k] ^^^ 3 := ⟨_, rfl⟩
      obtain ⟨mv, hmv⟩ : ∃ mv : Nat, mv = m[k].toNat := ⟨_, rfl⟩
      have hxor : bits .xor .u8 (mv : Int) 3 = ((xk.toNat : Nat) : Int) := by
        have := u8_xor_nat m[k].toNat 3 (u8_lt _) (by decide)
        rw [show ((3 : Nat) : Int) = 3 from rfl] at this
        rw [hmv, hxk, this, UInt8.toNat_xor]
        rfl
      have e1 := rd_cellD HO2.out.rd (r := k) hkm
      rw [← getD_get hkm, ← hmv] at e1
      obtain ⟨_, cur, hc, _⟩ := HO2.out
      have f1 := hc.frozen k
      have HX := Lib.hid hxor
      have HN := Lib.hid (HO2.out.set k xk)
      have hmk : (mv : Int) ≤ 255 := by have := u8_lt m[k]; omega
      clear hxk hmv hkm
      clear hc hxor hlt hk hm
      go_wp2
      go_roundw
      case rel => exact ⟨k + 1, m.set k xk, by have := hL.out; omega, by go_num, by rw [List.length_set]; exact HM.out, by rw [HX.out]; exact HN.out, HB2.out.setCell (p := ⟨g, k, none⟩) HG.out _⟩
      case measure => simp [intOf]; have := hL.out; omega
    · obtain rfl : k = 44 := by omega
      rw [show ((44 : Nat) : Int) = 44 from rfl]
      go_wp2
      go_end0
      exact ⟨⟨_, rfl⟩, HB2.out⟩

end Go.Proofs.Ytlhbipommhljiaa
