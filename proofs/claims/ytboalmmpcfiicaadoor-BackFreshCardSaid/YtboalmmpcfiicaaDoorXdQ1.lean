/- The reference of layer 9. -/
import Derived.Test.YtboalmmpcfiicaaDoorNPutOwn
import Derived.Test.YtboalmmpcfiicaaDoorXd4
namespace Go.Proofs.YtboalmmpcfiicaaDoor
open Go.RowKit Go.Shelf
set_option linter.unusedVariables false
set_option maxRecDepth 100000
set_option linter.unusedSimpArgs false

theorem rNum4 (n : Nat) (h : n < 4294967296) (w : World) : Calls Tryd.prog 53 #[.int .u64 (n : Int), .int .i64 4] w fun e W' => PutOwn (n : Int) 4 w e W' := PutRefO_ok (n : Int) 4 (by decide) (by omega) (by omega) w (fits4 n h)
theorem rNum8 (n : Nat) (h : n < 18446744073709551616) (w : World) : Calls Tryd.prog 53 #[.int .u64 (n : Int), .int .i64 8] w fun e W' => PutOwn (n : Int) 8 w e W' := PutRefO_ok (n : Int) 8 (by decide) (by omega) (by omega) w (fits8 n h)
/-- bytes of the call's own -/
def OwnB (l : List UInt8) (w : World) (e : Ending) (w' : World) : Prop := ∃ v, e = .returned v ∧ w'.ownsRow w.heap.size 5 1 v l.length (cellsOf l) ∧ Below w.heap.size w w'
theorem qNumber (n : Nat) (h : n < 4294967296) (w : World) : Calls Tryd.prog 29 #[.int .u32 (n : Int)] w fun e w' => OwnB (beL (n : Int) 4) w e w' := by
  have hp := rNum4 n h w
  have hn : (n : Int) ≤ 4294967295 := by omega
  have HL := Lib.hid (beL_length (n : Int) 4)
  go_enter Tryd.func29, Tryd.ntmps29
  go_wp2_with fail
  refine hp.mono ?_
  clear hp
  rintro e w1 ⟨v, rfl, ho, hb⟩
  obtain ⟨A, N, c, rfl, -⟩ := own_slice ho
  have HO := Lib.hid ho
  have HB := Lib.hid hb
  clear ho hb
  go_wp2_with fail
  go_ret
  exact ⟨_, rfl, by rw [HL.out]; exact HO.out, HB.out⟩
theorem qGreat (n : Nat) (h : n < 18446744073709551616) (w : World) : Calls Tryd.prog 30 #[.int .u64 (n : Int)] w fun e w' => OwnB (beL (n : Int) 8) w e w' := by
  have hp := rNum8 n h w
  have HL := Lib.hid (beL_length (n : Int) 8)
  go_enter Tryd.func30, Tryd.ntmps30
  go_wp2_with fail
  refine hp.mono ?_
  clear hp
  rintro e w1 ⟨v, rfl, ho, hb⟩
  obtain ⟨A, N, c, rfl, -⟩ := own_slice ho
  have HO := Lib.hid ho
  have HB := Lib.hid hb
  clear ho hb
  go_wp2_with fail
  go_ret
  exact ⟨_, rfl, by rw [HL.out]; exact HO.out, HB.out⟩
theorem qTruth (b : Bool) (w : World) : Calls Tryd.prog 31 #[.bool b] w fun e w' => OwnB (truthX b) w e w' := by
  have h0 := qNumber 0 (by decide) w
  have h1 := qNumber 1 (by decide) w
  cases b
  · change Calls _ _ _ _ fun e w' => OwnB (truthX false) w e w' at h0
    generalize truthX false = x at *
    go_enter Tryd.func31, Tryd.ntmps31
    go_wp2_with fail
    refine h0.mono ?_
    rintro e w1 ⟨v, rfl, ho, hb⟩
    obtain ⟨A, N, c, rfl, -⟩ := own_slice ho
    have HO := Lib.hid ho
    have HB := Lib.hid hb
    clear ho hb h0 h1
    go_wp2_with fail
    go_ret
    exact ⟨_, rfl, HO.out, HB.out⟩
  · change Calls _ _ _ _ fun e w' => OwnB (truthX true) w e w' at h1
    generalize truthX true = x at *
    go_enter Tryd.func31, Tryd.ntmps31
    go_wp2_with fail
    refine h1.mono ?_
    rintro e w1 ⟨v, rfl, ho, hb⟩
    obtain ⟨A, N, c, rfl, -⟩ := own_slice ho
    have HO := Lib.hid ho
    have HB := Lib.hid hb
    clear ho hb h0 h1
    go_wp2_with fail
    go_ret
    exact ⟨_, rfl, HO.out, HB.out⟩
/-- a round of the reference's Bytes -/
def QbRel (w : World) (x : List UInt8) (p : Nat) (v i : Value) (wr : World) : Prop := ∃ k : Nat, k ≤ p ∧ i = .int .i64 (k : Int) ∧ wr.ownsRow w.heap.size 5 1 v (x ++ List.replicate k 0).length (cellsOf (x ++ List.replicate k 0)) ∧ Below w.heap.size w wr
set_option maxHeartbeats 2000000 in
theorem qBytes (l : List UInt8) (A : Option Addr) (c : Nat) (w : World) (hn : l.length < 4294967296) (hr : Rd w A l) (hA : A = none → l = [] ∧ c = 0) : Calls Tryd.prog 32 #[.slice A l.length c] w fun e w' => OwnB (bytesX l) w e w' := by
  have hp := qNumber l.length hn w
  have hpad := PadRef_nat l.length (by omega)
  have hp4 := padN_lt l.length
  have hn' : (l.length : Int) ≤ 4294967295 := by omega
  have HL := Lib.hid (beL_length (l.length : Int) 4)
  have hX : bytesX l = beL (l.length : Int) 4 ++ l ++ List.replicate (padN l.length) 0 := rfl
  rw [hX]
  clear hX
  generalize beL (l.length : Int) 4 = y at *
  generalize padN l.length = p at *
  obtain ⟨x, hx⟩ : ∃ x, x = y ++ l := ⟨_, rfl⟩
  have hxl : x.length ≤ 4294967299 := by rw [hx, List.length_append, HL.out]; omega
  rw [← hx]
  have HXL := Lib.hid hxl
  have HX := Lib.hid hx
  clear hx hxl
  have HR := Lib.hid hr
  have HA := Lib.hid hA
  clear hr hA
  go_enter Tryd.func32, Tryd.ntmps32
  go_wp2_with fail
  refine hp.mono ?_
  clear hp
  rintro e w1 ⟨v, rfl, ho, hb⟩
  obtain ⟨A1, N1, c1, rfl, -⟩ := own_slice ho
  have HO := Lib.hid ho
  have HB := Lib.hid hb
  clear ho hb
  go_wp2_with (at_builtin; refine append_to rfl (.tmp 9) (.tmp 10) rfl w.heap.size _ _ _ rfl HO.out A l l.length c rfl rfl (HR.out.below HB.out) HA.out (by rw [HL.out]; omega) HB.out.size ?_; intro v2 w2 ho2 hg2 hto2; obtain ⟨A2, N2, c2, rfl, -⟩ := own_slice ho2; have HO2 := Lib.hid ho2; have HB2 := Lib.hid (below_own HB.out hg2 HO.out (Nat.le_refl _) HB.out.size); clear ho2 hg2 hto2)
  have HOX : Hid (w2.ownsRow w.heap.size 5 1 (.slice A2 N2 c2) x.length (cellsOf x)) := Lib.hid (by rw [HX.out, List.length_append]; exact HO2.out)
  go_loopw [3, 4] (fun v i wr => QbRel w x p v i wr) (fun _ i _ => p - (intOf i).toNat)
  case atStart => exact ⟨0, Nat.zero_le _, rfl, by simpa using HOX.out, HB2.out⟩
  case round =>
    obtain ⟨k, hk, rfl, hown, hb⟩ := hrel
    obtain ⟨A3, N3, c3, rfl, -⟩ := own_slice hown
    have K3 := Lib.hid hown
    have B3 := Lib.hid hb
    clear hown hb
    by_cases hlt : k < p
    · have hlt' : (k : Int) < (p : Int) := by omega
      have hc0 := Cs.new wr 5 #[.int .u8 0]
      have hr0 := Lib.hid (rd_cs (l := [0]) hc0 rfl)
      have hle := Lib.hid (show (x ++ List.replicate k 0).length + 1 ≤ 140737488355328 by rw [List.length_append, List.length_replicate]; have := HXL.out; omega)
      clear hc0
      go_wp2_with fail
      refine (hpad _).mono ?_
      rintro e w' ⟨rfl, rfl⟩
      go_wp2_with (at_builtin; refine append_to rfl (.tmp 19) (.tmp 20) rfl w.heap.size _ _ _ rfl (K3.out.alloc _) (some ⟨wr.heap.size, 0, none⟩) [0] 1 1 rfl rfl hr0.out (fun h => by cases h) hle.out (by have := B3.out.size; simp; omega) ?_; intro v4 w4 ho4 hg4 hto4; obtain ⟨A4, N4, c4, rfl, -⟩ := own_slice ho4; have HO4 := Lib.hid ho4; have HB4 := Lib.hid (below_own (below_new B3.out _) hg4 (K3.out.alloc _) (Nat.le_refl _) (by have := B3.out.size; simp; omega)); clear ho4 hg4 hto4)
      go_roundw
      case rel =>
        refine ⟨k + 1, by omega, by go_num, ?_, HB4.out⟩
        have e1 : x ++ List.replicate (k + 1) 0 = (x ++ List.replicate k 0) ++ [0] := by rw [List.replicate_succ', List.append_assoc]
        rw [e1, List.length_append]
        exact HO4.out
      case measure => simp [intOf]; omega
    · obtain rfl : k = p := by omega
      go_wp2_with fail
      refine (hpad _).mono ?_
      rintro e w' ⟨rfl, rfl⟩
      go_wp2_with fail
      go_ret
      exact ⟨_, rfl, K3.out, B3.out⟩

end Go.Proofs.YtboalmmpcfiicaaDoor
