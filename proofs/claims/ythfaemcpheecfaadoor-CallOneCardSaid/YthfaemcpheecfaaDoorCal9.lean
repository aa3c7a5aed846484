/- A whole call through a reader; Get. -/
import Derived.Test.YthfaemcpheecfaaDoorCal8
namespace Go.Proofs.YthfaemcpheecfaaDoor
open Go.RowKit Go.Shelf
set_option linter.unusedVariables false
set_option maxRecDepth 100000
set_option linter.unusedSimpArgs false

/-- the head of a call as it is told into its cells: what does not fit a byte is the greatest that does -/
def fitC (s : RS) : CallX := { calZero with client := min (numR s 4).1.toNat 255, inc := (numR (numR s 4).2 4).1.toNat, seq := (numR (numR (numR s 4).2 4).2 8).1.toNat, kind := min (numR (numR (numR (numR s 4).2 4).2 8).2 4).1.toNat 255 }
/-- the reader behind the head -/
def headRS (s : RS) : RS := (numR (numR (numR (numR s 4).2 4).2 8).2 4).2
/-- what pass answers, the call, the reader -/
def passR (s : RS) : Int × CallX × RS :=
  if (headRS s).err ≠ 0 then ((headRS s).err, fitC s, headRS s)
  else if kindX (fitC s).kind = false then (5, fitC s, headRS s)
  else ((tellL 4096 (restS (kRow (fitC s).kind)) (headRS s)).2.err, restC (fitC s).kind (fitC s) (tellL 4096 (restS (kRow (fitC s).kind)) (headRS s)).1, (tellL 4096 (restS (kRow (fitC s).kind)) (headRS s)).2)
set_option maxHeartbeats 8000000 in
theorem pass_g {w : World} {rb cb : Nat} {F : Nat → Prop} {s : RS} (h : GetS rb cb F w s calZero w) (hlen : s.all.length ≤ 140737488355328) :
    Calls Tryd.prog 21 #[sideR rb, .pointer (some ⟨cb, 0, none⟩)] w fun e w' => e = .returned (.int .i64 (passR s).1) ∧ GetS rb cb F w (passR s).2.2 (passR s).2.1 w' := by
  have HS0 := Lib.hid h
  have HRO := Lib.hid fun u => rowOf_v (fitC s).kind u
  have HRP := Lib.hid fun u (hs : GetS rb cb F w (headRS s) (fitC s) u) => rowPass_g (fitC s).kind hs (by unfold headRS; simp only [numR_all]; exact hlen) (by show (0 : Nat) ≤ 100; decide) (by show (0 : Nat) ≤ 100; decide)
  have HFC := Lib.hid (show fitC s = { calZero with client := min (numR s 4).1.toNat 255, inc := (numR (numR s 4).2 4).1.toNat, seq := (numR (numR (numR s 4).2 4).2 8).1.toNat, kind := min (numR (numR (numR (numR s 4).2 4).2 8).2 4).1.toNat 255 } from rfl)
  have HHD := Lib.hid (show headRS s = (numR (numR (numR (numR s 4).2 4).2 8).2 4).2 from rfl)
  have e1 := rd_error
  have hres : passR s = if (headRS s).err ≠ 0 then ((headRS s).err, fitC s, headRS s)
  else if kindX (fitC s).kind = false then (5, fitC s, headRS s)
  else ((tellL 4096 (restS (kRow (fitC s).kind)) (headRS s)).2.err, restC (fitC s).kind (fitC s) (tellL 4096 (restS (kRow (fitC s).kind)) (headRS s)).1, (tellL 4096 (restS (kRow (fitC s).kind)) (headRS s)).2) := rfl
  rw [hres]
  clear h hlen hres
  generalize fitC s = c4 at *
  generalize headRS s = s4 at *
  obtain ⟨k, hk⟩ : ∃ k, k = c4.kind := ⟨_, rfl⟩
  rw [← hk] at HRO HRP ⊢
  have HK := Lib.hid hk
  clear hk
  unfold sideR
  by_cases he : s4.err = 0
  · rw [if_neg (by simpa using he)]
    rcases hkx : kindX k with _ | _
    · rw [if_pos rfl]
      rw [hkx] at HRO
      generalize hrow : kRow k = r at HRO
      obtain ⟨ro, rs, rn, rt, rd⟩ := r
      unfold kCells at HRO
      dsimp only at HRO
      have HKX := Lib.hid hkx
      have HROW := Lib.hid hrow
      have HE := Lib.hid he
      clear hkx hrow he
      go_enter Tryd.func21, Tryd.ntmps21
      go_wp2_with fail
      obtain ⟨u0, hc, hv⟩ := HS0.out.2.1
      refine (small_g (pb := cb) (i := 0) 0 (by decide) HS0.out.1 hc rfl HS0.out.2.2.2.1.1 HS0.out.2.2.2.2.1).mono ?_
      rintro e w1 hq
      have hs : GetS rb cb F w (numR s 4).2 ({ calZero with client := min (numR s 4).1.toNat 255 }) w1 := HS0.out.got hv hq rfl rfl
      obtain ⟨rfl, -⟩ := hq
      have HS1 := Lib.hid hs
      clear hs hc hv
      go_wp2_with fail
      obtain ⟨u1, hc, hv⟩ := HS1.out.2.1
      refine (number_g (pb := cb) (i := 1) HS1.out.1 hc (by simp [calCells]) HS1.out.2.2.2.1.1 (fun hh => (HS1.out.2.2.2.2.1 _ hh).1 rfl)).mono ?_
      rintro e w2 hq
      have hs : GetS rb cb F w (numR (numR s 4).2 4).2 ({ calZero with client := min (numR s 4).1.toNat 255, inc := (numR (numR s 4).2 4).1.toNat }) w2 := HS1.out.got hv hq rfl rfl
      obtain ⟨rfl, -⟩ := hq
      have HS2 := Lib.hid hs
      clear hs hc hv
      go_wp2_with fail
      obtain ⟨u2, hc, hv⟩ := HS2.out.2.1
      refine (great_g (pb := cb) (i := 2) HS2.out.1 hc (by simp [calCells]) HS2.out.2.2.2.1.1 (fun hh => (HS2.out.2.2.2.2.1 _ hh).1 rfl)).mono ?_
      rintro e w3 hq
      have hs : GetS rb cb F w (numR (numR (numR s 4).2 4).2 8).2 ({ calZero with client := min (numR s 4).1.toNat 255, inc := (numR (numR s 4).2 4).1.toNat, seq := (numR (numR (numR s 4).2 4).2 8).1.toNat }) w3 := HS2.out.got hv hq rfl rfl
      obtain ⟨rfl, -⟩ := hq
      have HS3 := Lib.hid hs
      clear hs hc hv
      go_wp2_with fail
      obtain ⟨u3, hc, hv⟩ := HS3.out.2.1
      refine (small_g (pb := cb) (i := 3) 0 (by decide) HS3.out.1 hc rfl HS3.out.2.2.2.1.1 (fun k hk => ⟨(HS3.out.2.2.2.2.1 k hk).1, Nat.lt_of_lt_of_le (HS3.out.2.2.2.2.1 k hk).2 HS3.out.2.2.2.2.2⟩)).mono ?_
      rintro e w4 hq
      have hs : GetS rb cb F w s4 c4 w4 := by rw [HHD.out, HFC.out]; exact HS3.out.got hv hq rfl rfl
      obtain ⟨rfl, -⟩ := hq
      have HS4 := Lib.hid hs
      clear hs hc hv HS0 HS1 HS2 HS3
      have HER := Lib.hid (Error_r HS4.out.1)
      have k3 : w4.cell? ⟨cb, 3, none⟩ = some (.int .u8 (k : Int)) := by
        obtain ⟨u, hc, -⟩ := HS4.out.2.1
        rw [HK.out]; exact hc.cell 3 rfl
      rw [HE.out] at HER
      go_wp2_with fail
      refine HER.out.mono ?_
      rintro e w5 ⟨rfl, rfl⟩
      go_wp2_with fail
      refine (HRO.out _).mono ?_
      rintro e w6 ⟨rfl, hb⟩
      have HS6 := Lib.hid ((HS4.out.below hb).below (below_new1 w6 (.cells #[.int .u32 (ro : Int), .int .u32 (rs : Int), .bool rn, .bool rt, .bool rd] 66)))
      clear hb
      go_wp2_with fail
      go_ret
      exact ⟨rfl, HS6.out⟩
    · rw [if_neg (by decide)]
      rw [hkx] at HRO
      generalize (tellL 4096 (restS (kRow k)) s4) = tr at *
      generalize hrow : kRow k = r at HRO HRP
      obtain ⟨ro, rs, rn, rt, rd⟩ := r
      unfold kCells at HRO HRP
      dsimp only at HRO HRP
      have HKX := Lib.hid hkx
      have HROW := Lib.hid hrow
      have HE := Lib.hid he
      clear hkx hrow he
      go_enter Tryd.func21, Tryd.ntmps21
      go_wp2_with fail
      obtain ⟨u0, hc, hv⟩ := HS0.out.2.1
      refine (small_g (pb := cb) (i := 0) 0 (by decide) HS0.out.1 hc rfl HS0.out.2.2.2.1.1 HS0.out.2.2.2.2.1).mono ?_
      rintro e w1 hq
      have hs : GetS rb cb F w (numR s 4).2 ({ calZero with client := min (numR s 4).1.toNat 255 }) w1 := HS0.out.got hv hq rfl rfl
      obtain ⟨rfl, -⟩ := hq
      have HS1 := Lib.hid hs
      clear hs hc hv
      go_wp2_with fail
      obtain ⟨u1, hc, hv⟩ := HS1.out.2.1
      refine (number_g (pb := cb) (i := 1) HS1.out.1 hc (by simp [calCells]) HS1.out.2.2.2.1.1 (fun hh => (HS1.out.2.2.2.2.1 _ hh).1 rfl)).mono ?_
      rintro e w2 hq
      have hs : GetS rb cb F w (numR (numR s 4).2 4).2 ({ calZero with client := min (numR s 4).1.toNat 255, inc := (numR (numR s 4).2 4).1.toNat }) w2 := HS1.out.got hv hq rfl rfl
      obtain ⟨rfl, -⟩ := hq
      have HS2 := Lib.hid hs
      clear hs hc hv
      go_wp2_with fail
      obtain ⟨u2, hc, hv⟩ := HS2.out.2.1
      refine (great_g (pb := cb) (i := 2) HS2.out.1 hc (by simp [calCells]) HS2.out.2.2.2.1.1 (fun hh => (HS2.out.2.2.2.2.1 _ hh).1 rfl)).mono ?_
      rintro e w3 hq
      have hs : GetS rb cb F w (numR (numR (numR s 4).2 4).2 8).2 ({ calZero with client := min (numR s 4).1.toNat 255, inc := (numR (numR s 4).2 4).1.toNat, seq := (numR (numR (numR s 4).2 4).2 8).1.toNat }) w3 := HS2.out.got hv hq rfl rfl
      obtain ⟨rfl, -⟩ := hq
      have HS3 := Lib.hid hs
      clear hs hc hv
      go_wp2_with fail
      obtain ⟨u3, hc, hv⟩ := HS3.out.2.1
      refine (small_g (pb := cb) (i := 3) 0 (by decide) HS3.out.1 hc rfl HS3.out.2.2.2.1.1 (fun k hk => ⟨(HS3.out.2.2.2.2.1 k hk).1, Nat.lt_of_lt_of_le (HS3.out.2.2.2.2.1 k hk).2 HS3.out.2.2.2.2.2⟩)).mono ?_
      rintro e w4 hq
      have hs : GetS rb cb F w s4 c4 w4 := by rw [HHD.out, HFC.out]; exact HS3.out.got hv hq rfl rfl
      obtain ⟨rfl, -⟩ := hq
      have HS4 := Lib.hid hs
      clear hs hc hv HS0 HS1 HS2 HS3
      have HER := Lib.hid (Error_r HS4.out.1)
      have k3 : w4.cell? ⟨cb, 3, none⟩ = some (.int .u8 (k : Int)) := by
        obtain ⟨u, hc, -⟩ := HS4.out.2.1
        rw [HK.out]; exact hc.cell 3 rfl
      rw [HE.out] at HER
      go_wp2_with fail
      refine HER.out.mono ?_
      rintro e w5 ⟨rfl, rfl⟩
      go_wp2_with fail
      refine (HRO.out _).mono ?_
      rintro e w6 ⟨rfl, hb⟩
      have HS6 := Lib.hid (HS4.out.below hb)
      clear hb
      go_wp2_with fail
      refine (HRP.out _ (HS6.out.below (below_new1 w6 _))).mono ?_
      rintro e w7 ⟨rfl, hs⟩
      have HER7 := Lib.hid (Error_r hs.1)
      have HS7 := Lib.hid hs
      clear hs
      go_wp2_with fail
      refine HER7.out.mono ?_
      rintro e w8 ⟨rfl, rfl⟩
      go_wp2_with fail
      go_ret
      exact ⟨rfl, HS7.out⟩
  · rw [if_pos he]
    have hne : (s4.err != 0) = true := by simpa using he
    have heq : (s4.err == 0) = false := by simpa using he
    have HEN := Lib.hid he
    clear he
    go_enter Tryd.func21, Tryd.ntmps21
    go_wp2_with fail
    obtain ⟨u0, hc, hv⟩ := HS0.out.2.1
    refine (small_g (pb := cb) (i := 0) 0 (by decide) HS0.out.1 hc rfl HS0.out.2.2.2.1.1 HS0.out.2.2.2.2.1).mono ?_
    rintro e w1 hq
    have hs : GetS rb cb F w (numR s 4).2 ({ calZero with client := min (numR s 4).1.toNat 255 }) w1 := HS0.out.got hv hq rfl rfl
    obtain ⟨rfl, -⟩ := hq
    have HS1 := Lib.hid hs
    clear hs hc hv
    go_wp2_with fail
    obtain ⟨u1, hc, hv⟩ := HS1.out.2.1
    refine (number_g (pb := cb) (i := 1) HS1.out.1 hc (by simp [calCells]) HS1.out.2.2.2.1.1 (fun hh => (HS1.out.2.2.2.2.1 _ hh).1 rfl)).mono ?_
    rintro e w2 hq
    have hs : GetS rb cb F w (numR (numR s 4).2 4).2 ({ calZero with client := min (numR s 4).1.toNat 255, inc := (numR (numR s 4).2 4).1.toNat }) w2 := HS1.out.got hv hq rfl rfl
    obtain ⟨rfl, -⟩ := hq
    have HS2 := Lib.hid hs
    clear hs hc hv
    go_wp2_with fail
    obtain ⟨u2, hc, hv⟩ := HS2.out.2.1
    refine (great_g (pb := cb) (i := 2) HS2.out.1 hc (by simp [calCells]) HS2.out.2.2.2.1.1 (fun hh => (HS2.out.2.2.2.2.1 _ hh).1 rfl)).mono ?_
    rintro e w3 hq
    have hs : GetS rb cb F w (numR (numR (numR s 4).2 4).2 8).2 ({ calZero with client := min (numR s 4).1.toNat 255, inc := (numR (numR s 4).2 4).1.toNat, seq := (numR (numR (numR s 4).2 4).2 8).1.toNat }) w3 := HS2.out.got hv hq rfl rfl
    obtain ⟨rfl, -⟩ := hq
    have HS3 := Lib.hid hs
    clear hs hc hv
    go_wp2_with fail
    obtain ⟨u3, hc, hv⟩ := HS3.out.2.1
    refine (small_g (pb := cb) (i := 3) 0 (by decide) HS3.out.1 hc rfl HS3.out.2.2.2.1.1 (fun k hk => ⟨(HS3.out.2.2.2.2.1 k hk).1, Nat.lt_of_lt_of_le (HS3.out.2.2.2.2.1 k hk).2 HS3.out.2.2.2.2.2⟩)).mono ?_
    rintro e w4 hq
    have hs : GetS rb cb F w s4 c4 w4 := by rw [HHD.out, HFC.out]; exact HS3.out.got hv hq rfl rfl
    obtain ⟨rfl, -⟩ := hq
    have HS4 := Lib.hid hs
    clear hs hc hv HS0 HS1 HS2 HS3
    have HER := Lib.hid (Error_r HS4.out.1)
    have k3 : w4.cell? ⟨cb, 3, none⟩ = some (.int .u8 (k : Int)) := by
      obtain ⟨u, hc, -⟩ := HS4.out.2.1
      rw [HK.out]; exact hc.cell 3 rfl
    go_wp2_with fail
    refine HER.out.mono ?_
    rintro e w5 ⟨rfl, rfl⟩
    go_wp2_with fail
    go_ret
    exact ⟨rfl, HS4.out⟩

end Go.Proofs.YthfaemcpheecfaaDoor
