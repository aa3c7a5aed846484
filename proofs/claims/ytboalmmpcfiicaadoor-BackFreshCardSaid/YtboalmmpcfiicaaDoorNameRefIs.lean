/- The reference of layer 2: Runes, Is. -/
import Derived.Test.YtboalmmpcfiicaaDoorNameRef
namespace Go.Proofs.YtboalmmpcfiicaaDoor
open Go.RowKit Go.Shelf Go.Lib Go.ChangeShapes Go.WideShapes Go.ChangeAt
set_option linter.unusedVariables false

theorem Runes_ref (s : ByteArray) (hs : s.size ≤ 281474976710656) (w : World) :
    Calls Tryd.prog 64 #[.string s] w fun e w' => e = .returned (runesV (L s)) ∧ w = w' := by
  have hpt := fun (i : Nat) (hi : i < s.size) => point_ref s i hi hs
  go_enter Tryd.func64, Tryd.ntmps64
  go_wp2
  go_loopw [4, 5] (fun n j wr => ∃ (k pos : Nat), n = .int .i64 k ∧ j = .int .i64 pos ∧ RunesI s k pos ∧ w = wr) (fun _ j _ => s.size - (RowKit.intOf j).toNat)
  case atStart => exact ⟨0, 0, rfl, rfl, RunesI.start s, rfl⟩
  case round =>
    obtain ⟨k, pos, rfl, rfl, hI, rfl⟩ := hrel
    have hk := hI.2.1
    have hps := hI.2.2
    by_cases hp : pos < s.size
    · have hc := hpt pos hp w
      have hw1 := decL_pos ((L s).drop pos)
      unfold pointV at hc
      cases hb : brkL ((L s).drop pos)
      · have hst := hI.step hp hb
        have hle := hst.2.2
        rw [hb, if_neg (by decide)] at hc
        generalize decL ((L s).drop pos) = d at *
        obtain ⟨d1, d2⟩ := d
        dsimp only at *
        have hd2 : ((d2 : Int) == 0) = false := by simp; omega
        have HST := Lib.hid hst
        clear hst hI hb
        go_wp2_with fail
        refine hc.mono ?_
        clear hc
        rintro e _ ⟨rfl, rfl⟩
        go_wp2
        go_roundw
        case rel => exact ⟨k + 1, pos + d2, by go_num, by go_num, HST.out, by first | trivial | rfl⟩
        case measure => simp [RowKit.intOf]; omega
      · have hno := Lib.hid (runesV_none (hI.broken hp hb))
        rw [hb, if_pos rfl] at hc
        clear hb hI
        go_wp2_with fail
        refine hc.mono ?_
        clear hc
        rintro e _ ⟨rfl, rfl⟩
        go_wp2
        go_ret2
        exact ⟨by rw [hno.out]; first | done | rfl, rfl⟩
    · have hov := Lib.hid (runesV_some (hI.over hp))
      clear hI
      go_wp2
      go_ret2
      exact ⟨by rw [hov.out]; first | done | rfl, rfl⟩

/-- the bytes up to k may stand -/
def OkI (s : ByteArray) (k : Nat) : Prop := k ≤ s.size ∧ ((L s).take k).all okByte = true
theorem ok_split (c : Int) (h0 : 0 ≤ c) : okByte (UInt8.ofNat c.toNat) = okByte (UInt8.ofNat c.toNat) := rfl
theorem L_get (s : ByteArray) (k : Nat) (h : k < s.size) : s[k] = (L s)[k]'(by rw [← L_size]; exact h) := by
  cases s; rfl
theorem OkI.next {s : ByteArray} {k : Nat} (h : OkI s k) (hk : k < s.size) (hc : okByte s[k] = true) : OkI s (k + 1) := by
  refine ⟨hk, ?_⟩
  rw [List.take_succ_eq_append_getElem (by rw [← L_size]; exact hk), List.all_append, h.2, ← L_get s k hk]
  simp [hc]
theorem all_no (s : ByteArray) (k : Nat) (hk : k < s.size) (hc : okByte s[k] = false) : (L s).all okByte = false := by
  rw [List.all_eq_false]
  exact ⟨s[k], by rw [L_get s k hk]; exact List.getElem_mem _, by rw [hc]; decide⟩
theorem OkI.over {s : ByteArray} {k : Nat} (h : OkI s k) (hk : ¬ k < s.size) : (L s).all okByte = true := by
  have := h.2
  rwa [List.take_of_length_le (by rw [← L_size]; omega)] at this

set_option maxHeartbeats 1000000 in
theorem Is_ref_no (s : ByteArray) (h : headL (L s) = false) (w : World) :
    Calls Tryd.prog 45 #[.string s] w fun e w' => e = .returned (.bool false) ∧ w = w' := by
  by_cases h0 : (s.size : Int) < 1
  · clear h
    go_enter Tryd.func45, Tryd.ntmps45
    go_wp2
    go_ret
    exact ⟨rfl, rfl⟩
  have b0 : decide ((s.size : Int) < 1) = false := by simpa using h0
  by_cases h1 : (32 : Int) < (s.size : Int)
  · clear h
    go_enter Tryd.func45, Tryd.ntmps45
    go_wp2
    go_ret
    exact ⟨rfl, rfl⟩
  have d1 : decide ((32 : Int) < (s.size : Int)) = false := by simpa using h1
  by_cases h2 : s.toList = [46]
  · have e2 : (s.toList == [46]) = true := by simpa using h2
    clear h h2
    go_enter Tryd.func45, Tryd.ntmps45
    go_wp2
    go_ret
    exact ⟨rfl, rfl⟩
  have e2 : (s.toList == [46]) = false := by simpa using h2
  by_cases h3 : s.toList = [46, 46]
  · have e3 : (s.toList == [46, 46]) = true := by simpa using h3
    clear h h0 h1 h2 h3
    go_enter Tryd.func45, Tryd.ntmps45
    go_wp2
    go_ret
    exact ⟨rfl, rfl⟩
  · exfalso
    rw [toList_L] at h2 h3
    have hn : L s ≠ [] := by
      intro e
      rw [L_size, e] at h0
      simp at h0
    have hl : (L s).length ≤ 32 := by rw [← L_size]; omega
    have hh : headL (L s) = true := by
      unfold headL
      rw [beq_eq_false_iff_ne.2 hn, beq_eq_false_iff_ne.2 h2, beq_eq_false_iff_ne.2 h3, decide_eq_true hl]
      rfl
    rw [hh] at h
    cases h

set_option maxHeartbeats 2000000 in
theorem Is_ref_loop (s : ByteArray) (h : headL (L s) = true) (w : World) :
    Calls Tryd.prog 45 #[.string s] w fun e w' => e = .returned (.bool (goodL (L s))) ∧ w = w' := by
  have hh : (L s) ≠ [] ∧ (L s).length ≤ 32 ∧ (L s) ≠ [46] ∧ (L s) ≠ [46, 46] := by
    simp only [headL, Bool.and_eq_true, Bool.not_eq_true', decide_eq_true_eq, beq_eq_false_iff_ne] at h
    exact ⟨h.1.1.1, h.1.1.2, h.1.2, h.2⟩
  obtain ⟨h0, h1, h2, h3⟩ := hh
  have hp0 := len_pos h0
  rw [← L_size] at h1 hp0
  rw [goodL_eq]
  have hru := Runes_ref s (by omega)
  rw [← toList_L] at h2 h3
  have b0 : decide ((s.size : Int) < 1) = false := by simp; omega
  have d1 : decide ((32 : Int) < (s.size : Int)) = false := by simp; omega
  have e2 : (s.toList == [46]) = false := by simpa using h2
  have e3 : (s.toList == [46, 46]) = false := by simpa using h3
  have hov := fun k (h : OkI s k) (hk : ¬ k < s.size) => h.over hk
  have hno := fun k hk hc => all_no s k hk hc
  have hnx := fun k (h : OkI s k) hk hc => h.next hk hc
  have hOk0 : OkI s 0 := ⟨Nat.zero_le _, by simp⟩
  generalize (L s).all okByte = ok at *
  have HOV := Lib.hid hov
  have HNO := Lib.hid hno
  have HNX := Lib.hid hnx
  have HRU := Lib.hid hru
  clear h h0 h2 h3 hov hno hnx hru
  go_enter Tryd.func45, Tryd.ntmps45
  go_wp2
  clear b0 d1 e2 e3
  go_loop [3] (fun j => ∃ k : Nat, j = .int .i64 k ∧ OkI s k) (fun j => s.size - (RowKit.intOf j).toNat)
  case atStart => exact ⟨0, rfl, hOk0⟩
  case round =>
    obtain ⟨k, rfl, hI⟩ := hrel
    by_cases hk : k < s.size
    · have hx := fun hc => HNO.out k hk hc
      have hy := fun hc => HNX.out k hI hk hc
      generalize hc : s[k] = c at *
      have hcl := c.toNat_lt
      have hokc : okByte c = !(decide (c.toNat < 32) || c.toNat == 127 || c.toNat == 47) := rfl
      have hcz : ((s[k]'hk).toNat : Int) = (c.toNat : Int) := by rw [hc]
      generalize okByte c = oc at *
      generalize c.toNat = x at *
      have HX := Lib.hid hx
      have HY := Lib.hid hy
      have HO := Lib.hid hokc
      clear hx hy hc hokc hI
      by_cases x0 : (x : Int) < 32
      · have hf := Lib.hid (HX.out (by rw [HO.out]; simp; omega))
        go_wp2
        go_ret
        exact ⟨by rw [hf.out]; first | done | rfl, rfl⟩
      have y0 : decide ((x : Int) < 32) = false := by simpa using x0
      by_cases x1 : (x : Int) = 127
      · have y1 : ((x : Int) == 127) = true := by simpa using x1
        have hf := Lib.hid (HX.out (by rw [HO.out]; simp; omega))
        clear x1
        go_wp2
        go_ret
        exact ⟨by rw [hf.out]; first | done | rfl, rfl⟩
      have y1 : ((x : Int) == 127) = false := by simpa using x1
      by_cases x2 : (x : Int) = 47
      · have y2 : ((x : Int) == 47) = true := by simpa using x2
        have hf := Lib.hid (HX.out (by rw [HO.out]; simp; omega))
        clear x1 x2
        go_wp2
        go_ret
        exact ⟨by rw [hf.out]; first | done | rfl, rfl⟩
      have y2 : ((x : Int) == 47) = false := by simpa using x2
      have hf := Lib.hid (HY.out (by rw [HO.out]; simp; omega))
      clear x0 x1 x2
      go_wp2
      go_round
      case rel => exact ⟨k + 1, by go_num, hf.out⟩
      case measure => simp [RowKit.intOf]; omega
    · have hv := HOV.out k hI hk
      have hr := HRU.out w
      subst hv
      clear hI
      unfold runesV at hr
      rcases hq : runesL (L s) with _ | n
      · rw [hq] at hr
        dsimp only at hr
        have HQ := Lib.hid hq
        clear hq
        go_wp2_with fail
        refine hr.mono ?_
        clear hr
        rintro e _ ⟨rfl, rfl⟩
        go_wp2
        go_ret
        exact ⟨by rw [HQ.out]; rfl, rfl⟩
      · rw [hq] at hr
        dsimp only at hr
        have HQ := Lib.hid hq
        clear hq
        go_wp2_with fail
        refine hr.mono ?_
        clear hr
        rintro e _ ⟨rfl, rfl⟩
        go_wp2
        go_ret
        exact ⟨by rw [HQ.out]; rfl, rfl⟩

theorem Is_ref (s : ByteArray) (w : World) :
    Calls Tryd.prog 45 #[.string s] w fun e w' => e = .returned (.bool (nameL (L s))) ∧ w = w' := by
  rw [nameL_head]
  cases h : headL (L s)
  · exact Is_ref_no s h w
  · rw [Bool.true_and]; exact Is_ref_loop s h w
end Go.Proofs.YtboalmmpcfiicaaDoor
