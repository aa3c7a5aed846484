/- BatchOwn: the walk. -/
import Derived.Test.YtiemphfikfigdaaBatOwn1
import Derived.Test.YtiemphfikfigdaaBatBoth
import Derived.Test.YtiemphfikfigdaaBatSlice
namespace Go.Proofs.Ytiemphfikfigdaa
open Go.RowKit Go.Shelf
set_option linter.unusedVariables false
set_option maxRecDepth 100000
set_option linter.unusedSimpArgs false

theorem LsV.mono {α : Type} {E : Elem α} {w : World} {F G : Nat → Prop} {v : Value} {ls : List α} (h : LsV E w F v ls) (hF : ∀ k, k < w.heap.size → F k → G k) : LsV E w G v ls := by
  obtain ⟨A, c, h1, h2, h3⟩ := h
  exact ⟨A, c, h1, h2.mono hF, h3⟩
theorem betw_n (K : K7) {a b : List Rw} {v u : Value} {F G : Nat → Prop} {w : World} (hs : SmallR a) (hs' : SmallR b) (ht : a.length ≤ 1000) (hl : b.length ≤ 1000) (h : LsV rowE w F v a) (k : LsV rowE w G u b) : Calls Try.prog 26 #[v, u] w fun e w' =>
    ∃ A c, e = .returned (.tuple #[.slice A (betwR a b).length c, .int .i64 (betwE a b)]) ∧ LsV chgN w' (w.heap.size ≤ ·) (.slice A (betwR a b).length c) (betwR a b) ∧ Below w.heap.size w w' :=
  (K.betw _ _ _ _ _ _ _ hs hs' ht hl h k).mono fun e w' ⟨hb, v, he, hv⟩ => by
    obtain ⟨A, c, rfl, r⟩ := id hv
    exact ⟨A, c, he, hv, hb⟩
theorem apply_n (K : K7) {t : List Rw} {l : List Ch} {v u : Value} {F G : Nat → Prop} {w : World} (hs : SmallR t) (hs' : SmallC l) (ht : t.length ≤ 1000) (hl : l.length ≤ 1000) (h : LsV rowE w F v t) (k : LsV chgE w G u l) : Calls Try.prog 21 #[v, u] w fun e w' =>
    ∃ A c, e = .returned (.tuple #[.slice A (applyR t l).length c, .int .i64 (applyE t l)]) ∧ LsV rowN w' (w.heap.size ≤ ·) (.slice A (applyR t l).length c) (applyR t l) ∧ Below w.heap.size w w' :=
  (K.apply _ _ _ _ _ _ _ hs hs' ht hl h k).mono fun e w' ⟨hb, v, he, hv⟩ => by
    obtain ⟨A, c, rfl, r⟩ := id hv
    exact ⟨A, c, he, hv, hb⟩
theorem betw_small (a b : List Rw) (h : a.length ≤ 60) (h' : b.length ≤ 60) : SmallC (betwR a b) := by
  have hl := between_len7 a b
  unfold betwR at *
  split
  · rename_i hm
    rw [if_pos hm] at hl
    rw [Bool.and_eq_true] at hm
    refine ⟨by omega, fun z hz => ?_⟩
    have := mayC_small (may_between hm.1 hm.2) z hz
    omega
  · exact ⟨by simp, by simp⟩
theorem betw_zero (a b : List Rw) (h : 0 < (betwR a b).length) : betwE a b = 0 := by
  unfold betwR betwE at *
  split
  · rfl
  · rename_i hm
    rw [if_neg hm] at h
    simp at h
theorem apply_zero (t : List Rw) (l : List Ch) (h : 0 < (applyR t l).length) : applyE t l = 0 := by
  unfold applyR applyE at *
  split
  · rfl
  · rename_i hm
    rw [if_neg hm] at h
    simp at h
theorem applyR_len (t : List Rw) (l : List Ch) : (applyR t l).length ≤ t.length + l.length := by
  have := apply_len l t
  unfold applyR
  split <;> first | omega | simp
/-- a value of bytes is spoilt: what lies beneath N stays -/
theorem turn_spoilt {N : Nat} {w2 u u' : World} {v : Value} {e : Ending} (h : Turn w2 u (N ≤ ·)) (hv : ∀ k, v.ownBlock = some k → N ≤ k) (hs : SpoiltRet v u e u') : Turn w2 u' (N ≤ ·) := h.trans hs.2.1 fun k _ hk => hv k hk
theorem turn_below {N : Nat} {w2 u u' : World} (h : Turn w2 u (N ≤ ·)) (hb : Below u.heap.size u u') : Turn w2 u' (N ≤ ·) := h.trans (Turn.of_below hb fun _ => False) fun _ _ h => h.elim
set_option maxHeartbeats 8000000 in
theorem own7_long (K : K7) (l0 : List Rw) (A0 : Option Addr) (c0 : Nat) (l1 : List Rw) (A1 : Option Addr) (c1 : Nat) (n2 : Nat) (w : World) (hc0 : l0.length ≤ c0) (hm0 : c0 ≤ maxLen) (hc1 : l1.length ≤ c1) (hm1 : c1 ≤ maxLen) (h : 60 < l0.length ∨ 60 < l1.length) :
    Calls Try.prog 7 #[.slice A0 l0.length c0, .slice A1 l1.length c1, .int .u8 (n2 : Int)] w fun e w' => e = .returned (.bool true) ∧ Below w.heap.size w w' := by
  have HK := Lib.hid K
  unfold maxLen at hm0 hm1
  have hm0' : (l0.length : Int) ≤ 9223372036854775807 := by omega
  have hm1' : (l1.length : Int) ≤ 9223372036854775807 := by omega
  clear K
  by_cases h0 : 60 < l0.length
  · have h0' : (60 : Int) < (l0.length : Int) := by omega
    go_enter Try.func7, Try.ntmps7
    go_wp2_with fail
    refine (lives7_any HK.out _).mono ?_
    rintro e w1 ⟨rfl, hb⟩
    have B1 := Lib.hid hb
    clear hb
    go_wp2_with fail
    go_ret
    exact ⟨rfl, B1.out⟩
  · have h0' : ¬ (60 : Int) < (l0.length : Int) := by omega
    have h1' : (60 : Int) < (l1.length : Int) := by omega
    go_enter Try.func7, Try.ntmps7
    go_wp2_with fail
    refine (lives7_any HK.out _).mono ?_
    rintro e w1 ⟨rfl, hb⟩
    have B1 := Lib.hid hb
    clear hb
    go_wp2_with fail
    go_ret
    exact ⟨rfl, B1.out⟩
set_option maxHeartbeats 16000000 in
theorem own7_walk (K : K7) (l0 : List Rw) (A0 : Option Addr) (c0 : Nat) (l1 : List Rw) (A1 : Option Addr) (c1 : Nat) (n2 : Nat) (w : World)
    (hs0 : ∀ z ∈ l0, z.1.length ≤ maxLen ∧ z.2.length ≤ 140737488351232) (r0 : RdX rowE w (· < w.heap.size) A0 l0) (hc0 : l0.length ≤ c0) (hm0 : c0 ≤ maxLen) (n0 : A0 = none → l0 = [] ∧ c0 = 0)
    (hs1 : ∀ z ∈ l1, z.1.length ≤ maxLen ∧ z.2.length ≤ 140737488351232) (r1 : RdX rowE w (· < w.heap.size) A1 l1) (hc1 : l1.length ≤ c1) (hm1 : c1 ≤ maxLen) (n1 : A1 = none → l1 = [] ∧ c1 = 0) (hi2 : n2 < 256) :
    Calls Try.prog 7 #[.slice A0 l0.length c0, .slice A1 l1.length c1, .int .u8 (n2 : Int)] w fun e w' => e = .returned (.bool true) ∧ Below w.heap.size w w' := by
  by_cases hlong : 60 < l0.length ∨ 60 < l1.length
  · exact own7_long K l0 A0 c0 l1 A1 c1 n2 w hc0 hm0 hc1 hm1 hlong
  obtain ⟨h0, h1⟩ : l0.length ≤ 60 ∧ l1.length ≤ 60 := by omega
  have HK := Lib.hid K
  have T0 := Lib.hid (show LsV rowE w (· < w.heap.size) (.slice A0 l0.length c0) l0 from ⟨A0, c0, rfl, r0, hc0, hm0, n0⟩)
  have U0 := Lib.hid (show LsV rowE w (· < w.heap.size) (.slice A1 l1.length c1) l1 from ⟨A1, c1, rfl, r1, hc1, hm1, n1⟩)
  have HV0 := Lib.hid (fun z hz => (hs0 z hz).2)
  have HV1 := Lib.hid (fun z hz => (hs1 z hz).2)
  have HM0 := Lib.hid (show SmallR l0 from ⟨by omega, fun z hz => by have := (hs0 z hz).1; unfold maxLen at this; exact this⟩)
  have HM1 := Lib.hid (show SmallR l1 from ⟨by omega, fun z hz => by have := (hs1 z hz).1; unfold maxLen at this; exact this⟩)
  have HKL := Lib.hid (fun z hz => by have := (hs0 z hz).1; unfold maxLen at this; exact this : ∀ z ∈ l0, z.1.length ≤ 9223372036854775807)
  obtain ⟨bx, hbx, hor⟩ := or_one n2 hi2
  have hbx' : (bx : Int) ≤ 255 := by omega
  have h0' : ¬ (60 : Int) < (l0.length : Int) := by omega
  have h1' : ¬ (60 : Int) < (l1.length : Int) := by omega
  have hm0' : (l0.length : Int) ≤ 9223372036854775807 := by omega
  have hm1' : (l1.length : Int) ≤ 9223372036854775807 := by omega
  have HBX := Lib.hid hbx
  clear K r0 r1 n0 n1 hs0 hs1 hlong hc0 hm0 hc1 hm1 hi2 hbx
  go_enter Try.func7, Try.ntmps7
  go_wp2_with fail
  refine (own7_any l0 A0 c0 _ w (by omega) HV0.out T0.out.at.2.1).mono ?_
  rintro e w1 ⟨va, rfl, ho, hb⟩
  obtain ⟨Aa, ca, rfl, -⟩ := id ho.ls
  have X1 := Lib.hid ho.ls
  have T1 := Lib.hid (T0.out.below hb)
  have U1 := Lib.hid (U0.out.below hb)
  have B1 := Lib.hid hb
  clear ho hb T0 U0
  go_wp2_with fail
  refine (own7_any l1 A1 c1 _ w1 (by omega) HV1.out U1.out.at.2.1).mono ?_
  rintro e w2 ⟨vb, rfl, ho, hb⟩
  obtain ⟨Ab, cb, rfl, -⟩ := id ho.ls
  obtain ⟨N, hN⟩ : ∃ N, N = w2.heap.size := ⟨_, rfl⟩
  have hlt : ∀ k, k < w2.heap.size → k < N := fun k hk => by omega
  have X2 := Lib.hid ((X1.out.below hb).mono (G := (· < N)) fun k hk _ => hlt k hk)
  have Y2 := Lib.hid (ho.ls.mono (G := (· < N)) fun k hk _ => hlt k hk)
  have T2 := Lib.hid ((T1.out.below hb).mono (G := (· < N)) fun k hk _ => hlt k hk)
  have U2 := Lib.hid ((U1.out.below hb).mono (G := (· < N)) fun k hk _ => hlt k hk)
  have B2 := Lib.hid (below_chain B1.out hb)
  have HN := Lib.hid hN
  clear ho hb T1 U1 X1 B1 hlt hN
  have hsm := betw_small l0 l1 h0 h1
  have hze := betw_zero l0 l1
  have hle := between_len7 l0 l1
  have hbt := betw_n HK.out HM0.out HM1.out (by omega) (by omega) (ls_ofW X2.out) (ls_ofW Y2.out)
  obtain ⟨lc, hlc⟩ : ∃ lc, lc = betwR l0 l1 := ⟨_, rfl⟩
  obtain ⟨ec, hec⟩ : ∃ ec, ec = betwE l0 l1 := ⟨_, rfl⟩
  rw [← hlc, ← hec] at hbt
  rw [← hlc] at hsm hle hze
  rw [← hec] at hze
  clear hlc hec
  have HZC := Lib.hid hze
  have HSC := Lib.hid hsm
  clear hze hsm
  go_wp2_with fail
  refine hbt.mono ?_
  clear hbt
  rintro e w3 ⟨Ac, cc, rfl, hc, hb⟩
  have R3 := Lib.hid (Turn.of_below hb (N ≤ ·))
  have C3 := Lib.hid hc
  have HN3 := Lib.hid (show N ≤ w3.heap.size by rw [HN.out]; exact hb.size)
  have S3 := Lib.hid ((hc.at.2.1.mono (G := (N ≤ ·)) fun k _ hk => by have := HN.out; omega).splC)
  clear hc hb
  have X3 := Lib.hid (X2.out.turn R3.out fun k hk h => by omega)
  have hap := apply_n HK.out HM0.out HSC.out (by omega) (by omega) (ls_ofW X3.out) C3.out.chgE
  have hze := apply_zero l0 lc
  have hlx := applyR_len l0 lc
  obtain ⟨lx, hlc⟩ : ∃ lx, lx = applyR l0 lc := ⟨_, rfl⟩
  obtain ⟨ex, hec⟩ : ∃ ex, ex = applyE l0 lc := ⟨_, rfl⟩
  rw [← hlc, ← hec] at hap
  rw [← hlc] at hlx hze
  rw [← hec] at hze
  clear hlc hec X3 C3
  have HZX := Lib.hid hze
  clear hze
  go_wp2_with fail
  refine hap.mono ?_
  clear hap
  rintro e w4 ⟨Ax, cx, rfl, hx, hb⟩
  have R4 := Lib.hid (turn_below R3.out hb)
  have S4 := Lib.hid (S3.out.below hb)
  have P4 := Lib.hid ((hx.at.2.1.mono (G := (N ≤ ·)) fun k _ hk => by have := HN3.out; omega).splR)
  clear hx hb R3 S3 HN3
  have hlc' : (lc.length : Int) ≤ 9223372036854775807 := by omega
  have hlx' : (lx.length : Int) ≤ 9223372036854775807 := by omega
  go_wp2_with fail
  go_loopw [13] (fun j wr => ∃ k : Nat, j = .int .i64 k ∧ k ≤ lx.length ∧ Spl 2 wr N Ax lx.length ∧ Spl 3 wr N Ac lc.length ∧ Turn w2 wr (N ≤ ·)) (fun j _ => lx.length - (RowKit.intOf j).toNat)
  case atStart => exact ⟨0, rfl, Nat.zero_le _, P4.out, S4.out, R4.out⟩
  case round =>
    obtain ⟨k, rfl, hk, hp, hs, hr⟩ := hrel
    have P5 := Lib.hid hp
    have S5 := Lib.hid hs
    have R5 := Lib.hid hr
    clear hp hs hr P4 S4 R4
    by_cases hlt : k < lx.length
    · have hlt' : (k : Int) < (lx.length : Int) := by omega
      obtain rfl := HZX.out (by omega)
      obtain ⟨b, off, v, rfl, hce, hty, hown⟩ := P5.out k hlt
      have HTY := Lib.hid hty
      have HOW := Lib.hid hown
      clear hty hown
      go_wp2_with fail
      refine (Spoil_ty v bx HBX.out _ HTY.out).mono ?_
      rintro e w6 hsp
      obtain ⟨x, rfl⟩ := id hsp.1
      have P6 := Lib.hid (P5.out.spoilt HTY.out hsp)
      have S6 := Lib.hid (S5.out.spoilt HTY.out hsp)
      have R6 := Lib.hid (turn_spoilt R5.out (fun q hq => (HOW.out q hq).1) hsp)
      clear hsp P5 S5 R5 HTY HOW
      go_wp2_with fail
      go_roundw
      case rel => exact ⟨k + 1, by go_num, hlt, P6.out, S6.out, R6.out⟩
      case measure => simp [RowKit.intOf]; omega
    · have hlt' : ¬ (k : Int) < (lx.length : Int) := by omega
      clear hlt hk P5
      go_wp2_with fail
      go_loopw [14] (fun j wr => ∃ k : Nat, j = .int .i64 k ∧ k ≤ lc.length ∧ Spl 3 wr N Ac lc.length ∧ Turn w2 wr (N ≤ ·)) (fun j _ => lc.length - (RowKit.intOf j).toNat)
      case atStart => exact ⟨0, rfl, Nat.zero_le _, S5.out, R5.out⟩
      case round =>
        obtain ⟨k, rfl, hk, hs, hr⟩ := hrel
        have S7 := Lib.hid hs
        have R7 := Lib.hid hr
        clear hs hr S5 R5 hlt'
        by_cases hlt : k < lc.length
        · have hlt' : (k : Int) < (lc.length : Int) := by omega
          obtain rfl := HZC.out (by omega)
          obtain ⟨b, off, v, rfl, hce, hty, hown⟩ := S7.out k hlt
          have HTY := Lib.hid hty
          have HOW := Lib.hid hown
          clear hty hown
          go_wp2_with fail
          refine (Spoil_ty v bx HBX.out _ HTY.out).mono ?_
          rintro e w8 hsp
          obtain ⟨x, rfl⟩ := id hsp.1
          have S8 := Lib.hid (S7.out.spoilt HTY.out hsp)
          have R8 := Lib.hid (turn_spoilt R7.out (fun q hq => (HOW.out q hq).1) hsp)
          clear hsp S7 R7 HTY HOW
          go_wp2_with fail
          go_roundw
          case rel => exact ⟨k + 1, by go_num, hlt, S8.out, R8.out⟩
          case measure => simp [RowKit.intOf]; omega
        · have hlt' : ¬ (k : Int) < (lc.length : Int) := by omega
          clear hlt hk S7
          go_wp2_with fail
          go_loopw [15] (fun j wr => ∃ k : Nat, j = .int .i64 k ∧ k ≤ l0.length ∧ Turn w2 wr (N ≤ ·)) (fun j _ => l0.length - (RowKit.intOf j).toNat)
          case atStart => exact ⟨0, rfl, Nat.zero_le _, R7.out⟩
          case round =>
            obtain ⟨k, rfl, hk, hr⟩ := hrel
            have R9 := Lib.hid hr
            clear hr R7 hlt'
            have X9 := Lib.hid (X2.out.turn R9.out fun k hk h => by omega)
            by_cases hlt : k < l0.length
            · have hlt' : (k : Int) < (l0.length : Int) := by omega
              obtain ⟨b, off, g, c, rfl, hce, -⟩ := roww_at X9.out.at.2.1 k hlt
              have hkey := HKL.out _ (List.getElem_mem hlt)
              have hfi := HK.out.find l0 l0[k].1 _ _ wr HM0.out (by omega) hkey (ls_ofW X9.out)
              clear hkey
              generalize l0[k].1 = key at *
              clear X9
              go_wp2_with fail
              refine hfi.mono ?_
              clear hfi
              rintro e w10 ⟨hb, v, rfl, hv⟩
              have R10 := Lib.hid (turn_below R9.out hb)
              have HTY := Lib.hid hv.2.1
              have HOW := Lib.hid (fun q hq => Nat.le_trans (by rw [HN.out]; exact R9.out.size) (hv.2.2 q hq).1 : ∀ q, v.ownBlock = some q → N ≤ q)
              clear hb hv R9
              go_wp2_with fail
              refine (Spoil_ty v bx HBX.out _ HTY.out).mono ?_
              rintro e w11 hsp
              obtain ⟨x, rfl⟩ := id hsp.1
              have R11 := Lib.hid (turn_spoilt R10.out HOW.out hsp)
              clear hsp R10 HTY HOW
              go_wp2_with fail
              go_roundw
              case rel => exact ⟨k + 1, by go_num, hlt, R11.out⟩
              case measure => simp [RowKit.intOf]; omega
            · have hlt' : ¬ (k : Int) < (l0.length : Int) := by omega
              clear hlt hk
              have Y9 := Lib.hid (Y2.out.turn R9.out fun k hk h => by omega)
              have T9 := Lib.hid (T2.out.turn R9.out fun k hk h => by omega)
              have U9 := Lib.hid (U2.out.turn R9.out fun k hk h => by omega)
              have B9 := Lib.hid (B2.out.trans (R9.out.below B2.out.size fun q hq => by have := HN.out; have := B2.out.size; omega))
              clear X2 Y2 T2 U2 B2 R9
              go_wp2_with fail
              refine (left7_any l0 Aa A0 ca c0 _ _ _ (by omega) X9.out.at.2.1 T9.out.at.2.1).mono ?_
              rintro e w12 ⟨rfl, hb⟩
              have Y12 := Lib.hid (Y9.out.below hb)
              have U12 := Lib.hid (U9.out.below hb)
              have B12 := Lib.hid (below_chain B9.out hb)
              clear hb Y9 U9 B9 X9 T9
              go_wp2_with fail
              refine (left7_any l1 Ab A1 cb c1 _ _ _ (by omega) Y12.out.at.2.1 U12.out.at.2.1).mono ?_
              rintro e w13 ⟨rfl, hb⟩
              have B13 := Lib.hid (below_chain B12.out hb)
              clear hb Y12 U12 B12
              go_wp2_with fail
              refine (lives7_any HK.out _).mono ?_
              rintro e w14 ⟨rfl, hb⟩
              have B14 := Lib.hid (below_chain B13.out hb)
              clear hb B13
              go_wp2_with fail
              go_ret
              exact ⟨rfl, B14.out⟩

end Go.Proofs.Ytiemphfikfigdaa
