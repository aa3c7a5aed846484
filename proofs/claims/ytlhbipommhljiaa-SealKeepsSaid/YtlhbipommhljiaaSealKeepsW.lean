/- SealKeeps, the walk: what is put is got; with one byte changed it is refused. -/
import Derived.Test.YtlhbipommhljiaaSealTellsW
import Derived.Test.YtlhbipommhljiaaSealPlain2
import Derived.Test.YtlhbipommhljiaaBlkArg
namespace Go.Proofs.Ytlhbipommhljiaa
open Go.RowKit Go.Shelf
set_option linter.unusedVariables false
set_option linter.unusedSimpArgs false

theorem u8_and63 (n : Nat) (h : n < 256) : bits .and .u8 (n : Int) 63 = ((n % 64 : Nat) : Int) := by
  have := u8_and_nat n 63 h (by decide)
  rw [show ((63 : Nat) : Int) = 63 from rfl] at this
  rw [this]
  have e := Nat.and_two_pow_sub_one_eq_mod n 6
  rw [show 2 ^ 6 - 1 = 63 from rfl, show 2 ^ 6 = 64 from rfl] at e
  rw [e]
theorem full_at (l : List UInt8) (h : l.length ≤ 44) (k : Nat) (hk : k < 44) : (fullOf l).getD k 0 = if k < l.length then l.getD k 0 else 0 := by
  unfold fullOf
  by_cases e : k < l.length
  · rw [if_pos e]
    simp [List.getElem?_append_left e]
  · rw [if_neg e]
    have : k - l.length < 44 - l.length := by omega
    simp [List.getElem?_append_right (Nat.le_of_not_lt e), this]
set_option maxRecDepth 100000 in
set_option maxHeartbeats 4000000 in
theorem keeps_long (n : Int) (l : List UInt8) (A : Option Addr) (cp : Nat) (k d : Nat) (w : World) (h0 : 0 ≤ n) (h1 : n < 4294967296) (hl : l.length ≤ 140737488351232) (hr : Rd w A l) (hb : 44 < l.length) (hn : 0 < n) :
    Calls Try.prog 4 #[.int .u32 n, .slice A l.length cp, .int .u8 (k : Int), .int .u8 (d : Int)] w fun e w' => e = .returned (.bool true) ∧ Below w.heap.size w w' := by
  have HX := Lib.hid (show (zb : Blk).length = 64 from zb_len)
  have hput := Put_any n l A cp w (by omega) h0 h1 hr
  have hE : putE n l = 3 := by unfold putE; rw [if_pos hb]
  have hB : putB n l = zb := by unfold putB; rw [hE]; rfl
  rw [hE, hB] at hput
  clear hE hB
  have hb' : decide ((l.length : Int) ≤ 44) = false := by simp; omega
  clear hb h0
  clear hr h1 hl
  go_enter Try.func4, Try.ntmps4
  go_wp2_with fail
  refine hput.mono ?_
  clear hput
  rintro e v1 ⟨rfl, hb⟩
  have B1 := Lib.hid hb
  clear hb
  go_wp2_with (first 
    | (refine wpList_alloc_blk rfl rfl ?_; intro g9 u1 hk hb hg; go_frame; have KA9 := Lib.hid hk; have BA9 := Lib.hid hb; have GA9 := Lib.hid hg; clear hk hb hg) 
    | (refine wpList_fill_blk rfl (.tmp 9) _ rfl g9 rfl zb rfl zb_len KA9.out ?_; intro x1 hk hr; go_frame; have KF9 := Lib.hid hk; have BF9 := Lib.hid (keep_own BA9.out hr GA9.out); clear hk hr) 
    | (refine wpList_build_zero rfl rfl ?_; go_frame) 
    | (refine wpList_load_blk rfl (.tmp 9) rfl g9 0 rfl zb zb_len (At.whole (KF9.out)) ?_; go_frame) 
    | (refine wpList_eql_blk (by kernel_rfl) (.tmp 37) (.tmp 38) _ rfl zb zb rfl rfl zb_len zb_len true (by rw [beq_self_eq_true]) ?_; go_frame))
  have B2 := Lib.hid (below_chain B1.out BF9.out)
  refine (lives_any _).mono ?_
  rintro e v2 ⟨rfl, hb⟩
  have B3 := Lib.hid (below_chain B2.out hb)
  clear hb
  go_wp2_with fail
  go_ret
  exact ⟨rfl, B3.out⟩
set_option maxRecDepth 100000 in
set_option maxHeartbeats 4000000 in
theorem keeps_zero (n : Int) (l : List UInt8) (A : Option Addr) (cp : Nat) (k d : Nat) (w : World) (h0 : 0 ≤ n) (h1 : n < 4294967296) (hl : l.length ≤ 140737488351232) (hr : Rd w A l) (hb : n = 0) :
    Calls Try.prog 4 #[.int .u32 n, .slice A l.length cp, .int .u8 (k : Int), .int .u8 (d : Int)] w fun e w' => e = .returned (.bool true) ∧ Below w.heap.size w w' := by
  have HX := Lib.hid (show (zb : Blk).length = 64 from zb_len)
  have hput := Put_any n l A cp w (by omega) h0 h1 hr
  subst hb
  have hB : putB 0 l = zb := by unfold putB putE; split <;> rfl
  rw [hB] at hput
  have hE : putE 0 l = 3 ∨ putE 0 l = 2 := by unfold putE; split; exact .inl rfl; exact .inr rfl
  clear hB
  generalize putE 0 l = pe at *
  have hpe : (pe == 0) = false := by rcases hE with rfl | rfl <;> rfl
  clear hE
  clear hr h1 hl
  go_enter Try.func4, Try.ntmps4
  go_wp2_with fail
  refine hput.mono ?_
  clear hput
  rintro e v1 ⟨rfl, hb⟩
  have B1 := Lib.hid hb
  clear hb
  go_wp2_with (first 
    | (refine wpList_alloc_blk rfl rfl ?_; intro g9 u1 hk hb hg; go_frame; have KA9 := Lib.hid hk; have BA9 := Lib.hid hb; have GA9 := Lib.hid hg; clear hk hb hg) 
    | (refine wpList_fill_blk rfl (.tmp 9) _ rfl g9 rfl zb rfl zb_len KA9.out ?_; intro x1 hk hr; go_frame; have KF9 := Lib.hid hk; have BF9 := Lib.hid (keep_own BA9.out hr GA9.out); clear hk hr) 
    | (refine wpList_build_zero rfl rfl ?_; go_frame) 
    | (refine wpList_load_blk rfl (.tmp 9) rfl g9 0 rfl zb zb_len (At.whole (KF9.out)) ?_; go_frame) 
    | (refine wpList_eql_blk (by kernel_rfl) (.tmp 37) (.tmp 38) _ rfl zb zb rfl rfl zb_len zb_len true (by rw [beq_self_eq_true]) ?_; go_frame))
  have B2 := Lib.hid (below_chain B1.out BF9.out)
  refine (lives_any _).mono ?_
  rintro e v2 ⟨rfl, hb⟩
  have B3 := Lib.hid (below_chain B2.out hb)
  clear hb
  go_wp2_with fail
  go_ret
  exact ⟨rfl, B3.out⟩
set_option maxRecDepth 100000 in
set_option maxHeartbeats 8000000 in
theorem keeps_main (n : Int) (l : List UInt8) (A : Option Addr) (cp : Nat) (at' d : Nat) (w : World) (h0 : 0 < n) (h1 : n < 4294967296) (hb : l.length ≤ 44) (hr : Rd w A l) (hat : at' < 256) (hdd : d < 256) :
    Calls Try.prog 4 #[.int .u32 n, .slice A l.length cp, .int .u8 (at' : Int), .int .u8 (d : Int)] w fun e w' => e = .returned (.bool true) ∧ Below w.heap.size w w' := by
  have hput := Put_any n l A cp w (by omega) (by omega) h1 hr
  have hE : putE n l = 0 := by unfold putE; rw [if_neg (by omega), if_neg (by omega)]
  have hB : putB n l = putN n l := by unfold putB; rw [if_pos hE]
  rw [hE, hB] at hput
  clear hE hB
  obtain ⟨g0, g1, g2, g3⟩ := put_get n l h0 h1 hb
  have HPL := Lib.hid (putN_len n l hb)
  have HCH : Hid (d ≠ 0 → getE ((putN n l).set (at' % 64) ((putN n l).getD (at' % 64) 0 ^^^ UInt8.ofNat d)) ≠ 0) := Lib.hid fun hd => put_changed n l h0 h1 hb (at' % 64) (Nat.mod_lt _ (by decide)) (UInt8.ofNat d) (fun e => hd (by have := congrArg UInt8.toNat e; rw [UInt8.toNat_ofNat', Nat.mod_eq_of_lt hdd] at this; exact this))
  have hand := u8_and63 at' hat
  have HK64 := Lib.hid (Nat.mod_lt at' (show 0 < 64 by decide))
  generalize at' % 64 = k at *
  have hgr := Greatest_any (putN n l) HPL.out
  rw [g3] at hgr
  have hget := get_ok (putN n l) HPL.out g0
  rw [g1, g2] at hget
  have HG0 := Lib.hid g0
  have HFA := Lib.hid (full_at l hb)
  have HFL := Lib.hid (fullOf_len l hb)
  have HR := Lib.hid hr
  have HDD := Lib.hid hdd
  have HLB := Lib.hid hb
  have hb' : (l.length : Int) ≤ 44 := by omega
  generalize putN n l = P at *
  generalize fullOf l = fl at *
  have hn0 : (n == 0) = false := by simp; omega
  have h1' : n ≤ 4294967295 := by omega
  have hat' : (at' : Int) ≤ 255 := by omega
  have hd' : (d : Int) ≤ 255 := by omega
  clear g0 g1 g2 g3 hb hr h1 hat hdd
  go_enter Try.func4, Try.ntmps4
  go_wp2_with fail
  refine hput.mono ?_
  clear hput
  rintro e v1 ⟨rfl, hb⟩
  have B1 := Lib.hid hb
  clear hb
  go_wp2_with (first 
    | (refine wpList_alloc_blk rfl rfl ?_; intro g9 u1 hk hb hg; go_frame; have KA9 := Lib.hid hk; have BA9 := Lib.hid hb; have GA9 := Lib.hid hg; clear hk hb hg) 
    | (refine wpList_fill_blk rfl (.tmp 9) _ rfl g9 rfl P rfl HPL.out KA9.out ?_; intro x1 hk hr; go_frame; have KF9 := Lib.hid hk; have BF9 := Lib.hid (keep_own BA9.out hr GA9.out); clear hk hr) 
    | (refine wpList_load_blk rfl (.tmp 9) rfl g9 0 rfl P HPL.out (At.whole (KF9.out)) ?_; go_frame))
  have B2 := Lib.hid (below_chain B1.out BF9.out)
  have G9 := Lib.hid (show w.heap.size ≤ g9 by have := B1.out.size; have := GA9.out; omega)
  clear BA9 GA9 KA9
  refine (hget _).mono ?_
  clear hget
  rintro e v2 ⟨gc, rfl, hoc, hb⟩
  have OC := Lib.hid hoc.rd
  have K9 := Lib.hid (KF9.out.below hb KF9.out.lt)
  have B3 := Lib.hid (below_chain B2.out hb)
  clear hb hoc KF9 BF9 B1 B2
  go_wp2_with (first 
    | (refine wpList_load_blk_g (by kernel_rfl) (.tmp 9) rfl g9 0 rfl P HPL.out (At.whole (K9.out)) ?_; go_frame))
  refine (hgr _).mono ?_
  clear hgr
  rintro e v3 ⟨rfl, hb⟩
  have OC2 := Lib.hid (OC.out.below hb)
  have K9b := Lib.hid (K9.out.below hb K9.out.lt)
  have B4 := Lib.hid (below_chain B3.out hb)
  have RL := Lib.hid (HR.out.below B4.out)
  clear hb OC K9 B3
  go_wp2_with fail
  go_loop [14] (fun i => ∃ m : Nat, m ≤ 44 ∧ i = .int .i64 (m : Int)) (fun i => 44 - (intOf i).toNat)
  case atStart => exact ⟨0, by decide, rfl⟩
  case round =>
    obtain ⟨m, hm, rfl⟩ := hrel
    by_cases hlt : m < 44
    · have hlt' : (m : Int) < 44 := by omega
      have hL := Lib.hid hlt
      have e2 := rd_cellD OC2.out (r := m) (by rw [HFL.out]; exact hlt)
      have hfa := HFA.out m hlt
      by_cases hml : m < l.length
      · have hml' : (m : Int) < (l.length : Int) := by omega
        rw [if_pos hml] at hfa
        rw [hfa] at e2
        obtain ⟨bb, bo, rfl, e1⟩ := rd_at RL.out m hml
        rw [getD_get hml] at e1
        generalize l.getD m 0 = lm at *
        clear hfa hml hlt hm
        go_wp2_with fail
        go_round
        case rel => exact ⟨m + 1, by have := hL.out; omega, by go_num⟩
        case measure => simp [intOf]; have := hL.out; omega
      · have hml' : decide ((m : Int) < (l.length : Int)) = false := by simp; omega
        have hml2 : decide (m < l.length) = false := by simp; omega
        rw [if_neg hml] at hfa
        rw [hfa] at e2
        rw [show (((0 : UInt8).toNat : Nat) : Int) = 0 from rfl] at e2
        clear hfa hml hlt hm
        go_wp2_with fail
        go_round
        case rel => exact ⟨m + 1, by have := hL.out; omega, by go_num⟩
        case measure => simp [intOf]; have := hL.out; omega
    · obtain rfl : m = 44 := by omega
      rw [show ((44 : Nat) : Int) = 44 from rfl]
      obtain ⟨cc, hcc⟩ : ∃ cc : UInt8, cc = P.getD k 0 ^^^ UInt8.ofNat d := ⟨_, rfl⟩
      obtain ⟨pk, hpk0⟩ : ∃ pk : Nat, pk = (P.getD k 0).toNat := ⟨_, rfl⟩
      have hxor : bits .xor .u8 (pk : Int) (d : Int) = ((cc.toNat : Nat) : Int) := by rw [hcc, hpk0, u8_xor_nat _ _ (u8_lt _) HDD.out, UInt8.toNat_xor, UInt8.toNat_ofNat', Nat.mod_eq_of_lt HDD.out]
      have e9 := cs_byte K9b.out k (by rw [HPL.out]; exact HK64.out)
      rw [getD_get, ← hpk0] at e9
      have f9 := K9b.out.frozen k
      have hk64 : (k : Int) < 64 := by have := HK64.out; omega
      have hpk : (pk : Int) ≤ 255 := by have := u8_lt (P.getD k 0); omega
      have HCC := Lib.hid hcc
      have KN := Lib.hid (cs_set K9b.out k cc)
      have BN := Lib.hid (B4.out.setCell (p := ⟨g9, k, none⟩) G9.out (.int .u8 ((cc.toNat : Nat) : Int)))
      generalize hw4 : v3.setCell ⟨g9, k, none⟩ (.int .u8 ((cc.toNat : Nat) : Int)) = w4 at *
      clear hlt hm hcc hpk0 OC2 RL HFA HFL HLB HR K9b B4
      by_cases hd0 : d = 0
      · have hP : (P.set k cc) = P := by
          have hcc := HCC.out
          subst hd0
          rw [hcc]
          rw [show P.getD k 0 ^^^ UInt8.ofNat 0 = P.getD k 0 from by apply UInt8.toNat_inj.1; rw [UInt8.toNat_xor]; exact Nat.xor_zero _, ← getD_get (by rw [HPL.out]; exact HK64.out), List.set_getElem_self]
        rw [hP] at KN
        have hd : ((d : Int) == 0) = true := by simp; omega
        clear HCC HCH hP hd0
        go_wp2_with (first 
    | (refine wpList_load_blk rfl (.tmp 9) rfl g9 0 rfl P HPL.out (At.whole (KN.out)) ?_; go_frame))
        refine (get_ok P HPL.out HG0.out _).mono ?_
        rintro e v4 ⟨g2, rfl, -, hb⟩
        have B7 := Lib.hid (below_chain BN.out hb)
        clear hb
        go_wp2_with fail
        refine (lives_any _).mono ?_
        rintro e v5 ⟨rfl, hb⟩
        have B8 := Lib.hid (below_chain B7.out hb)
        clear hb
        go_wp2_with fail
        go_ret
        exact ⟨rfl, B8.out⟩
      · have hch0 := HCH.out hd0
        rw [← HCC.out] at hch0
        have hch := Lib.hid hch0
        clear hch0
        have hd : ((d : Int) == 0) = false := by simp; omega
        have HPL2 := Lib.hid (show (P.set k cc).length = 64 by rw [List.length_set]; exact HPL.out)
        generalize P.set k cc = P2 at *
        clear hd0
        have hgn := get_no P2 HPL2.out hch.out
        have hge : (getE P2 == 0) = false := by simpa using hch.out
        generalize getE P2 = ge at *
        clear hch HCH
        go_wp2_with (first 
    | (refine wpList_load_blk rfl (.tmp 9) rfl g9 0 rfl P2 HPL2.out (At.whole (KN.out)) ?_; go_frame))
        refine (hgn _).mono ?_
        clear hgn
        rintro e v4 ⟨rfl, hb⟩
        have B7 := Lib.hid (below_chain BN.out hb)
        clear hb
        go_wp2_with fail
        refine (lives_any _).mono ?_
        rintro e v5 ⟨rfl, hb⟩
        have B8 := Lib.hid (below_chain B7.out hb)
        clear hb
        go_wp2_with fail
        go_ret
        exact ⟨rfl, B8.out⟩
theorem keeps (n : Int) (l : List UInt8) (A : Option Addr) (cp : Nat) (at' d : Nat) (w : World) (h0 : 0 ≤ n) (h1 : n < 4294967296) (hl : l.length ≤ 140737488351232) (hr : Rd w A l) (hA : A = none → l = [] ∧ cp = 0) (hat : at' < 256) (hdd : d < 256) :
    Calls Try.prog 4 #[.int .u32 n, .slice A l.length cp, .int .u8 (at' : Int), .int .u8 (d : Int)] w fun e w' => e = .returned (.bool true) ∧ Below w.heap.size w w' := by
  by_cases hz : n = 0
  · exact keeps_zero n l A cp at' d w h0 h1 hl hr hz
  by_cases hb : 44 < l.length
  · exact keeps_long n l A cp at' d w h0 h1 hl hr hb (by omega)
  · exact keeps_main n l A cp at' d w (by omega) h1 (by omega) hr hat hdd

end Go.Proofs.Ytlhbipommhljiaa
