/- SealMixes, the walks that end early: nothing to mix. A mix is the one, or the other, or refused. -/
import Derived.Test.YtlhbipommhljiaaSealTellsW
import Derived.Test.YtlhbipommhljiaaSealPlain3
import Derived.Test.YtlhbipommhljiaaBlkArg
namespace Go.Proofs.Ytlhbipommhljiaa
open Go.RowKit Go.Shelf
set_option linter.unusedVariables false
set_option linter.unusedSimpArgs false

theorem max_said (n m s : Int) (hn : 0 ≤ n) (hm : 0 ≤ m) (h : s = m ∨ s = 0) : max n s ≤ if n ≤ m then m else n := by
  rw [Int.max_def]
  rcases h with rfl | rfl
  · exact Int.le_refl _
  · split <;> split <;> omega
theorem wpList_skip {P : Program} {w : World} {ops : Array Oper} {rest : List Oper} {o : Oper} {a : Act} {Q : Exit → Act → World → Prop} (hw : Region.wanted o (yielded ops a.tmps) = false) (h : wpList P ops Q rest (a.put o.dst undef) w) : wpList P ops Q (o :: rest) a w :=
  wpList_step fun K hK => by
    rw [if_neg (by rw [hw]; decide)]
    exact hK _ _ h
set_option maxRecDepth 100000 in
set_option maxHeartbeats 16000000 in
theorem mixes_refused (n m k : Int) (a b c : List UInt8) (A B C : Option Addr) (ca cb cc : Nat) (bs ms : Int) (w : World) (n0 : 0 ≤ n) (n1 : n < 4294967296) (m0 : 0 ≤ m) (m1 : m < 4294967296) (k0 : 0 ≤ k) (k1 : k < 4294967296) (la : a.length ≤ 140737488351232) (lb : b.length ≤ 140737488351232) (lc : c.length ≤ 140737488351232) (ra : Rd w A a) (rb : Rd w B b) (rc : Rd w C c) (b0 : 0 ≤ bs) (b1 : bs < 256) (s0 : 0 ≤ ms) (s1 : ms < 256) (he : putE n a ≠ 0) :
    Calls Try.prog 5 #[.int .u32 n, .int .u32 m, .int .u32 k, .slice A a.length ca, .slice B b.length cb, .slice C c.length cc, .int .u8 bs, .int .u8 ms] w fun e w' => e = .returned (.bool true) ∧ Below w.heap.size w w' := by
  have hp1 := Put_any n a A ca w (by omega) n0 n1 ra
  have hp2 := fun W h => Put_any m b B cb W (by omega) m0 m1 h
  have hp3 := fun W h => Put_any k c C cc W (by omega) k0 k1 h
  have HRB := Lib.hid rb
  have HRC := Lib.hid rc
  have HX := Lib.hid (putB_len n a)
  have HY := Lib.hid (putB_len m b)
  have HZ := Lib.hid (putB_len k c)
  have he1 : (putE n a != 0) = true := by simpa using he
  generalize putE n a = pe at *
  generalize putE m b = pf at *
  generalize putE k c = pg at *
  clear he
  generalize putB n a = X at *
  generalize putB m b = Y at *
  generalize putB k c = Z at *
  have n1' : n ≤ 4294967295 := by omega
  have m1' : m ≤ 4294967295 := by omega
  have k1' : k ≤ 4294967295 := by omega
  clear ra rb rc n1 m1 k1 la lb lc b0 b1 s0 s1
  go_enter Try.func5, Try.ntmps5
  go_wp2_with fail
  refine hp1.mono ?_
  clear hp1
  rintro e v1 ⟨rfl, hb⟩
  have B1 := Lib.hid hb
  clear hb
  go_wp2_with (first 
    | (refine wpList_alloc_blk rfl rfl ?_; intro g17 u1 hk hb hg; go_frame; have KA17 := Lib.hid hk; have BA17 := Lib.hid hb; have GA17 := Lib.hid hg; clear hk hb hg) 
    | (refine wpList_fill_blk rfl (.tmp 17) _ rfl g17 rfl X rfl HX.out KA17.out ?_; intro x1 hk hr; go_frame; have KF17 := Lib.hid hk; have BF17 := Lib.hid (keep_own BA17.out hr GA17.out); clear hk hr))
  have B2 := Lib.hid (below_chain B1.out BF17.out)
  clear KA17 BA17 GA17 B1 BF17
  refine (hp2 _ (HRB.out.below B2.out)).mono ?_
  clear hp2 HRB
  rintro e v2 ⟨rfl, hb⟩
  have B3 := Lib.hid (below_chain B2.out hb)
  have K17 := Lib.hid (KF17.out.below hb KF17.out.lt)
  clear hb B2 KF17
  go_wp2_with (first 
    | (refine wpList_alloc_blk rfl rfl ?_; intro g19 u2 hk hb hg; go_frame; have KA19 := Lib.hid hk; have BA19 := Lib.hid hb; have GA19 := Lib.hid hg; clear hk hb hg) 
    | (refine wpList_fill_blk rfl (.tmp 19) _ rfl g19 rfl Y rfl HY.out KA19.out ?_; intro x2 hk hr; go_frame; have KF19 := Lib.hid hk; have BF19 := Lib.hid (keep_own BA19.out hr GA19.out); clear hk hr))
  have B4 := Lib.hid (below_chain B3.out BF19.out)
  have K17b := Lib.hid (K17.out.below BF19.out K17.out.lt)
  clear KA19 BA19 GA19 B3 BF19 K17
  refine (hp3 _ (HRC.out.below B4.out)).mono ?_
  clear hp3 HRC
  rintro e v3 ⟨rfl, hb⟩
  have B5 := Lib.hid (below_chain B4.out hb)
  have K17c := Lib.hid (K17b.out.below hb K17b.out.lt)
  have K19 := Lib.hid (KF19.out.below hb KF19.out.lt)
  clear hb B4 KF19 K17b
  go_wp2_with (first 
    | (refine wpList_alloc_blk rfl rfl ?_; intro g21 u3 hk hb hg; go_frame; have KA21 := Lib.hid hk; have BA21 := Lib.hid hb; have GA21 := Lib.hid hg; clear hk hb hg) 
    | (refine wpList_fill_blk rfl (.tmp 21) _ rfl g21 rfl Z rfl HZ.out KA21.out ?_; intro x3 hk hr; go_frame; have KF21 := Lib.hid hk; have BF21 := Lib.hid (keep_own BA21.out hr GA21.out); clear hk hr))
  have B6 := Lib.hid (below_chain B5.out BF21.out)
  refine (lives_any _).mono ?_
  rintro e v4 ⟨rfl, hb⟩
  have B7 := Lib.hid (below_chain B6.out hb)
  clear hb
  go_wp2_with fail
  go_ret
  exact ⟨rfl, B7.out⟩
set_option maxRecDepth 100000 in
set_option maxHeartbeats 16000000 in
theorem mixes_nm (n m k : Int) (a b c : List UInt8) (A B C : Option Addr) (ca cb cc : Nat) (bs ms : Int) (w : World) (n0 : 0 ≤ n) (n1 : n < 4294967296) (m0 : 0 ≤ m) (m1 : m < 4294967296) (k0 : 0 ≤ k) (k1 : k < 4294967296) (la : a.length ≤ 140737488351232) (lb : b.length ≤ 140737488351232) (lc : c.length ≤ 140737488351232) (ra : Rd w A a) (rb : Rd w B b) (rc : Rd w C c) (b0 : 0 ≤ bs) (b1 : bs < 256) (s0 : 0 ≤ ms) (s1 : ms < 256) (he : putE n a = 0) (hnm : n = m) :
    Calls Try.prog 5 #[.int .u32 n, .int .u32 m, .int .u32 k, .slice A a.length ca, .slice B b.length cb, .slice C c.length cc, .int .u8 bs, .int .u8 ms] w fun e w' => e = .returned (.bool true) ∧ Below w.heap.size w w' := by
  have hp1 := Put_any n a A ca w (by omega) n0 n1 ra
  have hp2 := fun W h => Put_any m b B cb W (by omega) m0 m1 h
  have hp3 := fun W h => Put_any k c C cc W (by omega) k0 k1 h
  have HRB := Lib.hid rb
  have HRC := Lib.hid rc
  have HX := Lib.hid (putB_len n a)
  have HY := Lib.hid (putB_len m b)
  have HZ := Lib.hid (putB_len k c)
  rw [he] at hp1
  have hq : (n == m) = true := by simpa using hnm
  generalize putE m b = pf at *
  generalize putE k c = pg at *
  clear he hnm
  generalize putB n a = X at *
  generalize putB m b = Y at *
  generalize putB k c = Z at *
  have n1' : n ≤ 4294967295 := by omega
  have m1' : m ≤ 4294967295 := by omega
  have k1' : k ≤ 4294967295 := by omega
  clear ra rb rc n1 m1 k1 la lb lc b0 b1 s0 s1
  go_enter Try.func5, Try.ntmps5
  go_wp2_with fail
  refine hp1.mono ?_
  clear hp1
  rintro e v1 ⟨rfl, hb⟩
  have B1 := Lib.hid hb
  clear hb
  go_wp2_with (first 
    | (refine wpList_alloc_blk rfl rfl ?_; intro g17 u1 hk hb hg; go_frame; have KA17 := Lib.hid hk; have BA17 := Lib.hid hb; have GA17 := Lib.hid hg; clear hk hb hg) 
    | (refine wpList_fill_blk rfl (.tmp 17) _ rfl g17 rfl X rfl HX.out KA17.out ?_; intro x1 hk hr; go_frame; have KF17 := Lib.hid hk; have BF17 := Lib.hid (keep_own BA17.out hr GA17.out); clear hk hr))
  have B2 := Lib.hid (below_chain B1.out BF17.out)
  clear KA17 BA17 GA17 B1 BF17
  refine (hp2 _ (HRB.out.below B2.out)).mono ?_
  clear hp2 HRB
  rintro e v2 ⟨rfl, hb⟩
  have B3 := Lib.hid (below_chain B2.out hb)
  have K17 := Lib.hid (KF17.out.below hb KF17.out.lt)
  clear hb B2 KF17
  go_wp2_with (first 
    | (refine wpList_alloc_blk rfl rfl ?_; intro g19 u2 hk hb hg; go_frame; have KA19 := Lib.hid hk; have BA19 := Lib.hid hb; have GA19 := Lib.hid hg; clear hk hb hg) 
    | (refine wpList_fill_blk rfl (.tmp 19) _ rfl g19 rfl Y rfl HY.out KA19.out ?_; intro x2 hk hr; go_frame; have KF19 := Lib.hid hk; have BF19 := Lib.hid (keep_own BA19.out hr GA19.out); clear hk hr))
  have B4 := Lib.hid (below_chain B3.out BF19.out)
  have K17b := Lib.hid (K17.out.below BF19.out K17.out.lt)
  clear KA19 BA19 GA19 B3 BF19 K17
  refine (hp3 _ (HRC.out.below B4.out)).mono ?_
  clear hp3 HRC
  rintro e v3 ⟨rfl, hb⟩
  have B5 := Lib.hid (below_chain B4.out hb)
  have K17c := Lib.hid (K17b.out.below hb K17b.out.lt)
  have K19 := Lib.hid (KF19.out.below hb KF19.out.lt)
  clear hb B4 KF19 K17b
  go_wp2_with (first 
    | (refine wpList_alloc_blk rfl rfl ?_; intro g21 u3 hk hb hg; go_frame; have KA21 := Lib.hid hk; have BA21 := Lib.hid hb; have GA21 := Lib.hid hg; clear hk hb hg) 
    | (refine wpList_fill_blk rfl (.tmp 21) _ rfl g21 rfl Z rfl HZ.out KA21.out ?_; intro x3 hk hr; go_frame; have KF21 := Lib.hid hk; have BF21 := Lib.hid (keep_own BA21.out hr GA21.out); clear hk hr))
  have B6 := Lib.hid (below_chain B5.out BF21.out)
  refine (lives_any _).mono ?_
  rintro e v4 ⟨rfl, hb⟩
  have B7 := Lib.hid (below_chain B6.out hb)
  clear hb
  go_wp2_with fail
  go_ret
  exact ⟨rfl, B7.out⟩
set_option maxRecDepth 100000 in
set_option maxHeartbeats 16000000 in
theorem mixes_nk (n m k : Int) (a b c : List UInt8) (A B C : Option Addr) (ca cb cc : Nat) (bs ms : Int) (w : World) (n0 : 0 ≤ n) (n1 : n < 4294967296) (m0 : 0 ≤ m) (m1 : m < 4294967296) (k0 : 0 ≤ k) (k1 : k < 4294967296) (la : a.length ≤ 140737488351232) (lb : b.length ≤ 140737488351232) (lc : c.length ≤ 140737488351232) (ra : Rd w A a) (rb : Rd w B b) (rc : Rd w C c) (b0 : 0 ≤ bs) (b1 : bs < 256) (s0 : 0 ≤ ms) (s1 : ms < 256) (he : putE n a = 0) (hnm : n ≠ m) (hnk : n = k) :
    Calls Try.prog 5 #[.int .u32 n, .int .u32 m, .int .u32 k, .slice A a.length ca, .slice B b.length cb, .slice C c.length cc, .int .u8 bs, .int .u8 ms] w fun e w' => e = .returned (.bool true) ∧ Below w.heap.size w w' := by
  have hp1 := Put_any n a A ca w (by omega) n0 n1 ra
  have hp2 := fun W h => Put_any m b B cb W (by omega) m0 m1 h
  have hp3 := fun W h => Put_any k c C cc W (by omega) k0 k1 h
  have HRB := Lib.hid rb
  have HRC := Lib.hid rc
  have HX := Lib.hid (putB_len n a)
  have HY := Lib.hid (putB_len m b)
  have HZ := Lib.hid (putB_len k c)
  rw [he] at hp1
  have hq : (n == m) = false := by simpa using hnm
  have hq2 : (n == k) = true := by simpa using hnk
  generalize putE m b = pf at *
  generalize putE k c = pg at *
  clear he hnm hnk
  generalize putB n a = X at *
  generalize putB m b = Y at *
  generalize putB k c = Z at *
  have n1' : n ≤ 4294967295 := by omega
  have m1' : m ≤ 4294967295 := by omega
  have k1' : k ≤ 4294967295 := by omega
  clear ra rb rc n1 m1 k1 la lb lc b0 b1 s0 s1
  go_enter Try.func5, Try.ntmps5
  go_wp2_with fail
  refine hp1.mono ?_
  clear hp1
  rintro e v1 ⟨rfl, hb⟩
  have B1 := Lib.hid hb
  clear hb
  go_wp2_with (first 
    | (refine wpList_alloc_blk rfl rfl ?_; intro g17 u1 hk hb hg; go_frame; have KA17 := Lib.hid hk; have BA17 := Lib.hid hb; have GA17 := Lib.hid hg; clear hk hb hg) 
    | (refine wpList_fill_blk rfl (.tmp 17) _ rfl g17 rfl X rfl HX.out KA17.out ?_; intro x1 hk hr; go_frame; have KF17 := Lib.hid hk; have BF17 := Lib.hid (keep_own BA17.out hr GA17.out); clear hk hr))
  have B2 := Lib.hid (below_chain B1.out BF17.out)
  clear KA17 BA17 GA17 B1 BF17
  refine (hp2 _ (HRB.out.below B2.out)).mono ?_
  clear hp2 HRB
  rintro e v2 ⟨rfl, hb⟩
  have B3 := Lib.hid (below_chain B2.out hb)
  have K17 := Lib.hid (KF17.out.below hb KF17.out.lt)
  clear hb B2 KF17
  go_wp2_with (first 
    | (refine wpList_alloc_blk rfl rfl ?_; intro g19 u2 hk hb hg; go_frame; have KA19 := Lib.hid hk; have BA19 := Lib.hid hb; have GA19 := Lib.hid hg; clear hk hb hg) 
    | (refine wpList_fill_blk rfl (.tmp 19) _ rfl g19 rfl Y rfl HY.out KA19.out ?_; intro x2 hk hr; go_frame; have KF19 := Lib.hid hk; have BF19 := Lib.hid (keep_own BA19.out hr GA19.out); clear hk hr))
  have B4 := Lib.hid (below_chain B3.out BF19.out)
  have K17b := Lib.hid (K17.out.below BF19.out K17.out.lt)
  clear KA19 BA19 GA19 B3 BF19 K17
  refine (hp3 _ (HRC.out.below B4.out)).mono ?_
  clear hp3 HRC
  rintro e v3 ⟨rfl, hb⟩
  have B5 := Lib.hid (below_chain B4.out hb)
  have K17c := Lib.hid (K17b.out.below hb K17b.out.lt)
  have K19 := Lib.hid (KF19.out.below hb KF19.out.lt)
  clear hb B4 KF19 K17b
  go_wp2_with (first 
    | (refine wpList_alloc_blk rfl rfl ?_; intro g21 u3 hk hb hg; go_frame; have KA21 := Lib.hid hk; have BA21 := Lib.hid hb; have GA21 := Lib.hid hg; clear hk hb hg) 
    | (refine wpList_fill_blk rfl (.tmp 21) _ rfl g21 rfl Z rfl HZ.out KA21.out ?_; intro x3 hk hr; go_frame; have KF21 := Lib.hid hk; have BF21 := Lib.hid (keep_own BA21.out hr GA21.out); clear hk hr))
  have B6 := Lib.hid (below_chain B5.out BF21.out)
  refine (lives_any _).mono ?_
  rintro e v4 ⟨rfl, hb⟩
  have B7 := Lib.hid (below_chain B6.out hb)
  clear hb
  go_wp2_with fail
  go_ret
  exact ⟨rfl, B7.out⟩
set_option maxRecDepth 100000 in
set_option maxHeartbeats 16000000 in
theorem mixes_mk (n m k : Int) (a b c : List UInt8) (A B C : Option Addr) (ca cb cc : Nat) (bs ms : Int) (w : World) (n0 : 0 ≤ n) (n1 : n < 4294967296) (m0 : 0 ≤ m) (m1 : m < 4294967296) (k0 : 0 ≤ k) (k1 : k < 4294967296) (la : a.length ≤ 140737488351232) (lb : b.length ≤ 140737488351232) (lc : c.length ≤ 140737488351232) (ra : Rd w A a) (rb : Rd w B b) (rc : Rd w C c) (b0 : 0 ≤ bs) (b1 : bs < 256) (s0 : 0 ≤ ms) (s1 : ms < 256) (he : putE n a = 0) (hnm : n ≠ m) (hnk : n ≠ k) (hmk : m = k) (hm : m ≠ 0) :
    Calls Try.prog 5 #[.int .u32 n, .int .u32 m, .int .u32 k, .slice A a.length ca, .slice B b.length cb, .slice C c.length cc, .int .u8 bs, .int .u8 ms] w fun e w' => e = .returned (.bool true) ∧ Below w.heap.size w w' := by
  have hp1 := Put_any n a A ca w (by omega) n0 n1 ra
  have hp2 := fun W h => Put_any m b B cb W (by omega) m0 m1 h
  have hp3 := fun W h => Put_any k c C cc W (by omega) k0 k1 h
  have HRB := Lib.hid rb
  have HRC := Lib.hid rc
  have HX := Lib.hid (putB_len n a)
  have HY := Lib.hid (putB_len m b)
  have HZ := Lib.hid (putB_len k c)
  rw [he] at hp1
  have hq : (n == m) = false := by simpa using hnm
  have hq2 : (n == k) = false := by simpa using hnk
  have hq3 : (m == k) = true := by simpa using hmk
  have hq4 : (m != 0) = true := by simpa using hm
  generalize putE m b = pf at *
  generalize putE k c = pg at *
  clear he hnm hnk hmk hm
  generalize putB n a = X at *
  generalize putB m b = Y at *
  generalize putB k c = Z at *
  have n1' : n ≤ 4294967295 := by omega
  have m1' : m ≤ 4294967295 := by omega
  have k1' : k ≤ 4294967295 := by omega
  clear ra rb rc n1 m1 k1 la lb lc b0 b1 s0 s1
  go_enter Try.func5, Try.ntmps5
  go_wp2_with fail
  refine hp1.mono ?_
  clear hp1
  rintro e v1 ⟨rfl, hb⟩
  have B1 := Lib.hid hb
  clear hb
  go_wp2_with (first 
    | (refine wpList_alloc_blk rfl rfl ?_; intro g17 u1 hk hb hg; go_frame; have KA17 := Lib.hid hk; have BA17 := Lib.hid hb; have GA17 := Lib.hid hg; clear hk hb hg) 
    | (refine wpList_fill_blk rfl (.tmp 17) _ rfl g17 rfl X rfl HX.out KA17.out ?_; intro x1 hk hr; go_frame; have KF17 := Lib.hid hk; have BF17 := Lib.hid (keep_own BA17.out hr GA17.out); clear hk hr))
  have B2 := Lib.hid (below_chain B1.out BF17.out)
  clear KA17 BA17 GA17 B1 BF17
  refine (hp2 _ (HRB.out.below B2.out)).mono ?_
  clear hp2 HRB
  rintro e v2 ⟨rfl, hb⟩
  have B3 := Lib.hid (below_chain B2.out hb)
  have K17 := Lib.hid (KF17.out.below hb KF17.out.lt)
  clear hb B2 KF17
  go_wp2_with (first 
    | (refine wpList_alloc_blk rfl rfl ?_; intro g19 u2 hk hb hg; go_frame; have KA19 := Lib.hid hk; have BA19 := Lib.hid hb; have GA19 := Lib.hid hg; clear hk hb hg) 
    | (refine wpList_fill_blk rfl (.tmp 19) _ rfl g19 rfl Y rfl HY.out KA19.out ?_; intro x2 hk hr; go_frame; have KF19 := Lib.hid hk; have BF19 := Lib.hid (keep_own BA19.out hr GA19.out); clear hk hr))
  have B4 := Lib.hid (below_chain B3.out BF19.out)
  have K17b := Lib.hid (K17.out.below BF19.out K17.out.lt)
  clear KA19 BA19 GA19 B3 BF19 K17
  refine (hp3 _ (HRC.out.below B4.out)).mono ?_
  clear hp3 HRC
  rintro e v3 ⟨rfl, hb⟩
  have B5 := Lib.hid (below_chain B4.out hb)
  have K17c := Lib.hid (K17b.out.below hb K17b.out.lt)
  have K19 := Lib.hid (KF19.out.below hb KF19.out.lt)
  clear hb B4 KF19 K17b
  go_wp2_with (first 
    | (refine wpList_alloc_blk rfl rfl ?_; intro g21 u3 hk hb hg; go_frame; have KA21 := Lib.hid hk; have BA21 := Lib.hid hb; have GA21 := Lib.hid hg; clear hk hb hg) 
    | (refine wpList_fill_blk rfl (.tmp 21) _ rfl g21 rfl Z rfl HZ.out KA21.out ?_; intro x3 hk hr; go_frame; have KF21 := Lib.hid hk; have BF21 := Lib.hid (keep_own BA21.out hr GA21.out); clear hk hr))
  have B6 := Lib.hid (below_chain B5.out BF21.out)
  refine (lives_any _).mono ?_
  rintro e v4 ⟨rfl, hb⟩
  have B7 := Lib.hid (below_chain B6.out hb)
  clear hb
  go_wp2_with fail
  go_ret
  exact ⟨rfl, B7.out⟩

end Go.Proofs.Ytlhbipommhljiaa
