/- SealMixes, the walk: a mix is the one, or the other, or refused. -/
import Derived.Test.YtlhbipommhljiaaSealMixesE
namespace Go.Proofs.Ytlhbipommhljiaa
open Go.RowKit Go.Shelf
set_option linter.unusedVariables false
set_option linter.unusedSimpArgs false

set_option maxRecDepth 100000 in
set_option maxHeartbeats 16000000 in
theorem mixes_ff (n m k : Int) (a b c : List UInt8) (A B C : Option Addr) (ca cb cc : Nat) (bs ms : Int) (w : World) (n0 : 0 ≤ n) (n1 : n < 4294967296) (m0 : 0 ≤ m) (m1 : m < 4294967296) (k0 : 0 ≤ k) (k1 : k < 4294967296) (la : a.length ≤ 140737488351232) (lb : b.length ≤ 140737488351232) (lc : c.length ≤ 140737488351232) (ra : Rd w A a) (rb : Rd w B b) (rc : Rd w C c) (b0 : 0 ≤ bs) (b1 : bs < 256) (s0 : 0 ≤ ms) (s1 : ms < 256) (he : putE n a = 0) (hnm : n ≠ m) (hnk : n ≠ k) (hmk : m ≠ k) (hf : putE m b = 0) (hg : putE k c = 0) :
    Calls Try.prog 5 #[.int .u32 n, .int .u32 m, .int .u32 k, .slice A a.length ca, .slice B b.length cb, .slice C c.length cc, .int .u8 bs, .int .u8 ms] w fun e w' => e = .returned (.bool true) ∧ Below w.heap.size w w' := by
  have hp1 := Put_any n a A ca w (by omega) n0 n1 ra
  have hp2 := fun W h => Put_any m b B cb W (by omega) m0 m1 h
  have hp3 := fun W h => Put_any k c C cc W (by omega) k0 k1 h
  have HRB := Lib.hid rb
  have HRC := Lib.hid rc
  have HX := Lib.hid (putB_len n a)
  have HY := Lib.hid (putB_len m b)
  have HZ := Lib.hid (putB_len k c)
  have hn0 := putE_pos he
  have tx := fun q hq => tag_putB n a n0 n1 q hq
  have ty := fun q hq => tag_putB m b m0 m1 q hq
  have tz := fun q hq => tag_putB k c k0 k1 q hq
  have sn : saidN n a = n := by unfold saidN; rw [if_pos he]
  have sm := said_cases m b
  have sk := said_cases k c
  rw [sn] at tx
  have hq1 : n ≠ saidN m b := by rcases sm with e | e <;> rw [e] <;> omega
  have hq2 : n ≠ saidN k c := by rcases sk with e | e <;> rw [e] <;> omega
  have hq3 : saidN m b ≠ saidN k c ∨ saidN m b = 0 := by rcases sm with e | e <;> rcases sk with e2 | e2 <;> rw [e, e2] <;> omega
  have HO := Lib.hid (fun h => mix_one (bs := bs) HX.out HY.out tx ty hq1 h)
  have HT := Lib.hid (fun h => mix_two (bs := bs) (cs := ms) HX.out HY.out HZ.out tx ty tz hq1 hq2 hq3 h)
  have HG : Hid (greatest (torn (putB n a) (putB m b) bs) ≤ if n ≤ m then m else n) := Lib.hid (Int.le_trans (mix_greatest (bs := bs) HX.out HY.out tx ty) (max_said n m _ n0 m0 sm))
  have hm1 := fun W => Mix_any (putB n a) (putB m b) bs W HX.out HY.out b0 b1
  have HOL := Lib.hid (torn_len (putB n a) (putB m b) bs HX.out HY.out)
  have hm2 := fun W => Mix_any (torn (putB n a) (putB m b) bs) (putB k c) ms W HOL.out HZ.out s0 s1
  have HTL := Lib.hid (torn_len (torn (putB n a) (putB m b) bs) (putB k c) ms HOL.out HZ.out)
  have hgr := Greatest_any (torn (putB n a) (putB m b) bs) HOL.out
  rw [he] at hp1
  rw [hf] at hp2
  rw [hg] at hp3
  have e1 : (n == m) = false := by simpa using hnm
  have e2 : (n == k) = false := by simpa using hnk
  have e3 : (m == k) = false := by simpa using hmk
  generalize greatest (torn (putB n a) (putB m b) bs) = gr at *
  generalize torn (torn (putB n a) (putB m b) bs) (putB k c) ms = T at *
  generalize torn (putB n a) (putB m b) bs = O at *
  generalize putB n a = X at *
  generalize putB m b = Y at *
  generalize putB k c = Z at *
  have n1' : n ≤ 4294967295 := by omega
  have m1' : m ≤ 4294967295 := by omega
  have k1' : k ≤ 4294967295 := by omega
  have b1' : bs ≤ 255 := by omega
  have s1' : ms ≤ 255 := by omega
  have hle := HG.out
  clear ra rb rc n1 m1 k1 la lb lc b1 s1 hn0 tx ty tz sn sm sk hq1 hq2 hq3 he hnm hnk hmk HG hf hg
  go_enter Try.func5, Try.ntmps5
  go_wp2_with fail
  refine hp1.mono ?_
  clear hp1
  rintro e v1 ⟨rfl, hb⟩
  have B1 := Lib.hid hb
  clear hb
  go_wp2_with (first 
    | (refine wpList_alloc_blk rfl rfl ?_; intro g17 u1 hk hb hg; go_frame; have KA17 := Lib.hid hk; have BA17 := Lib.hid hb; have GA17 := Lib.hid hg; clear hk hb hg) 
    | (refine wpList_fill_blk rfl (.tmp 17) _ rfl g17 rfl X rfl HX.out KA17.out ?_; intro x1 hk hr; go_frame; have KF17 := Lib.hid hk; have BF17 := Lib.hid (keep_own BA17.out hr GA17.out); clear hk hr))
  have B2 := Lib.hid (below_chain B1.out BF17.out)
  clear KA17 BA17 GA17 B1 BF17
  refine (hp2 _ (HRB.out.below B2.out)).mono ?_
  clear hp2 HRB
  rintro e v2 ⟨rfl, hb⟩
  have B3 := Lib.hid (below_chain B2.out hb)
  have K17 := Lib.hid (KF17.out.below hb KF17.out.lt)
  clear hb B2 KF17
  go_wp2_with (first 
    | (refine wpList_alloc_blk rfl rfl ?_; intro g19 u2 hk hb hg; go_frame; have KA19 := Lib.hid hk; have BA19 := Lib.hid hb; have GA19 := Lib.hid hg; clear hk hb hg) 
    | (refine wpList_fill_blk rfl (.tmp 19) _ rfl g19 rfl Y rfl HY.out KA19.out ?_; intro x2 hk hr; go_frame; have KF19 := Lib.hid hk; have BF19 := Lib.hid (keep_own BA19.out hr GA19.out); clear hk hr))
  have G19 := Lib.hid (show w.heap.size ≤ g19 by have := B3.out.size; have := GA19.out; omega)
  have N19 := Lib.hid (show g17 ≠ g19 by have := K17.out.lt; have := GA19.out; omega)
  have B4 := Lib.hid (below_chain B3.out BF19.out)
  have K17b := Lib.hid (K17.out.below BF19.out K17.out.lt)
  clear KA19 BA19 GA19 B3 BF19 K17
  refine (hp3 _ (HRC.out.below B4.out)).mono ?_
  clear hp3 HRC
  rintro e v3 ⟨rfl, hb⟩
  have B5 := Lib.hid (below_chain B4.out hb)
  have K17c := Lib.hid (K17b.out.below hb K17b.out.lt)
  have K19 := Lib.hid (KF19.out.below hb KF19.out.lt)
  clear hb B4 KF19 K17b
  go_wp2_with (first 
    | (refine wpList_alloc_blk rfl rfl ?_; intro g21 u3 hk hb hg; go_frame; have KA21 := Lib.hid hk; have BA21 := Lib.hid hb; have GA21 := Lib.hid hg; clear hk hb hg) 
    | (refine wpList_fill_blk rfl (.tmp 21) _ rfl g21 rfl Z rfl HZ.out KA21.out ?_; intro x3 hk hr; go_frame; have KF21 := Lib.hid hk; have BF21 := Lib.hid (keep_own BA21.out hr GA21.out); clear hk hr; have B6 := Lib.hid (below_chain B5.out BF21.out); have K17d := Lib.hid (K17c.out.below BF21.out K17c.out.lt); have K19d := Lib.hid (K19.out.below BF21.out K19.out.lt); have N21 := Lib.hid (show g19 ≠ g21 by have := K19.out.lt; have := GA21.out; omega); have N17 := Lib.hid (show g17 ≠ g21 by have := K17c.out.lt; have := GA21.out; omega); have G21 := Lib.hid (show w.heap.size ≤ g21 by have := B5.out.size; have := GA21.out; omega); clear KA21 BA21 GA21 BF21 B5 K17c K19) 
    | (refine wpList_build_zero rfl rfl ?_; go_frame) 
    | (refine wpList_load_blk rfl (.tmp 17) rfl g17 0 rfl X HX.out (At.whole (K17d.out)) ?_; go_frame) 
    | (refine wpList_load_blk rfl (.tmp 19) rfl g19 0 rfl Y HY.out (At.whole (K19d.out)) ?_; go_frame))
  clear N19 N21 N17 G19 G21
  refine (hm1 _).mono ?_
  clear hm1
  rintro e v4 ⟨rfl, hb⟩
  have H1 := Lib.hid hb
  clear hb
  go_wp2_with (first 
    | (refine wpList_alloc_blk rfl rfl ?_; intro g23 u4 hk hb hg; go_frame; have KA23 := Lib.hid hk; have BA23 := Lib.hid hb; have GA23 := Lib.hid hg; clear hk hb hg) 
    | (refine wpList_fill_blk rfl (.tmp 23) _ rfl g23 rfl O rfl HOL.out KA23.out ?_; intro x4 hk hr; go_frame; have KF23 := Lib.hid hk; have BF23 := Lib.hid (keep_own BA23.out hr GA23.out); clear hk hr) 
    | (refine wpList_load_blk rfl (.tmp 23) rfl g23 0 rfl O HOL.out (At.whole (KF23.out)) ?_; go_frame) 
    | (refine wpList_load_blk rfl (.tmp 21) rfl g21 0 rfl Z HZ.out (At.whole (KF21.out.below (below_chain H1.out BF23.out) KF21.out.lt)) ?_; go_frame))
  have H2 := Lib.hid (below_chain H1.out BF23.out)
  clear KA23 BA23 GA23 BF23 H1
  refine (hm2 _).mono ?_
  clear hm2
  rintro e v5 ⟨rfl, hb⟩
  have H3 := Lib.hid (below_chain H2.out hb)
  have K23 := Lib.hid (KF23.out.below hb KF23.out.lt)
  clear hb H2 KF23
  go_wp2_with (first 
    | (refine wpList_alloc_blk rfl rfl ?_; intro g24 u5 hk hb hg; go_frame; have KA24 := Lib.hid hk; have BA24 := Lib.hid hb; have GA24 := Lib.hid hg; clear hk hb hg) 
    | (refine wpList_fill_blk rfl (.tmp 24) _ rfl g24 rfl T rfl HTL.out KA24.out ?_; intro x5 hk hr; go_frame; have KF24 := Lib.hid hk; have BF24 := Lib.hid (keep_own BA24.out hr GA24.out); clear hk hr) 
    | (refine wpList_load_blk rfl (.tmp 23) rfl g23 0 rfl O HOL.out (At.whole (K23.out.below BF24.out K23.out.lt)) ?_; go_frame))
  have H4 := Lib.hid (below_chain H3.out BF24.out)
  have K23x := Lib.hid (K23.out.below BF24.out K23.out.lt)
  have K17x := Lib.hid (K17d.out.below H4.out K17d.out.lt)
  have K19x := Lib.hid (K19d.out.below H4.out K19d.out.lt)
  have K21x := Lib.hid (KF21.out.below H4.out KF21.out.lt)
  have BX := Lib.hid (below_chain B6.out H4.out)
  have K24x := KF24
  clear KA24 BA24 GA24 BF24 KF24 H3 H4 K23 K17d K19d KF21 B6
  by_cases hO : getE O = 0
  · refine (get_ok O HOL.out hO _).mono ?_
    rintro e v6 ⟨gg, rfl, -, hb⟩
    have I1 := Lib.hid hb
    clear hb
    have hcs := HO.out hO
    clear hO HO
    generalize tag O 0 = ot at *
    by_cases h1 : O = X
    · have HC1 := Lib.hid (show (!(O == X)) = false by rw [h1, beq_self_eq_true]; rfl)
      clear h1 hcs
      go_wp2_with (first 
        | (refine wpList_load_blk rfl (.tmp 24) rfl g24 0 rfl T HTL.out (At.whole (K24x.out.below I1.out K24x.out.lt)) ?_; go_frame))
      by_cases hT : getE T = 0
      · refine (get_ok T HTL.out hT _).mono ?_
        rintro e v7 ⟨gt, rfl, -, hb⟩
        have I2 := Lib.hid (below_chain I1.out hb)
        clear hb I1
        have hcs := HT.out hT
        clear hT HT
        generalize tag T 0 = tt at *
        by_cases h1 : T = X
        · have HD1 := Lib.hid (show (!(T == X)) = false by rw [h1, beq_self_eq_true]; rfl)
          clear h1 hcs
          go_wp2_with (first 
            | (refine wpList_skip (by rfl) ?_; go_frame) 
            | (refine wpList_load_blk_g (by rfl) (.tmp 23) rfl g23 0 rfl O HOL.out (At.whole (K23x.out.below I2.out K23x.out.lt)) ?_; go_frame) 
            | (refine wpList_load_blk_g (by rfl) (.tmp 17) rfl g17 0 rfl X HX.out (At.whole (K17x.out.below I2.out K17x.out.lt)) ?_; go_frame) 
            | (refine wpList_load_blk_g (by rfl) (.tmp 24) rfl g24 0 rfl T HTL.out (At.whole (K24x.out.below I2.out K24x.out.lt)) ?_; go_frame) 
            | (refine wpList_neq_blk (by rfl) (.tmp 100) (.tmp 101) _ rfl O X rfl rfl HOL.out HX.out false HC1.out ?_; go_frame) 
            | (refine wpList_neq_blk (by rfl) (.tmp 113) (.tmp 114) _ rfl T X rfl rfl HTL.out HX.out false HD1.out ?_; go_frame) 
            | (refine wpList_load_blk rfl (.tmp 23) rfl g23 0 rfl O HOL.out (At.whole (K23x.out.below I2.out K23x.out.lt)) ?_; go_frame))
          refine (hgr _).mono ?_
          rintro e v8 ⟨rfl, hb⟩
          have I3 := Lib.hid (below_chain I2.out hb)
          clear hb I2
          go_wp2_with fail
          refine (lives_any _).mono ?_
          rintro e v9 ⟨rfl, hb⟩
          have I4 := Lib.hid (below_chain I3.out hb)
          clear hb I3
          go_wp2_with fail
          go_ret
          exact ⟨rfl, below_chain BX.out I4.out⟩
        · have HD1 := Lib.hid (show (!(T == X)) = true by simpa using h1)
          by_cases h2 : T = Y
          · have HD2 := Lib.hid (show (!(T == Y)) = false by rw [h2, beq_self_eq_true]; rfl)
            clear h1 h2 hcs
            go_wp2_with (first 
              | (refine wpList_skip (by rfl) ?_; go_frame) 
              | (refine wpList_load_blk_g (by rfl) (.tmp 23) rfl g23 0 rfl O HOL.out (At.whole (K23x.out.below I2.out K23x.out.lt)) ?_; go_frame) 
              | (refine wpList_load_blk_g (by rfl) (.tmp 17) rfl g17 0 rfl X HX.out (At.whole (K17x.out.below I2.out K17x.out.lt)) ?_; go_frame) 
              | (refine wpList_load_blk_g (by rfl) (.tmp 19) rfl g19 0 rfl Y HY.out (At.whole (K19x.out.below I2.out K19x.out.lt)) ?_; go_frame) 
              | (refine wpList_load_blk_g (by rfl) (.tmp 24) rfl g24 0 rfl T HTL.out (At.whole (K24x.out.below I2.out K24x.out.lt)) ?_; go_frame) 
              | (refine wpList_neq_blk (by rfl) (.tmp 100) (.tmp 101) _ rfl O X rfl rfl HOL.out HX.out false HC1.out ?_; go_frame) 
              | (refine wpList_neq_blk (by rfl) (.tmp 113) (.tmp 114) _ rfl T X rfl rfl HTL.out HX.out true HD1.out ?_; go_frame) 
              | (refine wpList_neq_blk (by rfl) (.tmp 118) (.tmp 119) _ rfl T Y rfl rfl HTL.out HY.out false HD2.out ?_; go_frame) 
              | (refine wpList_load_blk rfl (.tmp 23) rfl g23 0 rfl O HOL.out (At.whole (K23x.out.below I2.out K23x.out.lt)) ?_; go_frame))
            refine (hgr _).mono ?_
            rintro e v8 ⟨rfl, hb⟩
            have I3 := Lib.hid (below_chain I2.out hb)
            clear hb I2
            go_wp2_with fail
            refine (lives_any _).mono ?_
            rintro e v9 ⟨rfl, hb⟩
            have I4 := Lib.hid (below_chain I3.out hb)
            clear hb I3
            go_wp2_with fail
            go_ret
            exact ⟨rfl, below_chain BX.out I4.out⟩
          · have h3 : T = Z := by rcases hcs with h | h | h; exact absurd h h1; exact absurd h h2; exact h
            have HD2 := Lib.hid (show (!(T == Y)) = true by simpa using h2)
            have HD3 := Lib.hid (show (!(T == Z)) = false by rw [h3, beq_self_eq_true]; rfl)
            clear h1 h2 h3 hcs
            go_wp2_with (first 
              | (refine wpList_skip (by rfl) ?_; go_frame) 
              | (refine wpList_load_blk_g (by rfl) (.tmp 23) rfl g23 0 rfl O HOL.out (At.whole (K23x.out.below I2.out K23x.out.lt)) ?_; go_frame) 
              | (refine wpList_load_blk_g (by rfl) (.tmp 17) rfl g17 0 rfl X HX.out (At.whole (K17x.out.below I2.out K17x.out.lt)) ?_; go_frame) 
              | (refine wpList_load_blk_g (by rfl) (.tmp 19) rfl g19 0 rfl Y HY.out (At.whole (K19x.out.below I2.out K19x.out.lt)) ?_; go_frame) 
              | (refine wpList_load_blk_g (by rfl) (.tmp 24) rfl g24 0 rfl T HTL.out (At.whole (K24x.out.below I2.out K24x.out.lt)) ?_; go_frame) 
              | (refine wpList_load_blk_g (by rfl) (.tmp 21) rfl g21 0 rfl Z HZ.out (At.whole (K21x.out.below I2.out K21x.out.lt)) ?_; go_frame) 
              | (refine wpList_neq_blk (by rfl) (.tmp 100) (.tmp 101) _ rfl O X rfl rfl HOL.out HX.out false HC1.out ?_; go_frame) 
              | (refine wpList_neq_blk (by rfl) (.tmp 113) (.tmp 114) _ rfl T X rfl rfl HTL.out HX.out true HD1.out ?_; go_frame) 
              | (refine wpList_neq_blk (by rfl) (.tmp 118) (.tmp 119) _ rfl T Y rfl rfl HTL.out HY.out true HD2.out ?_; go_frame) 
              | (refine wpList_neq_blk (by rfl) (.tmp 123) (.tmp 124) _ rfl T Z rfl rfl HTL.out HZ.out false HD3.out ?_; go_frame) 
              | (refine wpList_load_blk rfl (.tmp 23) rfl g23 0 rfl O HOL.out (At.whole (K23x.out.below I2.out K23x.out.lt)) ?_; go_frame))
            refine (hgr _).mono ?_
            rintro e v8 ⟨rfl, hb⟩
            have I3 := Lib.hid (below_chain I2.out hb)
            clear hb I2
            go_wp2_with fail
            refine (lives_any _).mono ?_
            rintro e v9 ⟨rfl, hb⟩
            have I4 := Lib.hid (below_chain I3.out hb)
            clear hb I3
            go_wp2_with fail
            go_ret
            exact ⟨rfl, below_chain BX.out I4.out⟩
      · have hgn := get_no T HTL.out hT
        have hte : (getE T == 0) = false := by simpa using hT
        generalize getE T = te at *
        clear hT HT
        refine (hgn _).mono ?_
        clear hgn
        rintro e v7 ⟨rfl, hb⟩
        have I2 := Lib.hid (below_chain I1.out hb)
        clear hb I1
        go_wp2_with (first 
          | (refine wpList_skip (by rfl) ?_; go_frame) 
          | (refine wpList_load_blk_g (by rfl) (.tmp 23) rfl g23 0 rfl O HOL.out (At.whole (K23x.out.below I2.out K23x.out.lt)) ?_; go_frame) 
          | (refine wpList_load_blk_g (by rfl) (.tmp 17) rfl g17 0 rfl X HX.out (At.whole (K17x.out.below I2.out K17x.out.lt)) ?_; go_frame) 
          | (refine wpList_neq_blk (by rfl) (.tmp 100) (.tmp 101) _ rfl O X rfl rfl HOL.out HX.out false HC1.out ?_; go_frame) 
          | (refine wpList_load_blk rfl (.tmp 23) rfl g23 0 rfl O HOL.out (At.whole (K23x.out.below I2.out K23x.out.lt)) ?_; go_frame))
        refine (hgr _).mono ?_
        rintro e v8 ⟨rfl, hb⟩
        have I3 := Lib.hid (below_chain I2.out hb)
        clear hb I2
        go_wp2_with fail
        refine (lives_any _).mono ?_
        rintro e v9 ⟨rfl, hb⟩
        have I4 := Lib.hid (below_chain I3.out hb)
        clear hb I3
        go_wp2_with fail
        go_ret
        exact ⟨rfl, below_chain BX.out I4.out⟩
    · have h2 : O = Y := by rcases hcs with h | h; exact absurd h h1; exact h
      have HC1 := Lib.hid (show (!(O == X)) = true by simpa using h1)
      have HC2 := Lib.hid (show (!(O == Y)) = false by rw [h2, beq_self_eq_true]; rfl)
      clear h1 h2 hcs
      go_wp2_with (first 
        | (refine wpList_load_blk rfl (.tmp 24) rfl g24 0 rfl T HTL.out (At.whole (K24x.out.below I1.out K24x.out.lt)) ?_; go_frame))
      by_cases hT : getE T = 0
      · refine (get_ok T HTL.out hT _).mono ?_
        rintro e v7 ⟨gt, rfl, -, hb⟩
        have I2 := Lib.hid (below_chain I1.out hb)
        clear hb I1
        have hcs := HT.out hT
        clear hT HT
        generalize tag T 0 = tt at *
        by_cases h1 : T = X
        · have HD1 := Lib.hid (show (!(T == X)) = false by rw [h1, beq_self_eq_true]; rfl)
          clear h1 hcs
          go_wp2_with (first 
            | (refine wpList_skip (by rfl) ?_; go_frame) 
            | (refine wpList_load_blk_g (by rfl) (.tmp 23) rfl g23 0 rfl O HOL.out (At.whole (K23x.out.below I2.out K23x.out.lt)) ?_; go_frame) 
            | (refine wpList_load_blk_g (by rfl) (.tmp 17) rfl g17 0 rfl X HX.out (At.whole (K17x.out.below I2.out K17x.out.lt)) ?_; go_frame) 
            | (refine wpList_load_blk_g (by rfl) (.tmp 19) rfl g19 0 rfl Y HY.out (At.whole (K19x.out.below I2.out K19x.out.lt)) ?_; go_frame) 
            | (refine wpList_load_blk_g (by rfl) (.tmp 24) rfl g24 0 rfl T HTL.out (At.whole (K24x.out.below I2.out K24x.out.lt)) ?_; go_frame) 
            | (refine wpList_neq_blk (by rfl) (.tmp 100) (.tmp 101) _ rfl O X rfl rfl HOL.out HX.out true HC1.out ?_; go_frame) 
            | (refine wpList_neq_blk (by rfl) (.tmp 105) (.tmp 106) _ rfl O Y rfl rfl HOL.out HY.out false HC2.out ?_; go_frame) 
            | (refine wpList_neq_blk (by rfl) (.tmp 113) (.tmp 114) _ rfl T X rfl rfl HTL.out HX.out false HD1.out ?_; go_frame) 
            | (refine wpList_load_blk rfl (.tmp 23) rfl g23 0 rfl O HOL.out (At.whole (K23x.out.below I2.out K23x.out.lt)) ?_; go_frame))
          refine (hgr _).mono ?_
          rintro e v8 ⟨rfl, hb⟩
          have I3 := Lib.hid (below_chain I2.out hb)
          clear hb I2
          go_wp2_with fail
          refine (lives_any _).mono ?_
          rintro e v9 ⟨rfl, hb⟩
          have I4 := Lib.hid (below_chain I3.out hb)
          clear hb I3
          go_wp2_with fail
          go_ret
          exact ⟨rfl, below_chain BX.out I4.out⟩
        · have HD1 := Lib.hid (show (!(T == X)) = true by simpa using h1)
          by_cases h2 : T = Y
          · have HD2 := Lib.hid (show (!(T == Y)) = false by rw [h2, beq_self_eq_true]; rfl)
            clear h1 h2 hcs
            go_wp2_with (first 
              | (refine wpList_skip (by rfl) ?_; go_frame) 
              | (refine wpList_load_blk_g (by rfl) (.tmp 23) rfl g23 0 rfl O HOL.out (At.whole (K23x.out.below I2.out K23x.out.lt)) ?_; go_frame) 
              | (refine wpList_load_blk_g (by rfl) (.tmp 17) rfl g17 0 rfl X HX.out (At.whole (K17x.out.below I2.out K17x.out.lt)) ?_; go_frame) 
              | (refine wpList_load_blk_g (by rfl) (.tmp 19) rfl g19 0 rfl Y HY.out (At.whole (K19x.out.below I2.out K19x.out.lt)) ?_; go_frame) 
              | (refine wpList_load_blk_g (by rfl) (.tmp 24) rfl g24 0 rfl T HTL.out (At.whole (K24x.out.below I2.out K24x.out.lt)) ?_; go_frame) 
              | (refine wpList_neq_blk (by rfl) (.tmp 100) (.tmp 101) _ rfl O X rfl rfl HOL.out HX.out true HC1.out ?_; go_frame) 
              | (refine wpList_neq_blk (by rfl) (.tmp 105) (.tmp 106) _ rfl O Y rfl rfl HOL.out HY.out false HC2.out ?_; go_frame) 
              | (refine wpList_neq_blk (by rfl) (.tmp 113) (.tmp 114) _ rfl T X rfl rfl HTL.out HX.out true HD1.out ?_; go_frame) 
              | (refine wpList_neq_blk (by rfl) (.tmp 118) (.tmp 119) _ rfl T Y rfl rfl HTL.out HY.out false HD2.out ?_; go_frame) 
              | (refine wpList_load_blk rfl (.tmp 23) rfl g23 0 rfl O HOL.out (At.whole (K23x.out.below I2.out K23x.out.lt)) ?_; go_frame))
            refine (hgr _).mono ?_
            rintro e v8 ⟨rfl, hb⟩
            have I3 := Lib.hid (below_chain I2.out hb)
            clear hb I2
            go_wp2_with fail
            refine (lives_any _).mono ?_
            rintro e v9 ⟨rfl, hb⟩
            have I4 := Lib.hid (below_chain I3.out hb)
            clear hb I3
            go_wp2_with fail
            go_ret
            exact ⟨rfl, below_chain BX.out I4.out⟩
          · have h3 : T = Z := by rcases hcs with h | h | h; exact absurd h h1; exact absurd h h2; exact h
            have HD2 := Lib.hid (show (!(T == Y)) = true by simpa using h2)
            have HD3 := Lib.hid (show (!(T == Z)) = false by rw [h3, beq_self_eq_true]; rfl)
            clear h1 h2 h3 hcs
            go_wp2_with (first 
              | (refine wpList_skip (by rfl) ?_; go_frame) 
              | (refine wpList_load_blk_g (by rfl) (.tmp 23) rfl g23 0 rfl O HOL.out (At.whole (K23x.out.below I2.out K23x.out.lt)) ?_; go_frame) 
              | (refine wpList_load_blk_g (by rfl) (.tmp 17) rfl g17 0 rfl X HX.out (At.whole (K17x.out.below I2.out K17x.out.lt)) ?_; go_frame) 
              | (refine wpList_load_blk_g (by rfl) (.tmp 19) rfl g19 0 rfl Y HY.out (At.whole (K19x.out.below I2.out K19x.out.lt)) ?_; go_frame) 
              | (refine wpList_load_blk_g (by rfl) (.tmp 24) rfl g24 0 rfl T HTL.out (At.whole (K24x.out.below I2.out K24x.out.lt)) ?_; go_frame) 
              | (refine wpList_load_blk_g (by rfl) (.tmp 21) rfl g21 0 rfl Z HZ.out (At.whole (K21x.out.below I2.out K21x.out.lt)) ?_; go_frame) 
              | (refine wpList_neq_blk (by rfl) (.tmp 100) (.tmp 101) _ rfl O X rfl rfl HOL.out HX.out true HC1.out ?_; go_frame) 
              | (refine wpList_neq_blk (by rfl) (.tmp 105) (.tmp 106) _ rfl O Y rfl rfl HOL.out HY.out false HC2.out ?_; go_frame) 
              | (refine wpList_neq_blk (by rfl) (.tmp 113) (.tmp 114) _ rfl T X rfl rfl HTL.out HX.out true HD1.out ?_; go_frame) 
              | (refine wpList_neq_blk (by rfl) (.tmp 118) (.tmp 119) _ rfl T Y rfl rfl HTL.out HY.out true HD2.out ?_; go_frame) 
              | (refine wpList_neq_blk (by rfl) (.tmp 123) (.tmp 124) _ rfl T Z rfl rfl HTL.out HZ.out false HD3.out ?_; go_frame) 
              | (refine wpList_load_blk rfl (.tmp 23) rfl g23 0 rfl O HOL.out (At.whole (K23x.out.below I2.out K23x.out.lt)) ?_; go_frame))
            refine (hgr _).mono ?_
            rintro e v8 ⟨rfl, hb⟩
            have I3 := Lib.hid (below_chain I2.out hb)
            clear hb I2
            go_wp2_with fail
            refine (lives_any _).mono ?_
            rintro e v9 ⟨rfl, hb⟩
            have I4 := Lib.hid (below_chain I3.out hb)
            clear hb I3
            go_wp2_with fail
            go_ret
            exact ⟨rfl, below_chain BX.out I4.out⟩
      · have hgn := get_no T HTL.out hT
        have hte : (getE T == 0) = false := by simpa using hT
        generalize getE T = te at *
        clear hT HT
        refine (hgn _).mono ?_
        clear hgn
        rintro e v7 ⟨rfl, hb⟩
        have I2 := Lib.hid (below_chain I1.out hb)
        clear hb I1
        go_wp2_with (first 
          | (refine wpList_skip (by rfl) ?_; go_frame) 
          | (refine wpList_load_blk_g (by rfl) (.tmp 23) rfl g23 0 rfl O HOL.out (At.whole (K23x.out.below I2.out K23x.out.lt)) ?_; go_frame) 
          | (refine wpList_load_blk_g (by rfl) (.tmp 17) rfl g17 0 rfl X HX.out (At.whole (K17x.out.below I2.out K17x.out.lt)) ?_; go_frame) 
          | (refine wpList_load_blk_g (by rfl) (.tmp 19) rfl g19 0 rfl Y HY.out (At.whole (K19x.out.below I2.out K19x.out.lt)) ?_; go_frame) 
          | (refine wpList_neq_blk (by rfl) (.tmp 100) (.tmp 101) _ rfl O X rfl rfl HOL.out HX.out true HC1.out ?_; go_frame) 
          | (refine wpList_neq_blk (by rfl) (.tmp 105) (.tmp 106) _ rfl O Y rfl rfl HOL.out HY.out false HC2.out ?_; go_frame) 
          | (refine wpList_load_blk rfl (.tmp 23) rfl g23 0 rfl O HOL.out (At.whole (K23x.out.below I2.out K23x.out.lt)) ?_; go_frame))
        refine (hgr _).mono ?_
        rintro e v8 ⟨rfl, hb⟩
        have I3 := Lib.hid (below_chain I2.out hb)
        clear hb I2
        go_wp2_with fail
        refine (lives_any _).mono ?_
        rintro e v9 ⟨rfl, hb⟩
        have I4 := Lib.hid (below_chain I3.out hb)
        clear hb I3
        go_wp2_with fail
        go_ret
        exact ⟨rfl, below_chain BX.out I4.out⟩
  · have hgn := get_no O HOL.out hO
    have hoe : (getE O == 0) = false := by simpa using hO
    generalize getE O = oe at *
    clear hO HO
    refine (hgn _).mono ?_
    clear hgn
    rintro e v6 ⟨rfl, hb⟩
    have I1 := Lib.hid hb
    clear hb
    go_wp2_with (first 
      | (refine wpList_load_blk rfl (.tmp 24) rfl g24 0 rfl T HTL.out (At.whole (K24x.out.below I1.out K24x.out.lt)) ?_; go_frame))
    by_cases hT : getE T = 0
    · refine (get_ok T HTL.out hT _).mono ?_
      rintro e v7 ⟨gt, rfl, -, hb⟩
      have I2 := Lib.hid (below_chain I1.out hb)
      clear hb I1
      have hcs := HT.out hT
      clear hT HT
      generalize tag T 0 = tt at *
      by_cases h1 : T = X
      · have HD1 := Lib.hid (show (!(T == X)) = false by rw [h1, beq_self_eq_true]; rfl)
        clear h1 hcs
        go_wp2_with (first 
          | (refine wpList_skip (by rfl) ?_; go_frame) 
          | (refine wpList_load_blk_g (by rfl) (.tmp 17) rfl g17 0 rfl X HX.out (At.whole (K17x.out.below I2.out K17x.out.lt)) ?_; go_frame) 
          | (refine wpList_load_blk_g (by rfl) (.tmp 24) rfl g24 0 rfl T HTL.out (At.whole (K24x.out.below I2.out K24x.out.lt)) ?_; go_frame) 
          | (refine wpList_neq_blk (by rfl) (.tmp 113) (.tmp 114) _ rfl T X rfl rfl HTL.out HX.out false HD1.out ?_; go_frame) 
          | (refine wpList_load_blk rfl (.tmp 23) rfl g23 0 rfl O HOL.out (At.whole (K23x.out.below I2.out K23x.out.lt)) ?_; go_frame))
        refine (hgr _).mono ?_
        rintro e v8 ⟨rfl, hb⟩
        have I3 := Lib.hid (below_chain I2.out hb)
        clear hb I2
        go_wp2_with fail
        refine (lives_any _).mono ?_
        rintro e v9 ⟨rfl, hb⟩
        have I4 := Lib.hid (below_chain I3.out hb)
        clear hb I3
        go_wp2_with fail
        go_ret
        exact ⟨rfl, below_chain BX.out I4.out⟩
      · have HD1 := Lib.hid (show (!(T == X)) = true by simpa using h1)
        by_cases h2 : T = Y
        · have HD2 := Lib.hid (show (!(T == Y)) = false by rw [h2, beq_self_eq_true]; rfl)
          clear h1 h2 hcs
          go_wp2_with (first 
            | (refine wpList_skip (by rfl) ?_; go_frame) 
            | (refine wpList_load_blk_g (by rfl) (.tmp 17) rfl g17 0 rfl X HX.out (At.whole (K17x.out.below I2.out K17x.out.lt)) ?_; go_frame) 
            | (refine wpList_load_blk_g (by rfl) (.tmp 19) rfl g19 0 rfl Y HY.out (At.whole (K19x.out.below I2.out K19x.out.lt)) ?_; go_frame) 
            | (refine wpList_load_blk_g (by rfl) (.tmp 24) rfl g24 0 rfl T HTL.out (At.whole (K24x.out.below I2.out K24x.out.lt)) ?_; go_frame) 
            | (refine wpList_neq_blk (by rfl) (.tmp 113) (.tmp 114) _ rfl T X rfl rfl HTL.out HX.out true HD1.out ?_; go_frame) 
            | (refine wpList_neq_blk (by rfl) (.tmp 118) (.tmp 119) _ rfl T Y rfl rfl HTL.out HY.out false HD2.out ?_; go_frame) 
            | (refine wpList_load_blk rfl (.tmp 23) rfl g23 0 rfl O HOL.out (At.whole (K23x.out.below I2.out K23x.out.lt)) ?_; go_frame))
          refine (hgr _).mono ?_
          rintro e v8 ⟨rfl, hb⟩
          have I3 := Lib.hid (below_chain I2.out hb)
          clear hb I2
          go_wp2_with fail
          refine (lives_any _).mono ?_
          rintro e v9 ⟨rfl, hb⟩
          have I4 := Lib.hid (below_chain I3.out hb)
          clear hb I3
          go_wp2_with fail
          go_ret
          exact ⟨rfl, below_chain BX.out I4.out⟩
        · have h3 : T = Z := by rcases hcs with h | h | h; exact absurd h h1; exact absurd h h2; exact h
          have HD2 := Lib.hid (show (!(T == Y)) = true by simpa using h2)
          have HD3 := Lib.hid (show (!(T == Z)) = false by rw [h3, beq_self_eq_true]; rfl)
          clear h1 h2 h3 hcs
          go_wp2_with (first 
            | (refine wpList_skip (by rfl) ?_; go_frame) 
            | (refine wpList_load_blk_g (by rfl) (.tmp 17) rfl g17 0 rfl X HX.out (At.whole (K17x.out.below I2.out K17x.out.lt)) ?_; go_frame) 
            | (refine wpList_load_blk_g (by rfl) (.tmp 19) rfl g19 0 rfl Y HY.out (At.whole (K19x.out.below I2.out K19x.out.lt)) ?_; go_frame) 
            | (refine wpList_load_blk_g (by rfl) (.tmp 24) rfl g24 0 rfl T HTL.out (At.whole (K24x.out.below I2.out K24x.out.lt)) ?_; go_frame) 
            | (refine wpList_load_blk_g (by rfl) (.tmp 21) rfl g21 0 rfl Z HZ.out (At.whole (K21x.out.below I2.out K21x.out.lt)) ?_; go_frame) 
            | (refine wpList_neq_blk (by rfl) (.tmp 113) (.tmp 114) _ rfl T X rfl rfl HTL.out HX.out true HD1.out ?_; go_frame) 
            | (refine wpList_neq_blk (by rfl) (.tmp 118) (.tmp 119) _ rfl T Y rfl rfl HTL.out HY.out true HD2.out ?_; go_frame) 
            | (refine wpList_neq_blk (by rfl) (.tmp 123) (.tmp 124) _ rfl T Z rfl rfl HTL.out HZ.out false HD3.out ?_; go_frame) 
            | (refine wpList_load_blk rfl (.tmp 23) rfl g23 0 rfl O HOL.out (At.whole (K23x.out.below I2.out K23x.out.lt)) ?_; go_frame))
          refine (hgr _).mono ?_
          rintro e v8 ⟨rfl, hb⟩
          have I3 := Lib.hid (below_chain I2.out hb)
          clear hb I2
          go_wp2_with fail
          refine (lives_any _).mono ?_
          rintro e v9 ⟨rfl, hb⟩
          have I4 := Lib.hid (below_chain I3.out hb)
          clear hb I3
          go_wp2_with fail
          go_ret
          exact ⟨rfl, below_chain BX.out I4.out⟩
    · have hgn := get_no T HTL.out hT
      have hte : (getE T == 0) = false := by simpa using hT
      generalize getE T = te at *
      clear hT HT
      refine (hgn _).mono ?_
      clear hgn
      rintro e v7 ⟨rfl, hb⟩
      have I2 := Lib.hid (below_chain I1.out hb)
      clear hb I1
      go_wp2_with (first 
        | (refine wpList_skip (by rfl) ?_; go_frame) 
        | (refine wpList_load_blk rfl (.tmp 23) rfl g23 0 rfl O HOL.out (At.whole (K23x.out.below I2.out K23x.out.lt)) ?_; go_frame))
      refine (hgr _).mono ?_
      rintro e v8 ⟨rfl, hb⟩
      have I3 := Lib.hid (below_chain I2.out hb)
      clear hb I2
      go_wp2_with fail
      refine (lives_any _).mono ?_
      rintro e v9 ⟨rfl, hb⟩
      have I4 := Lib.hid (below_chain I3.out hb)
      clear hb I3
      go_wp2_with fail
      go_ret
      exact ⟨rfl, below_chain BX.out I4.out⟩

end Go.Proofs.Ytlhbipommhljiaa
