/- Get: the reply that bytes are. -/
import Derived.Test.YtboalmmpcfiicaaDoorBac3
import Derived.Test.YtboalmmpcfiicaaDoorBac7
namespace Go.Proofs.YtboalmmpcfiicaaDoor
open Go.RowKit Go.Shelf
set_option linter.unusedVariables false
set_option maxRecDepth 100000
set_option linter.unusedSimpArgs false

/-- what Get makes of bytes, step by step -/
def getBP (l : List UInt8) : BackX × Int :=
  let h := headG ⟨l, 0, 0⟩
  let m := numR h.2 4
  let ns := namesG m.1.toNat m.2
  if 32 < m.1.toNat then (bacZero, 3)
  else if endR ns.2 ≠ 0 then (bacZero, endR ns.2)
  else if mayB { h.1 with names := ns.1 } = false then (bacZero, 5)
  else ({ h.1 with names := ns.1 }, 0)
theorem bhead_gen (s : RS) : tellL 4096 bacS s = ([⟨(numR s 4).1.toNat, []⟩, ⟨(headG s).1.inc, []⟩, ⟨(headG s).1.seq, []⟩, ⟨(numR (numR (numR (numR s 4).2 4).2 8).2 4).1.toNat, []⟩, ⟨(headG s).1.boot, []⟩, ⟨(headG s).1.ino, []⟩, ⟨(headG s).1.gen, []⟩, ⟨if (headG s).1.dir = true then 1 else 0, []⟩, ⟨(headG s).1.size, []⟩, ⟨(headG s).1.change, []⟩, ⟨(headG s).1.before, []⟩, ⟨0, (headG s).1.data⟩, ⟨(numR (headG s).2 4).1.toNat, []⟩], (numR (headG s).2 4).2) := by
  simp only [bacS, tellL, tellF, headG, attR]
  rfl
theorem bhead_is (l : List UInt8) : (bheadR l).2 = (numR (headG ⟨l, 0, 0⟩).2 4).2 := by
  unfold bheadR
  rw [bhead_gen]
theorem many_is (l : List UInt8) : manyR l = (numR (headG ⟨l, 0, 0⟩).2 4).1.toNat := by
  unfold manyR bheadR
  rw [bhead_gen]
  rfl
theorem headG_min (s : RS) : (headG s).1.client = min (numR s 4).1.toNat 255 ∧ (headG s).1.status = min (numR (numR (numR (numR s 4).2 4).2 8).2 4).1.toNat 255 ∧ (headG s).1.names = [] := ⟨rfl, rfl, rfl⟩
theorem truth_nat (b : Bool) : ((if b = true then 1 else 0 : Nat) == 1) = b := by cases b <;> rfl
theorem backR_is (l : List UInt8) : (headG ⟨l, 0, 0⟩).1 = { backR l with client := min (backR l).client 255, status := min (backR l).status 255, names := [] } := by
  obtain ⟨m1, m2, m3⟩ := headG_min ⟨l, 0, 0⟩
  unfold backR bheadR
  rw [bhead_gen]
  unfold bacC
  dsimp only
  rw [truth_nat]
  generalize (headG ⟨l, 0, 0⟩).1 = c at *
  obtain ⟨c1, c2, c3, c4, c5, c6, c7, c8, c9, c10, c11, c12, c13⟩ := c
  dsimp only at *
  rw [m1, m2, m3]
theorem backR_names (l : List UInt8) : (backR l).names = (namesG (manyR l) (bheadR l).2).1 := by
  rw [← (namesG_is _ _).1]
  unfold backR bnamR
  have h := bhead_gen ⟨l, 0, 0⟩
  unfold bacC
  have e : (bheadR l).1 = _ := congrArg Prod.fst h
  rw [e]
theorem mayB_client {c : BackX} (h : 4 ≤ c.client) : mayB c = false := by
  unfold mayB
  have : decide (c.client < 4) = false := decide_eq_false (by omega)
  rw [this]
  simp
theorem mayB_status {c : BackX} (h : 9 < c.status) : mayB c = false := by
  unfold mayB
  have : decide (c.status ≤ 9) = false := decide_eq_false (by omega)
  rw [this]
  simp
theorem may_min (c : BackX) : mayB { c with client := min c.client 255, status := min c.status 255 } = mayB c ∧ (mayB c = true → { c with client := min c.client 255, status := min c.status 255 } = c) := by
  by_cases h1 : 4 ≤ c.client
  · rw [mayB_client h1, mayB_client (c := { c with client := min c.client 255, status := min c.status 255 }) (by show 4 ≤ min c.client 255; omega)]
    simp
  by_cases h2 : 9 < c.status
  · rw [mayB_status h2, mayB_status (c := { c with client := min c.client 255, status := min c.status 255 }) (by show 9 < min c.status 255; omega)]
    simp
  have e1 : min c.client 255 = c.client := by omega
  have e2 : min c.status 255 = c.status := by omega
  rw [e1, e2]
  exact ⟨rfl, fun _ => rfl⟩
theorem headG_all (s : RS) : (headG s).2.all = s.all := by
  unfold headG
  dsimp only
  rw [bytes_all]
  simp only [numR_all, att_all]
theorem getB_is (l : List UInt8) (h : ¬ 4096 < l.length) : getB l = getBP l := by
  have hn := namesG_is (manyR l) (bheadR l).2
  have hb2 : (bnamR l).2 = (namesG (manyR l) (bheadR l).2).2 := hn.2
  have hx : { (headG ⟨l, 0, 0⟩).1 with names := (namesG (manyR l) (bheadR l).2).1 } = { backR l with client := min (backR l).client 255, status := min (backR l).status 255 } := by
    rw [backR_is, ← backR_names]
  obtain ⟨m1, m2⟩ := may_min (backR l)
  have hmany := many_bad l
  unfold getB getBP
  dsimp only
  rw [if_neg h, ← bhead_is, ← many_is, hx, m1, ← hb2]
  by_cases hm : 32 < manyR l
  · have he : (bheadR l).2.err = 0 := by
      by_cases he : (bheadR l).2.err = 0
      · exact he
      · rw [hmany he] at hm; exact absurd hm (by decide)
    rw [if_pos ⟨he, hm⟩, if_pos hm]
  · rw [if_neg (fun hh => hm hh.2), if_neg hm]
    have hall : (bnamR l).2.all = l := by rw [hb2, namesG_all, bhead_is, numR_all, headG_all]
    by_cases he : (bnamR l).2.err ≠ 0
    · have hend : endR (bnamR l).2 = (bnamR l).2.err := by unfold endR; rw [if_pos he]
      rw [if_pos he, hend, if_pos he]
    · rw [if_neg he]
      have hend : endR (bnamR l).2 = if (bnamR l).2.pos < l.length then 5 else 0 := by unfold endR; rw [if_neg he, hall]
      rw [hend]
      by_cases hp : (bnamR l).2.pos < l.length
      · rw [if_pos (.inl hp), if_pos hp]
        rfl
      · rw [if_neg hp, if_neg (show ¬ ((0 : Int) ≠ 0) by decide)]
        cases hmb : mayB (backR l)
        · rw [if_pos (.inr rfl), if_pos rfl]
        · rw [if_neg (by simp [hp]), if_neg (by simp), m2 hmb]
theorem attR_ok (s : RS) : (attR s).1.ino < 4294967296 ∧ (attR s).1.gen < 4294967296 ∧ (attR s).1.size < 4294967296 ∧ (attR s).1.change < 18446744073709551616 := by
  unfold attR
  dsimp only
  have h1 := numR_four s
  have h2 := numR_four (numR s 4).2
  have h3 := numR_four (truthR (numR (numR s 4).2 4).2).2
  have h4 := numR_bd (numR (truthR (numR (numR s 4).2 4).2).2 4).2 8 (by decide)
  omega
theorem headG_ok (s : RS) (l : List ByteArray) : bacOk { (headG s).1 with names := l } := by
  unfold headG bacOk
  dsimp only
  have h1 := numR_four (numR s 4).2
  have h2 := numR_bd (numR (numR s 4).2 4).2 8 (by decide)
  have h3 := numR_four (numR (numR (numR (numR s 4).2 4).2 8).2 4).2
  have h4 := attR_ok (numR (numR (numR (numR (numR s 4).2 4).2 8).2 4).2 4).2
  have h5 := numR_bd (attR (numR (numR (numR (numR (numR s 4).2 4).2 8).2 4).2 4).2).2 8 (by decide)
  omega
/-- what Get answers -/
def GetAns (x : BackX × Int) (w : World) (e : Ending) (w' : World) : Prop :=
  ∃ v u, e = .returned (.tuple #[.agg (bacCells x.1 v u).toArray, .int .i64 x.2]) ∧ BacV w' (w.heap.size ≤ ·) x.1 v u ∧ TyB w' v ∧ (∀ k, v.ownBlock = some k → w.heap.size ≤ k) ∧ w'.ownsRow w.heap.size 9 1 u x.1.names.length (txsOf x.1.names) ∧ Below w.heap.size w w'
theorem ansZ {w w' : World} (x : Int) (hb : Below w.heap.size w w') : GetAns (bacZero, x) w (.returned (.tuple #[.agg (bacCells bacZero (.slice none 0 0) (.slice none 0 0)).toArray, .int .i64 x])) w' :=
  ⟨_, _, rfl, bacZ_v _ _, .inl rfl, (fun k h => by cases h), World.ownsRow_nil _ _ _ _, hb⟩
abbrev zc : List Value := bacCells bacZero (.slice none 0 0) (.slice none 0 0)
set_option maxHeartbeats 16000000 in
theorem Get_v (l : List UInt8) (A : Option Addr) (cp : Nat) (w : World) (hl : l.length ≤ 140737488355328) (hr : Rd w A l) (hA : A = none → l = [] ∧ cp = 0) (hT : Tabs w) :
    Calls Tryd.prog 10 #[.slice A l.length cp] w fun e w' => GetAns (getB l) w e w' := by
  by_cases h : 4096 < l.length
  · have hx : getB l = (bacZero, 3) := by unfold getB; rw [if_pos h]
    rw [hx]
    have h' : 4096 < (l.length : Int) := by omega
    clear hx hr hA hl
    go_enter Tryd.func10, Tryd.ntmps10
    go_wp2_with (first
      | ((with_reducible show wpList _ _ _ _ _ w); refine wpList_allocS rfl 31 rfl zc backZero ?_; intro g1 w1 hk1 hb1 hg1; go_frame; have C1 := Lib.hid hk1; have B1 := Lib.hid hb1; have G1 := Lib.hid hg1; clear hk1 hb1 hg1)
      | ((with_reducible show wpList _ _ _ _ _ w1); refine wpList_storeS rfl 31 _ _ rfl g1 rfl zc zc rfl C1.out rfl (bac_one rfl rfl) infoBack ?_; intro w2 hk ht; go_frame; have C2 := Lib.hid hk; have B2 := Lib.hid (below_turn B1.out ht B1.out.size G1.out); clear hk ht)
      | fail)
    exact bac_end2 (cs := zc) rfl rfl C2.out rfl rfl (ansZ 3 B2.out)
  rw [getB_is l h]
  have h' : ¬ 4096 < (l.length : Int) := by omega
  have hres : getBP l = (if 32 < (numR (headG ⟨l, 0, 0⟩).2 4).1.toNat then (bacZero, 3)
    else if endR (namesG (numR (headG ⟨l, 0, 0⟩).2 4).1.toNat (numR (headG ⟨l, 0, 0⟩).2 4).2).2 ≠ 0 then (bacZero, endR (namesG (numR (headG ⟨l, 0, 0⟩).2 4).1.toNat (numR (headG ⟨l, 0, 0⟩).2 4).2).2)
    else if mayB { (headG ⟨l, 0, 0⟩).1 with names := (namesG (numR (headG ⟨l, 0, 0⟩).2 4).1.toNat (numR (headG ⟨l, 0, 0⟩).2 4).2).1 } = false then (bacZero, 5)
    else ({ (headG ⟨l, 0, 0⟩).1 with names := (namesG (numR (headG ⟨l, 0, 0⟩).2 4).1.toNat (numR (headG ⟨l, 0, 0⟩).2 4).2).1 }, 0)) := rfl
  rw [hres]
  clear hres
  have HOK := Lib.hid (headG_ok ⟨l, 0, 0⟩)
  have HAL := Lib.hid (headG_all ⟨l, 0, 0⟩)
  have HT := Lib.hid hT
  have HLEN := Lib.hid hl
  have HNR := Lib.hid fun u (hb : Below w.heap.size w u) => NewReader_v l A cp u hl (hr.below hb) hA
  have HTN := Lib.hid fun (u : World) (rb : Nat) (F : Nat → Prop) (hs : RdAt u rb ⟨l, 0, 0⟩ F) (hF : ∀ k, F k → k < u.heap.size) => getToNames_v hs hF hl
  generalize headG ⟨l, 0, 0⟩ = hd at *
  obtain ⟨c0, s12⟩ := hd
  obtain ⟨n, s13, he13, hb13, ha13⟩ := num4_e s12
  rw [he13]
  dsimp only at *
  rw [Int.toNat_natCast]
  have E13 := Lib.hid he13
  have A13 := Lib.hid ha13
  have hn32 : (n : Int) ≤ 4294967295 := by omega
  clear hr hA hl hT he13 ha13
  by_cases hm : 32 < n
  · rw [if_pos hm]
    have hm' : 32 < (n : Int) := by omega
    clear hm
    go_enter Tryd.func10, Tryd.ntmps10
    go_wp2_with (first
      | ((with_reducible show wpList _ _ _ _ _ w); refine wpList_allocS rfl 31 rfl zc backZero ?_; intro g1 w1 hk1 hb1 hg1; go_frame; have C1 := Lib.hid hk1; have B1 := Lib.hid hb1; have G1 := Lib.hid hg1; clear hk1 hb1 hg1)
      | fail)
    refine (HNR.out _ B1.out).mono ?_
    rintro e w2 ⟨rb, rfl, hrd, hrb, hb⟩
    have RB := Lib.hid (show g1 < rb ∧ rb < w2.heap.size by have := C1.out.lt; have := hrd.lt; omega)
    have R2 := Lib.hid hrd.tight
    have C2 := Lib.hid (C1.out.below hb C1.out.lt)
    have B2 := Lib.hid (below_chain B1.out hb)
    clear hrd hrb hb C1 B1
    go_wp2_with fail
    refine (HTN.out w2 rb _ R2.out (fun k hk => hk.2)).mono ?_
    rintro e w3 ⟨v3, rfl, hv3, hty3, hown3, hr3, ht3⟩
    have V3 := Lib.hid hv3
    have Y3 := Lib.hid hty3
    have O3 := Lib.hid hown3
    have R3 := Lib.hid hr3
    have S3 := Lib.hid ht3.size
    have C3 := Lib.hid (C2.out.turn ht3 (by have := RB.out; omega))
    have B3 := Lib.hid (B2.out.trans (ht3.below B2.out.size fun k hk => by have := RB.out; have := G1.out; omega))
    have hone := hv3.one
    clear hv3 hty3 hown3 hr3 ht3
    generalize hc3 : bacCells c0 v3 (.slice none 0 0) = cs3
    have HC3 := Lib.hid hc3
    have hinfo : (Tryd.prog.info? 31).map (·.size) = some cs3.length := by rw [← hc3]; exact infoBack
    have hones : ∀ x ∈ cs3, x.oneCell' = true := by rw [← hc3]; exact bac_one hone rfl
    have hl3 : cs3.length = 13 := by rw [← hc3]; rfl
    have HI3 := Lib.hid hinfo
    have HO3 := Lib.hid hones
    have HL3 := Lib.hid hl3
    clear hc3 hinfo hones hl3
    go_wp2_with (first
      | ((with_reducible show wpList _ _ _ _ _ w3); refine wpList_allocS rfl 31 rfl zc backZero ?_; intro g5 w4 hk4 hb4 hg4; go_frame; have K4 := Lib.hid (show GetG 31 w3 rb g5 _ s12 zc.toArray w4 from ⟨R3.out.below hb4, hk4, Turn.of_below hb4 _, hg4, (by have := RB.out; have := S3.out; omega), fun k hk => Nat.lt_of_lt_of_le hk.2 S3.out⟩); have B4 := Lib.hid (below_chain B3.out hb4); clear hk4 hb4)
      | ((with_reducible show wpList _ _ _ _ _ w4); refine wpList_storeS rfl 31 _ _ rfl g5 rfl cs3 zc rfl K4.out.cs (by rw [HL3.out]; rfl) HO3.out HI3.out ?_; intro w5 hk ht; go_frame; have K5 := Lib.hid (K4.out.put (cs' := (bacCells c0 v3 (.slice none 0 0)).toArray) (by rw [HC3.out]; exact hk) ht); clear hk ht)
      | fail)
    have hn := Number_r K5.out.rd
    rw [E13.out] at hn
    dsimp only at hn
    refine hn.mono ?_
    clear hn
    rintro e w6 hq
    have K6 := Lib.hid (K5.out.told hq)
    obtain ⟨rfl, -⟩ := hq
    clear K4 K5
    have C6 := Lib.hid (C3.out.turn K6.out.tn (by have := RB.out; omega))
    have B6 := Lib.hid (B3.out.trans (K6.out.tn.below B3.out.size fun k hk => by have := RB.out; have := G1.out; omega))
    go_wp2_with (first
      | ((with_reducible show wpList _ _ _ _ _ w6); refine wpList_storeS rfl 31 _ _ rfl g1 rfl zc zc rfl C6.out rfl (bac_one rfl rfl) infoBack ?_; intro w9 hk ht; go_frame; have C9 := Lib.hid hk; have B9 := Lib.hid (below_turn B6.out ht B6.out.size G1.out); clear hk ht)
      | fail)
    exact bac_end2 (cs := zc) rfl rfl C9.out rfl rfl (ansZ 3 B9.out)
  rw [if_neg hm]
  have hm' : ¬ 32 < (n : Int) := by omega
  have HGN := Lib.hid fun (u : World) (rb : Nat) (F : Nat → Prop) (hs : RdAt u rb s13 F) (hF : ∀ k, F k → k < u.heap.size) => getNames_v n (by omega) hs hF (by rw [A13.out, HAL.out]; exact HLEN.out)
  generalize hns : namesG n s13 = nn at *
  obtain ⟨ns, s14⟩ := nn
  dsimp only at *
  have HNS := Lib.hid hns
  clear hns hm
  by_cases he : endR s14 = 0
  case neg =>
    rw [if_pos he]
    obtain ⟨en, hen⟩ : ∃ en, endR s14 = en := ⟨_, rfl⟩
    rw [hen] at he ⊢
    have hne : (en != 0) = true := by simpa using he
    have heq : (en == 0) = false := by simpa using he
    have HE := Lib.hid hen
    clear he hen
    go_enter Tryd.func10, Tryd.ntmps10
    go_wp2_with (first
      | ((with_reducible show wpList _ _ _ _ _ w); refine wpList_allocS rfl 31 rfl zc backZero ?_; intro g1 w1 hk1 hb1 hg1; go_frame; have C1 := Lib.hid hk1; have B1 := Lib.hid hb1; have G1 := Lib.hid hg1; clear hk1 hb1 hg1)
      | fail)
    refine (HNR.out _ B1.out).mono ?_
    rintro e w2 ⟨rb, rfl, hrd, hrb, hb⟩
    have RB := Lib.hid (show g1 < rb ∧ rb < w2.heap.size by have := C1.out.lt; have := hrd.lt; omega)
    have R2 := Lib.hid hrd.tight
    have C2 := Lib.hid (C1.out.below hb C1.out.lt)
    have B2 := Lib.hid (below_chain B1.out hb)
    clear hrd hrb hb C1 B1
    go_wp2_with fail
    refine (HTN.out w2 rb _ R2.out (fun k hk => hk.2)).mono ?_
    rintro e w3 ⟨v3, rfl, hv3, hty3, hown3, hr3, ht3⟩
    have V3 := Lib.hid hv3
    have Y3 := Lib.hid hty3
    have O3 := Lib.hid hown3
    have R3 := Lib.hid hr3
    have S3 := Lib.hid ht3.size
    have C3 := Lib.hid (C2.out.turn ht3 (by have := RB.out; omega))
    have B3 := Lib.hid (B2.out.trans (ht3.below B2.out.size fun k hk => by have := RB.out; have := G1.out; omega))
    have hone := hv3.one
    clear hv3 hty3 hown3 hr3 ht3
    generalize hc3 : bacCells c0 v3 (.slice none 0 0) = cs3
    have HC3 := Lib.hid hc3
    have hinfo : (Tryd.prog.info? 31).map (·.size) = some cs3.length := by rw [← hc3]; exact infoBack
    have hones : ∀ x ∈ cs3, x.oneCell' = true := by rw [← hc3]; exact bac_one hone rfl
    have hl3 : cs3.length = 13 := by rw [← hc3]; rfl
    have HI3 := Lib.hid hinfo
    have HO3 := Lib.hid hones
    have HL3 := Lib.hid hl3
    clear hc3 hinfo hones hl3
    go_wp2_with (first
      | ((with_reducible show wpList _ _ _ _ _ w3); refine wpList_allocS rfl 31 rfl zc backZero ?_; intro g5 w4 hk4 hb4 hg4; go_frame; have K4 := Lib.hid (show GetG 31 w3 rb g5 _ s12 zc.toArray w4 from ⟨R3.out.below hb4, hk4, Turn.of_below hb4 _, hg4, (by have := RB.out; have := S3.out; omega), fun k hk => Nat.lt_of_lt_of_le hk.2 S3.out⟩); have B4 := Lib.hid (below_chain B3.out hb4); clear hk4 hb4)
      | ((with_reducible show wpList _ _ _ _ _ w4); refine wpList_storeS rfl 31 _ _ rfl g5 rfl cs3 zc rfl K4.out.cs (by rw [HL3.out]; rfl) HO3.out HI3.out ?_; intro w5 hk ht; go_frame; have K5 := Lib.hid (K4.out.put (cs' := (bacCells c0 v3 (.slice none 0 0)).toArray) (by rw [HC3.out]; exact hk) ht); clear hk ht)
      | fail)
    have hn := Number_r K5.out.rd
    rw [E13.out] at hn
    dsimp only at hn
    refine hn.mono ?_
    clear hn
    rintro e w6 hq
    have K6 := Lib.hid (K5.out.told hq)
    obtain ⟨rfl, -⟩ := hq
    clear K4 K5
    go_wp2_with fail
    refine (HGN.out w6 rb _ K6.out.rd (fun k hk => Nat.lt_of_lt_of_le (Nat.lt_of_lt_of_le hk.2 S3.out) K6.out.tn.size)).mono ?_
    rintro e w7 ⟨u7, rfl, hown7, hr7, ht7⟩
    have K7 := Lib.hid (K6.out.told (v := .tuple #[]) (e := .returned (.tuple #[])) ⟨rfl, hr7, ht7⟩)
    have U7 := Lib.hid hown7
    have N7 := Lib.hid (show g5 < w6.heap.size from K6.out.cs.lt)
    have S6 := Lib.hid K6.out.tn.size
    have hu7 := (NmV.own hown7).one
    have HU7 := Lib.hid hu7
    clear hown7 hr7 ht7 K6
    go_wp2_with (first
      | ((with_reducible show wpList _ _ _ _ _ w7); refine wpList_store1 rfl 29 _ _ rfl g5 11 rfl u7 rfl HU7.out infoStrs 31 _ K7.out.cs (bac_lt _ _ _ (by decide)) ?_; intro w8 hk ht; go_frame; have K8 := Lib.hid (K7.out.put (cs' := (bacCells { c0 with names := ns } v3 u7).toArray) hk ht); have U8 := Lib.hid (ownsRow_turn' U7.out ht (fun k hk e => by have h1 := own_base U7.out k hk; have h2 := N7.out; omega)); clear hk ht)
      | fail)
    refine (End_r K8.out.rd).mono ?_
    rintro e w9 ⟨rfl, hb⟩
    have K9 := Lib.hid (K8.out.below hb)
    have U9 := Lib.hid (ownsRow_turn' U8.out (Turn.of_below hb fun _ => False) (fun _ _ h => h))
    have C9 := Lib.hid (C3.out.turn K9.out.tn (by have := RB.out; omega))
    have B9 := Lib.hid (B3.out.trans (K9.out.tn.below B3.out.size fun k hk => by have := RB.out; have := G1.out; omega))
    clear hb K7 K8 U7 U8
    rw [HE.out]
    go_wp2_with (first
      | ((with_reducible show wpList _ _ _ _ _ w9); refine wpList_storeS rfl 31 _ _ rfl g1 rfl zc zc rfl C9.out rfl (bac_one rfl rfl) infoBack ?_; intro w10 hk ht; go_frame; have C10 := Lib.hid hk; have B10 := Lib.hid (below_turn B9.out ht B9.out.size G1.out); clear hk ht)
      | fail)
    exact bac_end2 (cs := zc) rfl rfl C10.out rfl rfl (ansZ en B10.out)
  rw [if_neg (by simpa using he)]
  have HE := Lib.hid he
  have HMV := Lib.hid fun (u : World) (F : Nat → Prop) (v x : Value) (hs : BacV u F { c0 with names := ns } v x) (hb : Below w.heap.size w u) => May_v hs (HT.out.below hb)
  clear he
  cases hmb : mayB { c0 with names := ns }
  · rw [if_pos rfl]
    rw [hmb] at HMV
    clear hmb
    go_enter Tryd.func10, Tryd.ntmps10
    go_wp2_with (first
      | ((with_reducible show wpList _ _ _ _ _ w); refine wpList_allocS rfl 31 rfl zc backZero ?_; intro g1 w1 hk1 hb1 hg1; go_frame; have C1 := Lib.hid hk1; have B1 := Lib.hid hb1; have G1 := Lib.hid hg1; clear hk1 hb1 hg1)
      | fail)
    refine (HNR.out _ B1.out).mono ?_
    rintro e w2 ⟨rb, rfl, hrd, hrb, hb⟩
    have RB := Lib.hid (show g1 < rb ∧ rb < w2.heap.size by have := C1.out.lt; have := hrd.lt; omega)
    have R2 := Lib.hid hrd.tight
    have C2 := Lib.hid (C1.out.below hb C1.out.lt)
    have B2 := Lib.hid (below_chain B1.out hb)
    clear hrd hrb hb C1 B1
    go_wp2_with fail
    refine (HTN.out w2 rb _ R2.out (fun k hk => hk.2)).mono ?_
    rintro e w3 ⟨v3, rfl, hv3, hty3, hown3, hr3, ht3⟩
    have V3 := Lib.hid hv3
    have Y3 := Lib.hid hty3
    have O3 := Lib.hid hown3
    have R3 := Lib.hid hr3
    have S3 := Lib.hid ht3.size
    have C3 := Lib.hid (C2.out.turn ht3 (by have := RB.out; omega))
    have B3 := Lib.hid (B2.out.trans (ht3.below B2.out.size fun k hk => by have := RB.out; have := G1.out; omega))
    have hone := hv3.one
    clear hv3 hty3 hown3 hr3 ht3
    generalize hc3 : bacCells c0 v3 (.slice none 0 0) = cs3
    have HC3 := Lib.hid hc3
    have hinfo : (Tryd.prog.info? 31).map (·.size) = some cs3.length := by rw [← hc3]; exact infoBack
    have hones : ∀ x ∈ cs3, x.oneCell' = true := by rw [← hc3]; exact bac_one hone rfl
    have hl3 : cs3.length = 13 := by rw [← hc3]; rfl
    have HI3 := Lib.hid hinfo
    have HO3 := Lib.hid hones
    have HL3 := Lib.hid hl3
    clear hc3 hinfo hones hl3
    go_wp2_with (first
      | ((with_reducible show wpList _ _ _ _ _ w3); refine wpList_allocS rfl 31 rfl zc backZero ?_; intro g5 w4 hk4 hb4 hg4; go_frame; have K4 := Lib.hid (show GetG 31 w3 rb g5 _ s12 zc.toArray w4 from ⟨R3.out.below hb4, hk4, Turn.of_below hb4 _, hg4, (by have := RB.out; have := S3.out; omega), fun k hk => Nat.lt_of_lt_of_le hk.2 S3.out⟩); have B4 := Lib.hid (below_chain B3.out hb4); clear hk4 hb4)
      | ((with_reducible show wpList _ _ _ _ _ w4); refine wpList_storeS rfl 31 _ _ rfl g5 rfl cs3 zc rfl K4.out.cs (by rw [HL3.out]; rfl) HO3.out HI3.out ?_; intro w5 hk ht; go_frame; have K5 := Lib.hid (K4.out.put (cs' := (bacCells c0 v3 (.slice none 0 0)).toArray) (by rw [HC3.out]; exact hk) ht); clear hk ht)
      | fail)
    have hn := Number_r K5.out.rd
    rw [E13.out] at hn
    dsimp only at hn
    refine hn.mono ?_
    clear hn
    rintro e w6 hq
    have K6 := Lib.hid (K5.out.told hq)
    obtain ⟨rfl, -⟩ := hq
    clear K4 K5
    go_wp2_with fail
    refine (HGN.out w6 rb _ K6.out.rd (fun k hk => Nat.lt_of_lt_of_le (Nat.lt_of_lt_of_le hk.2 S3.out) K6.out.tn.size)).mono ?_
    rintro e w7 ⟨u7, rfl, hown7, hr7, ht7⟩
    have K7 := Lib.hid (K6.out.told (v := .tuple #[]) (e := .returned (.tuple #[])) ⟨rfl, hr7, ht7⟩)
    have U7 := Lib.hid hown7
    have N7 := Lib.hid (show g5 < w6.heap.size from K6.out.cs.lt)
    have S6 := Lib.hid K6.out.tn.size
    have hu7 := (NmV.own hown7).one
    have HU7 := Lib.hid hu7
    clear hown7 hr7 ht7 K6
    go_wp2_with (first
      | ((with_reducible show wpList _ _ _ _ _ w7); refine wpList_store1 rfl 29 _ _ rfl g5 11 rfl u7 rfl HU7.out infoStrs 31 _ K7.out.cs (bac_lt _ _ _ (by decide)) ?_; intro w8 hk ht; go_frame; have K8 := Lib.hid (K7.out.put (cs' := (bacCells { c0 with names := ns } v3 u7).toArray) hk ht); have U8 := Lib.hid (ownsRow_turn' U7.out ht (fun k hk e => by have h1 := own_base U7.out k hk; have h2 := N7.out; omega)); clear hk ht)
      | fail)
    refine (End_r K8.out.rd).mono ?_
    rintro e w9 ⟨rfl, hb⟩
    have K9 := Lib.hid (K8.out.below hb)
    have U9 := Lib.hid (ownsRow_turn' U8.out (Turn.of_below hb fun _ => False) (fun _ _ h => h))
    have C9 := Lib.hid (C3.out.turn K9.out.tn (by have := RB.out; omega))
    have B9 := Lib.hid (B3.out.trans (K9.out.tn.below B3.out.size fun k hk => by have := RB.out; have := G1.out; omega))
    clear hb K7 K8 U7 U8
    rw [HE.out]
    have BV := Lib.hid (show BacV w9 (fun k => w.heap.size ≤ k ∧ k ≠ g1) { c0 with names := ns } v3 u7 from ⟨(V3.out.turn K9.out.tn (fun k hk e => by have := RB.out; omega)).mono (fun k _ hk => by have := B2.out.size; have := C2.out.lt; omega), (NmV.own U9.out).mono (fun k _ hk => by have h1 := B3.out.size; have h2 := S6.out; have h3 := C3.out.lt; omega), HOK.out ns⟩)
    generalize hc9 : bacCells { c0 with names := ns } v3 u7 = cs9 at *
    have HC9 := Lib.hid hc9
    have hinfo9 : (Tryd.prog.info? 31).map (·.size) = some cs9.length := by rw [← hc9]; exact infoBack
    have HI9 := Lib.hid hinfo9
    have hones9 : ∀ x ∈ cs9, x.oneCell' = true := by rw [← hc9]; exact bac_one hone hu7
    have HO9 := Lib.hid hones9
    have HL9 := Lib.hid (show cs9.length = 13 by rw [← hc9]; rfl)
    clear hc9 hinfo9 hones9 hone hu7
    go_wp2_with (first
      | ((with_reducible show wpList _ _ _ _ _ w9); refine wpList_loadS rfl 31 _ rfl g5 rfl cs9 K9.out.cs _ Tryd.underlying31 rfl HI9.out ?_; go_frame)
      | fail)
    have hmv := HMV.out w9 _ v3 u7 BV.out B9.out
    rw [HC9.out] at hmv
    refine hmv.mono ?_
    clear hmv
    rintro e w10 ⟨rfl, hb⟩
    have C10 := Lib.hid (C9.out.below hb C9.out.lt)
    have B10 := Lib.hid (below_chain B9.out hb)
    clear hb
    go_wp2_with (first
      | ((with_reducible show wpList _ _ _ _ _ w10); refine wpList_storeS rfl 31 _ _ rfl g1 rfl zc zc rfl C10.out rfl (bac_one rfl rfl) infoBack ?_; intro w11 hk ht; go_frame; have C11 := Lib.hid hk; have B11 := Lib.hid (below_turn B10.out ht B10.out.size G1.out); clear hk ht)
      | fail)
    exact bac_end2 (cs := zc) rfl rfl C11.out rfl rfl (ansZ 5 B11.out)
  · rw [if_neg (by simp)]
    rw [hmb] at HMV
    clear hmb
    go_enter Tryd.func10, Tryd.ntmps10
    go_wp2_with (first
      | ((with_reducible show wpList _ _ _ _ _ w); refine wpList_allocS rfl 31 rfl zc backZero ?_; intro g1 w1 hk1 hb1 hg1; go_frame; have C1 := Lib.hid hk1; have B1 := Lib.hid hb1; have G1 := Lib.hid hg1; clear hk1 hb1 hg1)
      | fail)
    refine (HNR.out _ B1.out).mono ?_
    rintro e w2 ⟨rb, rfl, hrd, hrb, hb⟩
    have RB := Lib.hid (show g1 < rb ∧ rb < w2.heap.size by have := C1.out.lt; have := hrd.lt; omega)
    have R2 := Lib.hid hrd.tight
    have C2 := Lib.hid (C1.out.below hb C1.out.lt)
    have B2 := Lib.hid (below_chain B1.out hb)
    clear hrd hrb hb C1 B1
    go_wp2_with fail
    refine (HTN.out w2 rb _ R2.out (fun k hk => hk.2)).mono ?_
    rintro e w3 ⟨v3, rfl, hv3, hty3, hown3, hr3, ht3⟩
    have V3 := Lib.hid hv3
    have Y3 := Lib.hid hty3
    have O3 := Lib.hid hown3
    have R3 := Lib.hid hr3
    have S3 := Lib.hid ht3.size
    have C3 := Lib.hid (C2.out.turn ht3 (by have := RB.out; omega))
    have B3 := Lib.hid (B2.out.trans (ht3.below B2.out.size fun k hk => by have := RB.out; have := G1.out; omega))
    have hone := hv3.one
    clear hv3 hty3 hown3 hr3 ht3
    generalize hc3 : bacCells c0 v3 (.slice none 0 0) = cs3
    have HC3 := Lib.hid hc3
    have hinfo : (Tryd.prog.info? 31).map (·.size) = some cs3.length := by rw [← hc3]; exact infoBack
    have hones : ∀ x ∈ cs3, x.oneCell' = true := by rw [← hc3]; exact bac_one hone rfl
    have hl3 : cs3.length = 13 := by rw [← hc3]; rfl
    have HI3 := Lib.hid hinfo
    have HO3 := Lib.hid hones
    have HL3 := Lib.hid hl3
    clear hc3 hinfo hones hl3
    go_wp2_with (first
      | ((with_reducible show wpList _ _ _ _ _ w3); refine wpList_allocS rfl 31 rfl zc backZero ?_; intro g5 w4 hk4 hb4 hg4; go_frame; have K4 := Lib.hid (show GetG 31 w3 rb g5 _ s12 zc.toArray w4 from ⟨R3.out.below hb4, hk4, Turn.of_below hb4 _, hg4, (by have := RB.out; have := S3.out; omega), fun k hk => Nat.lt_of_lt_of_le hk.2 S3.out⟩); have B4 := Lib.hid (below_chain B3.out hb4); clear hk4 hb4)
      | ((with_reducible show wpList _ _ _ _ _ w4); refine wpList_storeS rfl 31 _ _ rfl g5 rfl cs3 zc rfl K4.out.cs (by rw [HL3.out]; rfl) HO3.out HI3.out ?_; intro w5 hk ht; go_frame; have K5 := Lib.hid (K4.out.put (cs' := (bacCells c0 v3 (.slice none 0 0)).toArray) (by rw [HC3.out]; exact hk) ht); clear hk ht)
      | fail)
    have hn := Number_r K5.out.rd
    rw [E13.out] at hn
    dsimp only at hn
    refine hn.mono ?_
    clear hn
    rintro e w6 hq
    have K6 := Lib.hid (K5.out.told hq)
    obtain ⟨rfl, -⟩ := hq
    clear K4 K5
    go_wp2_with fail
    refine (HGN.out w6 rb _ K6.out.rd (fun k hk => Nat.lt_of_lt_of_le (Nat.lt_of_lt_of_le hk.2 S3.out) K6.out.tn.size)).mono ?_
    rintro e w7 ⟨u7, rfl, hown7, hr7, ht7⟩
    have K7 := Lib.hid (K6.out.told (v := .tuple #[]) (e := .returned (.tuple #[])) ⟨rfl, hr7, ht7⟩)
    have U7 := Lib.hid hown7
    have N7 := Lib.hid (show g5 < w6.heap.size from K6.out.cs.lt)
    have S6 := Lib.hid K6.out.tn.size
    have hu7 := (NmV.own hown7).one
    have HU7 := Lib.hid hu7
    clear hown7 hr7 ht7 K6
    go_wp2_with (first
      | ((with_reducible show wpList _ _ _ _ _ w7); refine wpList_store1 rfl 29 _ _ rfl g5 11 rfl u7 rfl HU7.out infoStrs 31 _ K7.out.cs (bac_lt _ _ _ (by decide)) ?_; intro w8 hk ht; go_frame; have K8 := Lib.hid (K7.out.put (cs' := (bacCells { c0 with names := ns } v3 u7).toArray) hk ht); have U8 := Lib.hid (ownsRow_turn' U7.out ht (fun k hk e => by have h1 := own_base U7.out k hk; have h2 := N7.out; omega)); clear hk ht)
      | fail)
    refine (End_r K8.out.rd).mono ?_
    rintro e w9 ⟨rfl, hb⟩
    have K9 := Lib.hid (K8.out.below hb)
    have U9 := Lib.hid (ownsRow_turn' U8.out (Turn.of_below hb fun _ => False) (fun _ _ h => h))
    have C9 := Lib.hid (C3.out.turn K9.out.tn (by have := RB.out; omega))
    have B9 := Lib.hid (B3.out.trans (K9.out.tn.below B3.out.size fun k hk => by have := RB.out; have := G1.out; omega))
    clear hb K7 K8 U7 U8
    rw [HE.out]
    have BV := Lib.hid (show BacV w9 (fun k => w.heap.size ≤ k ∧ k ≠ g1) { c0 with names := ns } v3 u7 from ⟨(V3.out.turn K9.out.tn (fun k hk e => by have := RB.out; omega)).mono (fun k _ hk => by have := B2.out.size; have := C2.out.lt; omega), (NmV.own U9.out).mono (fun k _ hk => by have h1 := B3.out.size; have h2 := S6.out; have h3 := C3.out.lt; omega), HOK.out ns⟩)
    generalize hc9 : bacCells { c0 with names := ns } v3 u7 = cs9 at *
    have HC9 := Lib.hid hc9
    have hinfo9 : (Tryd.prog.info? 31).map (·.size) = some cs9.length := by rw [← hc9]; exact infoBack
    have HI9 := Lib.hid hinfo9
    have hones9 : ∀ x ∈ cs9, x.oneCell' = true := by rw [← hc9]; exact bac_one hone hu7
    have HO9 := Lib.hid hones9
    have HL9 := Lib.hid (show cs9.length = 13 by rw [← hc9]; rfl)
    clear hc9 hinfo9 hones9 hone hu7
    go_wp2_with (first
      | ((with_reducible show wpList _ _ _ _ _ w9); refine wpList_loadS rfl 31 _ rfl g5 rfl cs9 K9.out.cs _ Tryd.underlying31 rfl HI9.out ?_; go_frame)
      | fail)
    have hmv := HMV.out w9 _ v3 u7 BV.out B9.out
    rw [HC9.out] at hmv
    refine hmv.mono ?_
    clear hmv
    rintro e w10 ⟨rfl, hb⟩
    have C10 := Lib.hid (C9.out.below hb C9.out.lt)
    have B10 := Lib.hid (below_chain B9.out hb)
    have K10 := Lib.hid (K9.out.below hb)
    have U10 := Lib.hid (ownsRow_turn' U9.out (Turn.of_below hb fun _ => False) (fun _ _ h => h))
    have BV10 := Lib.hid (BV.out.below hb)
    have Y10 := Lib.hid ((Y3.out.turn K9.out.tn (fun k hk e => by have := RB.out; have := O3.out k hk; omega)).below hb)
    clear hb
    go_wp2_with (first
      | ((with_reducible show wpList _ _ _ _ _ w10); refine wpList_loadS rfl 31 _ rfl g5 rfl cs9 K10.out.cs _ Tryd.underlying31 rfl HI9.out ?_; go_frame)
      | ((with_reducible show wpList _ _ _ _ _ w10); refine wpList_storeS rfl 31 _ _ rfl g1 rfl cs9 zc rfl C10.out (by rw [HL9.out]; rfl) HO9.out HI9.out ?_; intro w11 hk ht; go_frame; have C11 := Lib.hid hk; have T11 := Lib.hid ht; have B11 := Lib.hid (below_turn B10.out ht B10.out.size G1.out); clear hk ht)
      | fail)
    refine bac_end2 (cs := cs9) rfl HL9.out C11.out rfl rfl ⟨v3, u7, (by show _ = Ending.returned (Value.tuple #[.agg (bacCells { c0 with names := ns } v3 u7).toArray, .int .i64 0]); rw [HC9.out]; rfl), (BV10.out.turn T11.out fun k hk e => hk.2 e).mono fun k _ hk => hk.1, Y10.out.turn T11.out (fun k hk e => by have := RB.out; have := O3.out k hk; omega), fun k hk => Nat.le_trans B2.out.size (O3.out k hk), ownsRow_less (ownsRow_turn' U10.out T11.out (fun k hk e => by have h1 := own_base U10.out k hk; have h2 := C3.out.lt; have h3 := S6.out; omega)) (by have h1 := B3.out.size; have h2 := S6.out; omega), B11.out⟩

end Go.Proofs.YtboalmmpcfiicaaDoor
