/- Layer 10's laws: calls that the document tells. -/
import Derived.Test.YthfaemcpheecfaaDoorCal10
import Derived.Test.YthfaemcpheecfaaDoorCalB
import Derived.Test.YthfaemcpheecfaaDoorSlB
namespace Go.Proofs.YthfaemcpheecfaaDoor
open Go.RowKit Go.Shelf
set_option linter.unusedVariables false
set_option maxRecDepth 100000
set_option linter.unusedSimpArgs false

/-- the chapter's call -/
def oneX : CallX := { calZero with inc := 1, seq := 1, kind := 1, ino := 1, gen := 1 }
theorem oneOk : calOk oneX := by simp [calOk, oneX, calZero]
theorem oneMay : mayX oneX = true := by decide +kernel
theorem zeroMay : mayX calZero = false := by decide +kernel
theorem oneLen : (putX oneX).length = 28 := by decide +kernel
theorem oneFull : getX (putX oneX) = (oneX, 0) := by
  have h := put_get oneOk oneMay [] (by rw [List.append_nil, oneLen]; decide)
  rwa [List.append_nil, if_pos rfl] at h
theorem oneCut : getX ((putX oneX).take 27) = (calZero, 4) := put_cut oneOk oneMay 27 (by rw [oneLen]; decide)
theorem put_zero (w : World) (hT : Tabs w) : Calls Tryd.prog 7 #[.agg (calCells calZero (.slice none 0 0)).toArray] w fun e w' => e = .returned (.tuple #[.slice none 0 0, .int .i64 2]) ∧ Below w.heap.size w w' := by
  refine (Put_v (calZ_v w (fun _ => False)) (fun _ h => h.elim) hT).mono ?_
  rintro e w' (⟨-, h, hb⟩ | ⟨h, -⟩)
  · exact ⟨h, hb⟩
  · rw [zeroMay] at h; cases h
theorem put_one (w : World) (hT : Tabs w) : Calls Tryd.prog 7 #[.agg (calCells oneX (.slice none 0 0)).toArray] w fun e w' => ∃ v, e = .returned (.tuple #[v, .int .i64 0]) ∧ BsV w' (w.heap.size ≤ ·) v (putX oneX) ∧ Below w.heap.size w w' := by
  refine (Put_v (F := fun _ => False) (c := oneX) ⟨BsV.nil _ _, oneOk⟩ (fun _ h => h.elim) hT).mono ?_
  rintro e w' (⟨h, -⟩ | ⟨-, v, he, hv, -, -, hb⟩)
  · rw [oneMay] at h; cases h
  · exact ⟨v, he, hv, hb⟩
set_option maxHeartbeats 16000000 in
theorem lives10_v (w : World) (hT : Tabs w) : Calls Tryd.prog 19 #[] w fun e w' => e = .returned (.bool true) ∧ Below w.heap.size w w' := by
  have HT := Lib.hid hT
  have HC6 := Lib.hid (Changes_v 6 (by decide))
  have HC4 := Lib.hid (Changes_v 4 (by decide))
  rw [show changesX 6 = true from rfl] at HC6
  rw [show changesX 4 = false from rfl] at HC4
  clear hT
  go_enter Tryd.func19, Tryd.ntmps19
  go_wp2_with fail
  refine (put_zero w HT.out).mono ?_
  rintro e w1 ⟨rfl, hb⟩
  have HB1 := Lib.hid hb
  clear hb
  go_wp2_with fail
  refine (put_one w1 (HT.out.below HB1.out)).mono ?_
  rintro e w2 ⟨v, rfl, hv, hb⟩
  obtain ⟨A, cp, rfl, hrd, hnil, hlc, hcm⟩ := id hv
  have hlen := oneLen
  have hcut := oneCut
  have hfull := oneFull
  generalize putX oneX = pl at *
  have hb2 := below_chain HB1.out hb
  have hsl := sl_h A 28 cp 27 (by omega)
  have hup := hv.upto 27 (by omega)
  have hg1 := Get_v (pl.take 27) A cp w2 (by rw [List.length_take]; omega) (rd_take hrd.rd 27) (fun h => by have := hnil h; rw [this.1]; exact ⟨by simp, this.2⟩) (HT.out.below hb2)
  rw [show (pl.take 27).length = 27 by rw [List.length_take]; omega, hcut] at hg1
  have hg2 := fun u (h : Below w2.heap.size w2 u) => Get_v pl A cp u (by omega) (hrd.rd.below h) hnil (HT.out.below (below_chain hb2 h))
  rw [hfull, hlen] at hg2
  rw [hlen] at hv ⊢
  have HG1 := Lib.hid hg1
  have HG2 := Lib.hid hg2
  have HB2 := Lib.hid hb2
  have hle : cp ≤ 9223372036854775807 := hcm
  have hle2 : 28 ≤ cp := by omega
  clear hg1 hg2 hb2 hb hv hrd hnil hlc hcm hlen hcut hfull hup
  go_wp2_with fail
  refine HG1.out.mono ?_
  rintro e w3 ⟨v3, rfl, hv3, hb⟩
  obtain ⟨A3, c3, rfl, -⟩ := id hv3.1
  have HB3 := Lib.hid hb
  clear hv3 hb
  go_wp2_with (first
    | ((with_reducible show wpList _ _ _ _ _ w3); refine wpList_allocS rfl 28 rfl (calCells calZero (.slice none 0 0)) callZero ?_; intro g4 w4 hk4 hb4 hg4; go_frame; have C4 := Lib.hid hk4; have B4 := Lib.hid (below_chain HB3.out hb4); have G4 := Lib.hid (Nat.le_trans HB3.out.size hg4); clear hk4 hb4 hg4)
    | ((with_reducible show wpList _ _ _ _ _ w4); refine wpList_storeS rfl 28 _ _ rfl g4 rfl (calCells calZero (.slice A3 calZero.data.length c3)) (calCells calZero (.slice none 0 0)) rfl C4.out rfl (cal_one rfl) infoCall ?_; intro w5 hk5 ht5; go_frame; have B5 := Lib.hid (B4.out.trans (ht5.below B4.out.size fun k e => by have := G4.out; omega)); clear hk5 ht5)
    | fail)
  refine (HG2.out _ B5.out).mono ?_
  rintro e w6 ⟨v6, rfl, hv6, hb⟩
  obtain ⟨A6, c6, rfl, -⟩ := id hv6.1
  have HB6 := Lib.hid (below_chain B5.out hb)
  clear hv6 hb
  go_wp2_with (first
    | ((with_reducible show wpList _ _ _ _ _ w6); refine wpList_allocS rfl 28 rfl (calCells calZero (.slice none 0 0)) callZero ?_; intro g7 w7 hk7 hb7 hg7; go_frame; have C7 := Lib.hid hk7; have B7 := Lib.hid (below_chain HB6.out hb7); have G7 := Lib.hid (Nat.le_trans HB6.out.size hg7); clear hk7 hb7 hg7)
    | ((with_reducible show wpList _ _ _ _ _ w7); refine wpList_storeS rfl 28 _ _ rfl g7 rfl (calCells oneX (.slice A6 oneX.data.length c6)) (calCells calZero (.slice none 0 0)) rfl C7.out rfl (cal_one rfl) infoCall ?_; intro w8 hk8 ht8; go_frame; have p3 : w8.cell? ⟨g7, 3, none⟩ = some (.int .u8 1) := hk8.cell 3 rfl; have p5 : w8.cell? ⟨g7, 5, none⟩ = some (.int .u32 1) := hk8.cell 5 rfl; have B8 := Lib.hid (B7.out.trans (ht8.below B7.out.size fun k e => by have := G7.out; omega)); clear hk8 ht8)
    | fail)
  refine (HC6.out _).mono ?_
  rintro e w9 ⟨rfl, rfl⟩
  go_wp2_with fail
  refine (HC4.out _).mono ?_
  rintro e w10 ⟨rfl, rfl⟩
  go_wp2_with fail
  go_ret
  exact ⟨rfl, below_chain HB2.out B8.out⟩

end Go.Proofs.YthfaemcpheecfaaDoor
