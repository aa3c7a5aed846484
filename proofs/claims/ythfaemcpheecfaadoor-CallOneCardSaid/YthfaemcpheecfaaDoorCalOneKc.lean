/- CallOne: a call that may be, of the kinds 9, 10, 11, 12. -/
import Derived.Test.YthfaemcpheecfaaDoorAnyA
import Derived.Test.YthfaemcpheecfaaDoorCalL
import Derived.Test.YthfaemcpheecfaaDoorCalOneP
namespace Go.Proofs.YthfaemcpheecfaaDoor
open Go.RowKit Go.Shelf
set_option linter.unusedVariables false
set_option maxRecDepth 100000
set_option linter.unusedSimpArgs false

set_option maxHeartbeats 16000000 in
theorem one10_k9 (c : CallX) (u : Value) (n : Nat) (s : ByteArray) (w : World) (hT : Tabs w) (hc : CalV w (· < w.heap.size) c u) (hn : n < 4294967296) (hm : mayX c = true) (h0 : n ≠ 0) (hs : s ≠ ⟨#[]⟩) (hk : c.kind = 9) :
    Calls Tryd.prog 5 #[.agg (calCells c u).toArray, .int .u32 n, .string s] w fun e w' => e = .returned (.bool true) ∧ Below w.heap.size w w' := by
  obtain ⟨A, cp, rfl, -⟩ := id hc.1
  have HCV := Lib.hid hc
  have HT := Lib.hid hT
  clear hc hT
  have hmix : Tryd.prog.follows .mixedOrders = true := by kernel_rfl
  have HM := Lib.hid hm
  have HK := Lib.hid hk
  have HS := Lib.hid hs
  have hn0 : 0 < n := Nat.pos_of_ne_zero h0
  have HN := Lib.hid (And.intro hn0 hn)
  have hsl : (L s).isEmpty = false := by cases h : (L s).isEmpty with | false => rfl | true => exact absurd (L_inj (List.isEmpty_iff.1 h)) hs
  have HE := Lib.hid hsl
  clear hm hs hk hsl
  go_enter Tryd.func5, Tryd.ntmps5
  go_wp2_with (first
    | ((with_reducible show wpList _ _ _ _ _ w); refine wpList_boxS rfl 28 _ rfl (calCells c (.slice A c.data.length cp)) rfl ?_; intro g1 w1 hk1 hb1 hg1; go_frame; have C1 := Lib.hid hk1; have B1 := Lib.hid hb1; clear hk1 hb1 hg1)
    | ((with_reducible show wpList _ _ _ _ _ w1); refine wpList_loadS rfl 28 _ rfl g1 rfl (calCells c (.slice A c.data.length cp)) C1.out _ Tryd.underlying28 rfl infoCall ?_; go_frame)
    | fail)
  have K0_1 := Lib.hid (B1.out)
  have HY := Lib.hid (May_v (HCV.out.below K0_1.out) (HT.out.below K0_1.out))
  rw [HM.out] at HY
  refine HY.out.mono ?_
  rintro e w2 ⟨rfl, hb⟩
  have K0_2 := Lib.hid (below_chain K0_1.out hb)
  have K1_2 := Lib.hid (hb)
  clear hb HY
  have q3 : w2.cell? ⟨g1, 3, none⟩ = some (.int .u8 9) := by have := (C1.out.below K1_2.out C1.out.lt).cell 3 (v := .int .u8 (c.kind : Int)) rfl; rw [HK.out] at this; exact this
  have hse : s.toList.isEmpty = false := by rw [Lib.toList_data]; exact HE.out
  have hne : ((n : Int) == 0) = false := by have := HN.out.1; rw [beq_eq_false_iff_ne]; omega
  go_wp2_with fail
  clear q3 hse hne
  refine wp_region_W (Below w2.heap.size w2) (Below w2.heap.size w2) hmix ((Below.refl _ _).drew) ?_
  change wpAnyW _ _ _ _ _ _ _ _ _
  refine wpAnyW_take (i := 0) (v := .agg (calCells c (.slice A c.data.length cp)).toArray) (kept_below w2) (fun _ h => h) rfl (by kernel_rfl) (by kernel_rfl) (fun _ _ _ h => h) (DoesV.loadD (by rfl) 28 _ rfl g1 0 rfl (calCells c (.slice A c.data.length cp)) (fun w9 hS => At.whole ((C1.out.below K1_2.out C1.out.lt).below hS (C1.out.below K1_2.out C1.out.lt).lt)) _ Tryd.underlying28 rfl infoCall) ?_
  try simp only [List.getElem_toArray, List.getElem_cons_succ, List.getElem_cons_zero, Act.put, List.setIfInBounds_toArray, List.set_cons_succ, List.set_cons_zero]
  refine wpAnyW_take (i := 1) (v := .agg (calCells c (.slice A c.data.length cp)).toArray) (kept_below w2) (fun _ h => h) rfl (by kernel_rfl) (by kernel_rfl) (fun _ _ _ h => h) (DoesV.loadD (by rfl) 28 _ rfl g1 0 rfl (calCells c (.slice A c.data.length cp)) (fun w9 hS => At.whole ((C1.out.below K1_2.out C1.out.lt).below hS (C1.out.below K1_2.out C1.out.lt).lt)) _ Tryd.underlying28 rfl infoCall) ?_
  try simp only [List.getElem_toArray, List.getElem_cons_succ, List.getElem_cons_zero, Act.put, List.setIfInBounds_toArray, List.set_cons_succ, List.set_cons_zero]
  refine wpAnyW_take (i := 2) (v := .agg (calCells c (.slice A c.data.length cp)).toArray) (kept_below w2) (fun _ h => h) rfl (by kernel_rfl) (by kernel_rfl) (fun _ _ _ h => h) (DoesV.loadD (by rfl) 28 _ rfl g1 0 rfl (calCells c (.slice A c.data.length cp)) (fun w9 hS => At.whole ((C1.out.below K1_2.out C1.out.lt).below hS (C1.out.below K1_2.out C1.out.lt).lt)) _ Tryd.underlying28 rfl infoCall) ?_
  try simp only [List.getElem_toArray, List.getElem_cons_succ, List.getElem_cons_zero, Act.put, List.setIfInBounds_toArray, List.set_cons_succ, List.set_cons_zero]
  refine wpAnyW_take (i := 3) (v := .agg (calCells c (.slice A c.data.length cp)).toArray) (kept_below w2) (fun _ h => h) rfl (by kernel_rfl) (by kernel_rfl) (fun _ _ _ h => h) (DoesV.loadD (by rfl) 28 _ rfl g1 0 rfl (calCells c (.slice A c.data.length cp)) (fun w9 hS => At.whole ((C1.out.below K1_2.out C1.out.lt).below hS (C1.out.below K1_2.out C1.out.lt).lt)) _ Tryd.underlying28 rfl infoCall) ?_
  try simp only [List.getElem_toArray, List.getElem_cons_succ, List.getElem_cons_zero, Act.put, List.setIfInBounds_toArray, List.set_cons_succ, List.set_cons_zero]
  refine wpAnyW_take (i := 4) (v := .agg (calCells c (.slice A c.data.length cp)).toArray) (kept_below w2) (fun _ h => h) rfl (by kernel_rfl) (by kernel_rfl) (fun _ _ _ h => h) (DoesV.loadD (by rfl) 28 _ rfl g1 0 rfl (calCells c (.slice A c.data.length cp)) (fun w9 hS => At.whole ((C1.out.below K1_2.out C1.out.lt).below hS (C1.out.below K1_2.out C1.out.lt).lt)) _ Tryd.underlying28 rfl infoCall) ?_
  try simp only [List.getElem_toArray, List.getElem_cons_succ, List.getElem_cons_zero, Act.put, List.setIfInBounds_toArray, List.set_cons_succ, List.set_cons_zero]
  refine wpAnyW_allocs 28 (calCells calZero (.slice none 0 0)) callZero 5 [(5, 10), (6, 11), (7, 12), (8, 13), (9, 14)] _ _ w2 5 rfl (by kernel_rfl) (by decide) (by decide) (by decide) (fun x hx => ?_) (fun _ h => h) ?_
  · simp only [List.mem_cons, List.not_mem_nil, or_false] at hx; rcases hx with rfl | rfl | rfl | rfl | rfl <;> exact ⟨_, rfl, rfl, rfl, rfl⟩
  intro g w3 hg hgi hb3
  have ha := hg (5, 10) (by simp)
  have hb := hg (6, 11) (by simp)
  have hd := hg (7, 12) (by simp)
  have he := hg (8, 13) (by simp)
  have hf := hg (9, 14) (by simp)
  have nab : g 5 ≠ g 6 := fun e => by have := hgi (5, 10) (by simp) (6, 11) (by simp) e; simp at this
  have nad : g 5 ≠ g 7 := fun e => by have := hgi (5, 10) (by simp) (7, 12) (by simp) e; simp at this
  have nae : g 5 ≠ g 8 := fun e => by have := hgi (5, 10) (by simp) (8, 13) (by simp) e; simp at this
  have naf : g 5 ≠ g 9 := fun e => by have := hgi (5, 10) (by simp) (9, 14) (by simp) e; simp at this
  have nbd : g 6 ≠ g 7 := fun e => by have := hgi (6, 11) (by simp) (7, 12) (by simp) e; simp at this
  have nbe : g 6 ≠ g 8 := fun e => by have := hgi (6, 11) (by simp) (8, 13) (by simp) e; simp at this
  have nbf : g 6 ≠ g 9 := fun e => by have := hgi (6, 11) (by simp) (9, 14) (by simp) e; simp at this
  have nde : g 7 ≠ g 8 := fun e => by have := hgi (7, 12) (by simp) (8, 13) (by simp) e; simp at this
  have ndf : g 7 ≠ g 9 := fun e => by have := hgi (7, 12) (by simp) (9, 14) (by simp) e; simp at this
  have nef : g 8 ≠ g 9 := fun e => by have := hgi (8, 13) (by simp) (9, 14) (by simp) e; simp at this
  clear hg hgi
  dsimp only at ha hb hd he hf
  have HA := Lib.hid (Apart5.mk nab nad nae naf nbd nbe nbf nde ndf nef)
  have HF := Lib.hid (Five.mk (t := 28) (a := (calCells calZero (.slice none 0 0))) (b := (calCells calZero (.slice none 0 0))) (d := (calCells calZero (.slice none 0 0))) (e := (calCells calZero (.slice none 0 0))) (f := (calCells calZero (.slice none 0 0))) ha.1 hb.1 hd.1 he.1 hf.1)
  have La := Lib.hid ha.2
  have Lb := Lib.hid hb.2
  have Ld := Lib.hid hd.2
  have Le := Lib.hid he.2
  have Lf := Lib.hid hf.2
  have B3 := Lib.hid hb3
  clear hb3 ha hb hd he hf nab nad nae naf nbd nbe nbf nde ndf nef
  unfold putAll setAll
  simp only [List.foldl_cons, List.foldl_nil]
  generalize g 5 = ga at *
  generalize g 6 = gb at *
  generalize g 7 = gd at *
  generalize g 8 = ge at *
  generalize g 9 = gf at *
  try simp only [List.getElem_toArray, List.getElem_cons_succ, List.getElem_cons_zero, Act.put, List.setIfInBounds_toArray, List.set_cons_succ, List.set_cons_zero]
  refine wpAnyW_only (i := 10) rfl (by kernel_rfl) rfl (fun v hv => ?_)
  have hF := HF.out.below hv
  have hB := below_chain B3.out hv
  refine wp_storeW 28 _ _ rfl ga rfl (calCells c (.slice A c.data.length cp)) (calCells calZero (.slice none 0 0)) rfl hF.a rfl (cal_one rfl) infoCall (fun x0 hx ht => ?_)
  have hF2 := hF.ta HA.out ht hx
  have hB2 : Below w2.heap.size w2 x0 := hB.trans (ht.below hB.size fun k e => by have := La.out; omega)
  clear HF B3
  have HF := Lib.hid hF2
  have B3 := Lib.hid hB2
  clear hF hB hx ht hF2 hB2 hv
  refine ⟨Below x0.heap.size x0, Below.refl _ _, kept_below x0, fun q hq => below_chain B3.out hq, ?_⟩
  try simp only [List.getElem_toArray, List.getElem_cons_succ, List.getElem_cons_zero, Act.put, List.setIfInBounds_toArray, List.set_cons_succ, List.set_cons_zero]
  refine wpAnyW_only (i := 11) rfl (by kernel_rfl) rfl (fun v hv => ?_)
  have hF := HF.out.below hv
  have hB := below_chain B3.out hv
  refine wp_storeW 28 _ _ rfl gb rfl (calCells c (.slice A c.data.length cp)) (calCells calZero (.slice none 0 0)) rfl hF.b rfl (cal_one rfl) infoCall (fun x1 hx ht => ?_)
  have hF2 := hF.tb HA.out ht hx
  have hB2 : Below w2.heap.size w2 x1 := hB.trans (ht.below hB.size fun k e => by have := Lb.out; omega)
  clear HF B3
  have HF := Lib.hid hF2
  have B3 := Lib.hid hB2
  clear hF hB hx ht hF2 hB2 hv
  refine ⟨Below x1.heap.size x1, Below.refl _ _, kept_below x1, fun q hq => below_chain B3.out hq, ?_⟩
  try simp only [List.getElem_toArray, List.getElem_cons_succ, List.getElem_cons_zero, Act.put, List.setIfInBounds_toArray, List.set_cons_succ, List.set_cons_zero]
  refine wpAnyW_only (i := 12) rfl (by kernel_rfl) rfl (fun v hv => ?_)
  have hF := HF.out.below hv
  have hB := below_chain B3.out hv
  refine wp_storeW 28 _ _ rfl gd rfl (calCells c (.slice A c.data.length cp)) (calCells calZero (.slice none 0 0)) rfl hF.d rfl (cal_one rfl) infoCall (fun x2 hx ht => ?_)
  have hF2 := hF.td HA.out ht hx
  have hB2 : Below w2.heap.size w2 x2 := hB.trans (ht.below hB.size fun k e => by have := Ld.out; omega)
  clear HF B3
  have HF := Lib.hid hF2
  have B3 := Lib.hid hB2
  clear hF hB hx ht hF2 hB2 hv
  refine ⟨Below x2.heap.size x2, Below.refl _ _, kept_below x2, fun q hq => below_chain B3.out hq, ?_⟩
  try simp only [List.getElem_toArray, List.getElem_cons_succ, List.getElem_cons_zero, Act.put, List.setIfInBounds_toArray, List.set_cons_succ, List.set_cons_zero]
  refine wpAnyW_only (i := 13) rfl (by kernel_rfl) rfl (fun v hv => ?_)
  have hF := HF.out.below hv
  have hB := below_chain B3.out hv
  refine wp_storeW 28 _ _ rfl ge rfl (calCells c (.slice A c.data.length cp)) (calCells calZero (.slice none 0 0)) rfl hF.e rfl (cal_one rfl) infoCall (fun x3 hx ht => ?_)
  have hF2 := hF.te HA.out ht hx
  have hB2 : Below w2.heap.size w2 x3 := hB.trans (ht.below hB.size fun k e => by have := Le.out; omega)
  clear HF B3
  have HF := Lib.hid hF2
  have B3 := Lib.hid hB2
  clear hF hB hx ht hF2 hB2 hv
  refine ⟨Below x3.heap.size x3, Below.refl _ _, kept_below x3, fun q hq => below_chain B3.out hq, ?_⟩
  try simp only [List.getElem_toArray, List.getElem_cons_succ, List.getElem_cons_zero, Act.put, List.setIfInBounds_toArray, List.set_cons_succ, List.set_cons_zero]
  refine wpAnyW_only (i := 14) rfl (by kernel_rfl) rfl (fun v hv => ?_)
  have hF := HF.out.below hv
  have hB := below_chain B3.out hv
  refine wp_storeW 28 _ _ rfl gf rfl (calCells c (.slice A c.data.length cp)) (calCells calZero (.slice none 0 0)) rfl hF.f rfl (cal_one rfl) infoCall (fun x4 hx ht => ?_)
  have hF2 := hF.tf HA.out ht hx
  have hB2 : Below w2.heap.size w2 x4 := hB.trans (ht.below hB.size fun k e => by have := Lf.out; omega)
  clear HF B3
  have HF := Lib.hid hF2
  have B3 := Lib.hid hB2
  clear hF hB hx ht hF2 hB2 hv
  refine ⟨Below x4.heap.size x4, Below.refl _ _, kept_below x4, fun q hq => below_chain B3.out hq, ?_⟩
  try simp only [List.getElem_toArray, List.getElem_cons_succ, List.getElem_cons_zero, Act.put, List.setIfInBounds_toArray, List.set_cons_succ, List.set_cons_zero]
  refine wpAnyW_done (by kernel_rfl) (fun y hy => ?_) _
  have F0 := Lib.hid (HF.out.below hy)
  have BY0 := Lib.hid (below_chain B3.out hy)
  clear HF B3 hy
  have HVa := Lib.hid (show CalV w (· < w.heap.size) { c with size := n } (.slice A c.data.length cp) from ⟨HCV.out.1, by have h1 := HCV.out.2; have h2 := HN.out.2; unfold calOk at h1 ⊢; dsimp only; omega⟩)
  have HVb := Lib.hid (show CalV w (· < w.heap.size) { c with off := n } (.slice A c.data.length cp) from ⟨HCV.out.1, by have h1 := HCV.out.2; have h2 := HN.out.2; unfold calOk at h1 ⊢; dsimp only; omega⟩)
  have HVd := Lib.hid (show CalV w (· < w.heap.size) { c with name := s } (.slice A c.data.length cp) from ⟨HCV.out.1, by have h1 := HCV.out.2; have h2 := HN.out.2; unfold calOk at h1 ⊢; dsimp only; omega⟩)
  have HVe := Lib.hid (show CalV w (· < w.heap.size) { c with tino := n } (.slice A c.data.length cp) from ⟨HCV.out.1, by have h1 := HCV.out.2; have h2 := HN.out.2; unfold calOk at h1 ⊢; dsimp only; omega⟩)
  have HVf := Lib.hid (show CalV w (· < w.heap.size) { c with toname := s } (.slice A c.data.length cp) from ⟨HCV.out.1, by have h1 := HCV.out.2; have h2 := HN.out.2; unfold calOk at h1 ⊢; dsimp only; omega⟩)
  go_wp2_with (first
    | ((with_reducible show wpList _ _ _ _ _ y); refine wpList_store1 rfl 22 _ _ rfl ga 11 rfl (.int .u32 n) rfl rfl (by kernel_rfl) 28 _ F0.out.a (by simp [calCells]) ?_; intro y1 hk ht; go_frame; have F1 := Lib.hid (F0.out.ta HA.out ht (x := (calCells { c with size := n } (.slice A c.data.length cp))) hk); have BY1 := Lib.hid (BY0.out.trans (ht.below BY0.out.size fun k e => by have := La.out; omega)); clear hk ht F0 BY0)
    | ((with_reducible show wpList _ _ _ _ _ y1); refine wpList_store1 rfl 22 _ _ rfl gb 10 rfl (.int .u32 n) rfl rfl (by kernel_rfl) 28 _ F1.out.b (by simp [calCells]) ?_; intro y2 hk ht; go_frame; have F2 := Lib.hid (F1.out.tb HA.out ht (x := (calCells { c with off := n } (.slice A c.data.length cp))) hk); have BY2 := Lib.hid (BY1.out.trans (ht.below BY1.out.size fun k e => by have := Lb.out; omega)); clear hk ht F1 BY1)
    | ((with_reducible show wpList _ _ _ _ _ y2); refine wpList_store1 rfl 9 _ _ rfl gd 6 rfl (.string s) rfl rfl (by kernel_rfl) 28 _ F2.out.d (by simp [calCells]) ?_; intro y3 hk ht; go_frame; have F3 := Lib.hid (F2.out.td HA.out ht (x := (calCells { c with name := s } (.slice A c.data.length cp))) hk); have BY3 := Lib.hid (BY2.out.trans (ht.below BY2.out.size fun k e => by have := Ld.out; omega)); clear hk ht F2 BY2)
    | ((with_reducible show wpList _ _ _ _ _ y3); refine wpList_store1 rfl 22 _ _ rfl ge 7 rfl (.int .u32 n) rfl rfl (by kernel_rfl) 28 _ F3.out.e (by simp [calCells]) ?_; intro y4 hk ht; go_frame; have F4 := Lib.hid (F3.out.te HA.out ht (x := (calCells { c with tino := n } (.slice A c.data.length cp))) hk); have BY4 := Lib.hid (BY3.out.trans (ht.below BY3.out.size fun k e => by have := Le.out; omega)); clear hk ht F3 BY3)
    | ((with_reducible show wpList _ _ _ _ _ y4); refine wpList_store1 rfl 9 _ _ rfl gf 9 rfl (.string s) rfl rfl (by kernel_rfl) 28 _ F4.out.f (by simp [calCells]) ?_; intro y5 hk ht; go_frame; have F5 := Lib.hid (F4.out.tf HA.out ht (x := (calCells { c with toname := s } (.slice A c.data.length cp))) hk); have BY5 := Lib.hid (BY4.out.trans (ht.below BY4.out.size fun k e => by have := Lf.out; omega)); clear hk ht F4 BY4)
    | ((with_reducible show wpList _ _ _ _ _ y5); refine wpLoadG (by rfl) 28 _ rfl ga rfl (calCells { c with size := n } (.slice A c.data.length cp)) (F5.out.below (Below.refl _ _)).a _ Tryd.underlying28 rfl infoCall ?_; go_frame)
    | fail)
  have K0_3 := Lib.hid (below_chain K0_2.out BY5.out)
  have K1_3 := Lib.hid (below_chain K1_2.out BY5.out)
  have HY := Lib.hid (May_v (HVa.out.below K0_3.out) (HT.out.below K0_3.out))
  rw [show mayX { c with size := n } = false from one_size (by rw [HK.out]; rfl) HN.out.1] at HY
  refine HY.out.mono ?_
  rintro e z0 ⟨rfl, hb⟩
  have K0_4 := Lib.hid (below_chain K0_3.out hb)
  have K1_4 := Lib.hid (below_chain K1_3.out hb)
  have KY_4 := Lib.hid (hb)
  clear hb HY
  go_wp2_with (first
    | ((with_reducible show wpList _ _ _ _ _ z0); refine wpLoadG (by rfl) 28 _ rfl gb rfl (calCells { c with off := n } (.slice A c.data.length cp)) (F5.out.below KY_4.out).b _ Tryd.underlying28 rfl infoCall ?_; go_frame)
    | fail)
  have HY := Lib.hid (May_v (HVb.out.below K0_4.out) (HT.out.below K0_4.out))
  rw [show mayX { c with off := n } = false from one_off (by rw [HK.out]; rfl) HN.out.1] at HY
  refine HY.out.mono ?_
  rintro e z1 ⟨rfl, hb⟩
  have K0_5 := Lib.hid (below_chain K0_4.out hb)
  have K1_5 := Lib.hid (below_chain K1_4.out hb)
  have KY_5 := Lib.hid (below_chain KY_4.out hb)
  clear hb HY
  have q3 : z1.cell? ⟨g1, 3, none⟩ = some (.int .u8 9) := by have := (C1.out.below K1_5.out C1.out.lt).cell 3 (v := .int .u8 (c.kind : Int)) rfl; rw [HK.out] at this; exact this
  go_wp2_with (first
    | ((with_reducible show wpList _ _ _ _ _ z1); refine wpLoadG (by rfl) 28 _ rfl ge rfl (calCells { c with tino := n } (.slice A c.data.length cp)) (F5.out.below KY_5.out).e _ Tryd.underlying28 rfl infoCall ?_; go_frame)
    | fail)
  clear q3
  have HY := Lib.hid (May_v (HVe.out.below K0_5.out) (HT.out.below K0_5.out))
  rw [show mayX { c with tino := n } = false from one_to (by rw [HK.out]; rfl) HN.out.1] at HY
  refine HY.out.mono ?_
  rintro e z2 ⟨rfl, hb⟩
  have K0_6 := Lib.hid (below_chain K0_5.out hb)
  have K1_6 := Lib.hid (below_chain K1_5.out hb)
  have KY_6 := Lib.hid (below_chain KY_5.out hb)
  clear hb HY
  go_wp2_with (first
    | ((with_reducible show wpList _ _ _ _ _ z2); refine wpLoadG (by rfl) 28 _ rfl gf rfl (calCells { c with toname := s } (.slice A c.data.length cp)) (F5.out.below KY_6.out).f _ Tryd.underlying28 rfl infoCall ?_; go_frame)
    | fail)
  have HY := Lib.hid (May_v (HVf.out.below K0_6.out) (HT.out.below K0_6.out))
  rw [show mayX { c with toname := s } = false from one_toname (by rw [HK.out]; rfl) HE.out] at HY
  refine HY.out.mono ?_
  rintro e z3 ⟨rfl, hb⟩
  have K0_7 := Lib.hid (below_chain K0_6.out hb)
  have K1_7 := Lib.hid (below_chain K1_6.out hb)
  have KY_7 := Lib.hid (below_chain KY_6.out hb)
  clear hb HY
  go_wp2_with fail
  refine (lives10_v _ (HT.out.below K0_7.out)).mono ?_
  rintro e wz ⟨rfl, hb⟩
  have K0_8 := Lib.hid (below_chain K0_7.out hb)
  have K1_8 := Lib.hid (below_chain K1_7.out hb)
  have KY_8 := Lib.hid (below_chain KY_7.out hb)
  clear hb
  go_wp2_with fail
  go_ret
  exact ⟨rfl, K0_8.out⟩
set_option maxHeartbeats 16000000 in
theorem one10_k10 (c : CallX) (u : Value) (n : Nat) (s : ByteArray) (w : World) (hT : Tabs w) (hc : CalV w (· < w.heap.size) c u) (hn : n < 4294967296) (hm : mayX c = true) (h0 : n ≠ 0) (hs : s ≠ ⟨#[]⟩) (hk : c.kind = 10) :
    Calls Tryd.prog 5 #[.agg (calCells c u).toArray, .int .u32 n, .string s] w fun e w' => e = .returned (.bool true) ∧ Below w.heap.size w w' := by
  obtain ⟨A, cp, rfl, -⟩ := id hc.1
  have HCV := Lib.hid hc
  have HT := Lib.hid hT
  clear hc hT
  have hmix : Tryd.prog.follows .mixedOrders = true := by kernel_rfl
  have HM := Lib.hid hm
  have HK := Lib.hid hk
  have HS := Lib.hid hs
  have hn0 : 0 < n := Nat.pos_of_ne_zero h0
  have HN := Lib.hid (And.intro hn0 hn)
  have hsl : (L s).isEmpty = false := by cases h : (L s).isEmpty with | false => rfl | true => exact absurd (L_inj (List.isEmpty_iff.1 h)) hs
  have HE := Lib.hid hsl
  clear hm hs hk hsl
  go_enter Tryd.func5, Tryd.ntmps5
  go_wp2_with (first
    | ((with_reducible show wpList _ _ _ _ _ w); refine wpList_boxS rfl 28 _ rfl (calCells c (.slice A c.data.length cp)) rfl ?_; intro g1 w1 hk1 hb1 hg1; go_frame; have C1 := Lib.hid hk1; have B1 := Lib.hid hb1; clear hk1 hb1 hg1)
    | ((with_reducible show wpList _ _ _ _ _ w1); refine wpList_loadS rfl 28 _ rfl g1 rfl (calCells c (.slice A c.data.length cp)) C1.out _ Tryd.underlying28 rfl infoCall ?_; go_frame)
    | fail)
  have K0_1 := Lib.hid (B1.out)
  have HY := Lib.hid (May_v (HCV.out.below K0_1.out) (HT.out.below K0_1.out))
  rw [HM.out] at HY
  refine HY.out.mono ?_
  rintro e w2 ⟨rfl, hb⟩
  have K0_2 := Lib.hid (below_chain K0_1.out hb)
  have K1_2 := Lib.hid (hb)
  clear hb HY
  have q3 : w2.cell? ⟨g1, 3, none⟩ = some (.int .u8 10) := by have := (C1.out.below K1_2.out C1.out.lt).cell 3 (v := .int .u8 (c.kind : Int)) rfl; rw [HK.out] at this; exact this
  have hse : s.toList.isEmpty = false := by rw [Lib.toList_data]; exact HE.out
  have hne : ((n : Int) == 0) = false := by have := HN.out.1; rw [beq_eq_false_iff_ne]; omega
  go_wp2_with fail
  clear q3 hse hne
  refine wp_region_W (Below w2.heap.size w2) (Below w2.heap.size w2) hmix ((Below.refl _ _).drew) ?_
  change wpAnyW _ _ _ _ _ _ _ _ _
  refine wpAnyW_take (i := 0) (v := .agg (calCells c (.slice A c.data.length cp)).toArray) (kept_below w2) (fun _ h => h) rfl (by kernel_rfl) (by kernel_rfl) (fun _ _ _ h => h) (DoesV.loadD (by rfl) 28 _ rfl g1 0 rfl (calCells c (.slice A c.data.length cp)) (fun w9 hS => At.whole ((C1.out.below K1_2.out C1.out.lt).below hS (C1.out.below K1_2.out C1.out.lt).lt)) _ Tryd.underlying28 rfl infoCall) ?_
  try simp only [List.getElem_toArray, List.getElem_cons_succ, List.getElem_cons_zero, Act.put, List.setIfInBounds_toArray, List.set_cons_succ, List.set_cons_zero]
  refine wpAnyW_take (i := 1) (v := .agg (calCells c (.slice A c.data.length cp)).toArray) (kept_below w2) (fun _ h => h) rfl (by kernel_rfl) (by kernel_rfl) (fun _ _ _ h => h) (DoesV.loadD (by rfl) 28 _ rfl g1 0 rfl (calCells c (.slice A c.data.length cp)) (fun w9 hS => At.whole ((C1.out.below K1_2.out C1.out.lt).below hS (C1.out.below K1_2.out C1.out.lt).lt)) _ Tryd.underlying28 rfl infoCall) ?_
  try simp only [List.getElem_toArray, List.getElem_cons_succ, List.getElem_cons_zero, Act.put, List.setIfInBounds_toArray, List.set_cons_succ, List.set_cons_zero]
  refine wpAnyW_take (i := 2) (v := .agg (calCells c (.slice A c.data.length cp)).toArray) (kept_below w2) (fun _ h => h) rfl (by kernel_rfl) (by kernel_rfl) (fun _ _ _ h => h) (DoesV.loadD (by rfl) 28 _ rfl g1 0 rfl (calCells c (.slice A c.data.length cp)) (fun w9 hS => At.whole ((C1.out.below K1_2.out C1.out.lt).below hS (C1.out.below K1_2.out C1.out.lt).lt)) _ Tryd.underlying28 rfl infoCall) ?_
  try simp only [List.getElem_toArray, List.getElem_cons_succ, List.getElem_cons_zero, Act.put, List.setIfInBounds_toArray, List.set_cons_succ, List.set_cons_zero]
  refine wpAnyW_take (i := 3) (v := .agg (calCells c (.slice A c.data.length cp)).toArray) (kept_below w2) (fun _ h => h) rfl (by kernel_rfl) (by kernel_rfl) (fun _ _ _ h => h) (DoesV.loadD (by rfl) 28 _ rfl g1 0 rfl (calCells c (.slice A c.data.length cp)) (fun w9 hS => At.whole ((C1.out.below K1_2.out C1.out.lt).below hS (C1.out.below K1_2.out C1.out.lt).lt)) _ Tryd.underlying28 rfl infoCall) ?_
  try simp only [List.getElem_toArray, List.getElem_cons_succ, List.getElem_cons_zero, Act.put, List.setIfInBounds_toArray, List.set_cons_succ, List.set_cons_zero]
  refine wpAnyW_take (i := 4) (v := .agg (calCells c (.slice A c.data.length cp)).toArray) (kept_below w2) (fun _ h => h) rfl (by kernel_rfl) (by kernel_rfl) (fun _ _ _ h => h) (DoesV.loadD (by rfl) 28 _ rfl g1 0 rfl (calCells c (.slice A c.data.length cp)) (fun w9 hS => At.whole ((C1.out.below K1_2.out C1.out.lt).below hS (C1.out.below K1_2.out C1.out.lt).lt)) _ Tryd.underlying28 rfl infoCall) ?_
  try simp only [List.getElem_toArray, List.getElem_cons_succ, List.getElem_cons_zero, Act.put, List.setIfInBounds_toArray, List.set_cons_succ, List.set_cons_zero]
  refine wpAnyW_allocs 28 (calCells calZero (.slice none 0 0)) callZero 5 [(5, 10), (6, 11), (7, 12), (8, 13), (9, 14)] _ _ w2 5 rfl (by kernel_rfl) (by decide) (by decide) (by decide) (fun x hx => ?_) (fun _ h => h) ?_
  · simp only [List.mem_cons, List.not_mem_nil, or_false] at hx; rcases hx with rfl | rfl | rfl | rfl | rfl <;> exact ⟨_, rfl, rfl, rfl, rfl⟩
  intro g w3 hg hgi hb3
  have ha := hg (5, 10) (by simp)
  have hb := hg (6, 11) (by simp)
  have hd := hg (7, 12) (by simp)
  have he := hg (8, 13) (by simp)
  have hf := hg (9, 14) (by simp)
  have nab : g 5 ≠ g 6 := fun e => by have := hgi (5, 10) (by simp) (6, 11) (by simp) e; simp at this
  have nad : g 5 ≠ g 7 := fun e => by have := hgi (5, 10) (by simp) (7, 12) (by simp) e; simp at this
  have nae : g 5 ≠ g 8 := fun e => by have := hgi (5, 10) (by simp) (8, 13) (by simp) e; simp at this
  have naf : g 5 ≠ g 9 := fun e => by have := hgi (5, 10) (by simp) (9, 14) (by simp) e; simp at this
  have nbd : g 6 ≠ g 7 := fun e => by have := hgi (6, 11) (by simp) (7, 12) (by simp) e; simp at this
  have nbe : g 6 ≠ g 8 := fun e => by have := hgi (6, 11) (by simp) (8, 13) (by simp) e; simp at this
  have nbf : g 6 ≠ g 9 := fun e => by have := hgi (6, 11) (by simp) (9, 14) (by simp) e; simp at this
  have nde : g 7 ≠ g 8 := fun e => by have := hgi (7, 12) (by simp) (8, 13) (by simp) e; simp at this
  have ndf : g 7 ≠ g 9 := fun e => by have := hgi (7, 12) (by simp) (9, 14) (by simp) e; simp at this
  have nef : g 8 ≠ g 9 := fun e => by have := hgi (8, 13) (by simp) (9, 14) (by simp) e; simp at this
  clear hg hgi
  dsimp only at ha hb hd he hf
  have HA := Lib.hid (Apart5.mk nab nad nae naf nbd nbe nbf nde ndf nef)
  have HF := Lib.hid (Five.mk (t := 28) (a := (calCells calZero (.slice none 0 0))) (b := (calCells calZero (.slice none 0 0))) (d := (calCells calZero (.slice none 0 0))) (e := (calCells calZero (.slice none 0 0))) (f := (calCells calZero (.slice none 0 0))) ha.1 hb.1 hd.1 he.1 hf.1)
  have La := Lib.hid ha.2
  have Lb := Lib.hid hb.2
  have Ld := Lib.hid hd.2
  have Le := Lib.hid he.2
  have Lf := Lib.hid hf.2
  have B3 := Lib.hid hb3
  clear hb3 ha hb hd he hf nab nad nae naf nbd nbe nbf nde ndf nef
  unfold putAll setAll
  simp only [List.foldl_cons, List.foldl_nil]
  generalize g 5 = ga at *
  generalize g 6 = gb at *
  generalize g 7 = gd at *
  generalize g 8 = ge at *
  generalize g 9 = gf at *
  try simp only [List.getElem_toArray, List.getElem_cons_succ, List.getElem_cons_zero, Act.put, List.setIfInBounds_toArray, List.set_cons_succ, List.set_cons_zero]
  refine wpAnyW_only (i := 10) rfl (by kernel_rfl) rfl (fun v hv => ?_)
  have hF := HF.out.below hv
  have hB := below_chain B3.out hv
  refine wp_storeW 28 _ _ rfl ga rfl (calCells c (.slice A c.data.length cp)) (calCells calZero (.slice none 0 0)) rfl hF.a rfl (cal_one rfl) infoCall (fun x0 hx ht => ?_)
  have hF2 := hF.ta HA.out ht hx
  have hB2 : Below w2.heap.size w2 x0 := hB.trans (ht.below hB.size fun k e => by have := La.out; omega)
  clear HF B3
  have HF := Lib.hid hF2
  have B3 := Lib.hid hB2
  clear hF hB hx ht hF2 hB2 hv
  refine ⟨Below x0.heap.size x0, Below.refl _ _, kept_below x0, fun q hq => below_chain B3.out hq, ?_⟩
  try simp only [List.getElem_toArray, List.getElem_cons_succ, List.getElem_cons_zero, Act.put, List.setIfInBounds_toArray, List.set_cons_succ, List.set_cons_zero]
  refine wpAnyW_only (i := 11) rfl (by kernel_rfl) rfl (fun v hv => ?_)
  have hF := HF.out.below hv
  have hB := below_chain B3.out hv
  refine wp_storeW 28 _ _ rfl gb rfl (calCells c (.slice A c.data.length cp)) (calCells calZero (.slice none 0 0)) rfl hF.b rfl (cal_one rfl) infoCall (fun x1 hx ht => ?_)
  have hF2 := hF.tb HA.out ht hx
  have hB2 : Below w2.heap.size w2 x1 := hB.trans (ht.below hB.size fun k e => by have := Lb.out; omega)
  clear HF B3
  have HF := Lib.hid hF2
  have B3 := Lib.hid hB2
  clear hF hB hx ht hF2 hB2 hv
  refine ⟨Below x1.heap.size x1, Below.refl _ _, kept_below x1, fun q hq => below_chain B3.out hq, ?_⟩
  try simp only [List.getElem_toArray, List.getElem_cons_succ, List.getElem_cons_zero, Act.put, List.setIfInBounds_toArray, List.set_cons_succ, List.set_cons_zero]
  refine wpAnyW_only (i := 12) rfl (by kernel_rfl) rfl (fun v hv => ?_)
  have hF := HF.out.below hv
  have hB := below_chain B3.out hv
  refine wp_storeW 28 _ _ rfl gd rfl (calCells c (.slice A c.data.length cp)) (calCells calZero (.slice none 0 0)) rfl hF.d rfl (cal_one rfl) infoCall (fun x2 hx ht => ?_)
  have hF2 := hF.td HA.out ht hx
  have hB2 : Below w2.heap.size w2 x2 := hB.trans (ht.below hB.size fun k e => by have := Ld.out; omega)
  clear HF B3
  have HF := Lib.hid hF2
  have B3 := Lib.hid hB2
  clear hF hB hx ht hF2 hB2 hv
  refine ⟨Below x2.heap.size x2, Below.refl _ _, kept_below x2, fun q hq => below_chain B3.out hq, ?_⟩
  try simp only [List.getElem_toArray, List.getElem_cons_succ, List.getElem_cons_zero, Act.put, List.setIfInBounds_toArray, List.set_cons_succ, List.set_cons_zero]
  refine wpAnyW_only (i := 13) rfl (by kernel_rfl) rfl (fun v hv => ?_)
  have hF := HF.out.below hv
  have hB := below_chain B3.out hv
  refine wp_storeW 28 _ _ rfl ge rfl (calCells c (.slice A c.data.length cp)) (calCells calZero (.slice none 0 0)) rfl hF.e rfl (cal_one rfl) infoCall (fun x3 hx ht => ?_)
  have hF2 := hF.te HA.out ht hx
  have hB2 : Below w2.heap.size w2 x3 := hB.trans (ht.below hB.size fun k e => by have := Le.out; omega)
  clear HF B3
  have HF := Lib.hid hF2
  have B3 := Lib.hid hB2
  clear hF hB hx ht hF2 hB2 hv
  refine ⟨Below x3.heap.size x3, Below.refl _ _, kept_below x3, fun q hq => below_chain B3.out hq, ?_⟩
  try simp only [List.getElem_toArray, List.getElem_cons_succ, List.getElem_cons_zero, Act.put, List.setIfInBounds_toArray, List.set_cons_succ, List.set_cons_zero]
  refine wpAnyW_only (i := 14) rfl (by kernel_rfl) rfl (fun v hv => ?_)
  have hF := HF.out.below hv
  have hB := below_chain B3.out hv
  refine wp_storeW 28 _ _ rfl gf rfl (calCells c (.slice A c.data.length cp)) (calCells calZero (.slice none 0 0)) rfl hF.f rfl (cal_one rfl) infoCall (fun x4 hx ht => ?_)
  have hF2 := hF.tf HA.out ht hx
  have hB2 : Below w2.heap.size w2 x4 := hB.trans (ht.below hB.size fun k e => by have := Lf.out; omega)
  clear HF B3
  have HF := Lib.hid hF2
  have B3 := Lib.hid hB2
  clear hF hB hx ht hF2 hB2 hv
  refine ⟨Below x4.heap.size x4, Below.refl _ _, kept_below x4, fun q hq => below_chain B3.out hq, ?_⟩
  try simp only [List.getElem_toArray, List.getElem_cons_succ, List.getElem_cons_zero, Act.put, List.setIfInBounds_toArray, List.set_cons_succ, List.set_cons_zero]
  refine wpAnyW_done (by kernel_rfl) (fun y hy => ?_) _
  have F0 := Lib.hid (HF.out.below hy)
  have BY0 := Lib.hid (below_chain B3.out hy)
  clear HF B3 hy
  have HVa := Lib.hid (show CalV w (· < w.heap.size) { c with size := n } (.slice A c.data.length cp) from ⟨HCV.out.1, by have h1 := HCV.out.2; have h2 := HN.out.2; unfold calOk at h1 ⊢; dsimp only; omega⟩)
  have HVb := Lib.hid (show CalV w (· < w.heap.size) { c with off := n } (.slice A c.data.length cp) from ⟨HCV.out.1, by have h1 := HCV.out.2; have h2 := HN.out.2; unfold calOk at h1 ⊢; dsimp only; omega⟩)
  have HVd := Lib.hid (show CalV w (· < w.heap.size) { c with name := s } (.slice A c.data.length cp) from ⟨HCV.out.1, by have h1 := HCV.out.2; have h2 := HN.out.2; unfold calOk at h1 ⊢; dsimp only; omega⟩)
  have HVe := Lib.hid (show CalV w (· < w.heap.size) { c with tino := n } (.slice A c.data.length cp) from ⟨HCV.out.1, by have h1 := HCV.out.2; have h2 := HN.out.2; unfold calOk at h1 ⊢; dsimp only; omega⟩)
  have HVf := Lib.hid (show CalV w (· < w.heap.size) { c with toname := s } (.slice A c.data.length cp) from ⟨HCV.out.1, by have h1 := HCV.out.2; have h2 := HN.out.2; unfold calOk at h1 ⊢; dsimp only; omega⟩)
  go_wp2_with (first
    | ((with_reducible show wpList _ _ _ _ _ y); refine wpList_store1 rfl 22 _ _ rfl ga 11 rfl (.int .u32 n) rfl rfl (by kernel_rfl) 28 _ F0.out.a (by simp [calCells]) ?_; intro y1 hk ht; go_frame; have F1 := Lib.hid (F0.out.ta HA.out ht (x := (calCells { c with size := n } (.slice A c.data.length cp))) hk); have BY1 := Lib.hid (BY0.out.trans (ht.below BY0.out.size fun k e => by have := La.out; omega)); clear hk ht F0 BY0)
    | ((with_reducible show wpList _ _ _ _ _ y1); refine wpList_store1 rfl 22 _ _ rfl gb 10 rfl (.int .u32 n) rfl rfl (by kernel_rfl) 28 _ F1.out.b (by simp [calCells]) ?_; intro y2 hk ht; go_frame; have F2 := Lib.hid (F1.out.tb HA.out ht (x := (calCells { c with off := n } (.slice A c.data.length cp))) hk); have BY2 := Lib.hid (BY1.out.trans (ht.below BY1.out.size fun k e => by have := Lb.out; omega)); clear hk ht F1 BY1)
    | ((with_reducible show wpList _ _ _ _ _ y2); refine wpList_store1 rfl 9 _ _ rfl gd 6 rfl (.string s) rfl rfl (by kernel_rfl) 28 _ F2.out.d (by simp [calCells]) ?_; intro y3 hk ht; go_frame; have F3 := Lib.hid (F2.out.td HA.out ht (x := (calCells { c with name := s } (.slice A c.data.length cp))) hk); have BY3 := Lib.hid (BY2.out.trans (ht.below BY2.out.size fun k e => by have := Ld.out; omega)); clear hk ht F2 BY2)
    | ((with_reducible show wpList _ _ _ _ _ y3); refine wpList_store1 rfl 22 _ _ rfl ge 7 rfl (.int .u32 n) rfl rfl (by kernel_rfl) 28 _ F3.out.e (by simp [calCells]) ?_; intro y4 hk ht; go_frame; have F4 := Lib.hid (F3.out.te HA.out ht (x := (calCells { c with tino := n } (.slice A c.data.length cp))) hk); have BY4 := Lib.hid (BY3.out.trans (ht.below BY3.out.size fun k e => by have := Le.out; omega)); clear hk ht F3 BY3)
    | ((with_reducible show wpList _ _ _ _ _ y4); refine wpList_store1 rfl 9 _ _ rfl gf 9 rfl (.string s) rfl rfl (by kernel_rfl) 28 _ F4.out.f (by simp [calCells]) ?_; intro y5 hk ht; go_frame; have F5 := Lib.hid (F4.out.tf HA.out ht (x := (calCells { c with toname := s } (.slice A c.data.length cp))) hk); have BY5 := Lib.hid (BY4.out.trans (ht.below BY4.out.size fun k e => by have := Lf.out; omega)); clear hk ht F4 BY4)
    | ((with_reducible show wpList _ _ _ _ _ y5); refine wpLoadG (by rfl) 28 _ rfl ga rfl (calCells { c with size := n } (.slice A c.data.length cp)) (F5.out.below (Below.refl _ _)).a _ Tryd.underlying28 rfl infoCall ?_; go_frame)
    | fail)
  have K0_3 := Lib.hid (below_chain K0_2.out BY5.out)
  have K1_3 := Lib.hid (below_chain K1_2.out BY5.out)
  have HY := Lib.hid (May_v (HVa.out.below K0_3.out) (HT.out.below K0_3.out))
  rw [show mayX { c with size := n } = false from one_size (by rw [HK.out]; rfl) HN.out.1] at HY
  refine HY.out.mono ?_
  rintro e z0 ⟨rfl, hb⟩
  have K0_4 := Lib.hid (below_chain K0_3.out hb)
  have K1_4 := Lib.hid (below_chain K1_3.out hb)
  have KY_4 := Lib.hid (hb)
  clear hb HY
  go_wp2_with (first
    | ((with_reducible show wpList _ _ _ _ _ z0); refine wpLoadG (by rfl) 28 _ rfl gb rfl (calCells { c with off := n } (.slice A c.data.length cp)) (F5.out.below KY_4.out).b _ Tryd.underlying28 rfl infoCall ?_; go_frame)
    | fail)
  have HY := Lib.hid (May_v (HVb.out.below K0_4.out) (HT.out.below K0_4.out))
  rw [show mayX { c with off := n } = false from one_off (by rw [HK.out]; rfl) HN.out.1] at HY
  refine HY.out.mono ?_
  rintro e z1 ⟨rfl, hb⟩
  have K0_5 := Lib.hid (below_chain K0_4.out hb)
  have K1_5 := Lib.hid (below_chain K1_4.out hb)
  have KY_5 := Lib.hid (below_chain KY_4.out hb)
  clear hb HY
  have q3 : z1.cell? ⟨g1, 3, none⟩ = some (.int .u8 10) := by have := (C1.out.below K1_5.out C1.out.lt).cell 3 (v := .int .u8 (c.kind : Int)) rfl; rw [HK.out] at this; exact this
  go_wp2_with (first
    | ((with_reducible show wpList _ _ _ _ _ z1); refine wpLoadG (by rfl) 28 _ rfl ge rfl (calCells { c with tino := n } (.slice A c.data.length cp)) (F5.out.below KY_5.out).e _ Tryd.underlying28 rfl infoCall ?_; go_frame)
    | fail)
  clear q3
  have HY := Lib.hid (May_v (HVe.out.below K0_5.out) (HT.out.below K0_5.out))
  rw [show mayX { c with tino := n } = false from one_to (by rw [HK.out]; rfl) HN.out.1] at HY
  refine HY.out.mono ?_
  rintro e z2 ⟨rfl, hb⟩
  have K0_6 := Lib.hid (below_chain K0_5.out hb)
  have K1_6 := Lib.hid (below_chain K1_5.out hb)
  have KY_6 := Lib.hid (below_chain KY_5.out hb)
  clear hb HY
  go_wp2_with (first
    | ((with_reducible show wpList _ _ _ _ _ z2); refine wpLoadG (by rfl) 28 _ rfl gf rfl (calCells { c with toname := s } (.slice A c.data.length cp)) (F5.out.below KY_6.out).f _ Tryd.underlying28 rfl infoCall ?_; go_frame)
    | fail)
  have HY := Lib.hid (May_v (HVf.out.below K0_6.out) (HT.out.below K0_6.out))
  rw [show mayX { c with toname := s } = false from one_toname (by rw [HK.out]; rfl) HE.out] at HY
  refine HY.out.mono ?_
  rintro e z3 ⟨rfl, hb⟩
  have K0_7 := Lib.hid (below_chain K0_6.out hb)
  have K1_7 := Lib.hid (below_chain K1_6.out hb)
  have KY_7 := Lib.hid (below_chain KY_6.out hb)
  clear hb HY
  go_wp2_with fail
  refine (lives10_v _ (HT.out.below K0_7.out)).mono ?_
  rintro e wz ⟨rfl, hb⟩
  have K0_8 := Lib.hid (below_chain K0_7.out hb)
  have K1_8 := Lib.hid (below_chain K1_7.out hb)
  have KY_8 := Lib.hid (below_chain KY_7.out hb)
  clear hb
  go_wp2_with fail
  go_ret
  exact ⟨rfl, K0_8.out⟩
set_option maxHeartbeats 16000000 in
theorem one10_k11 (c : CallX) (u : Value) (n : Nat) (s : ByteArray) (w : World) (hT : Tabs w) (hc : CalV w (· < w.heap.size) c u) (hn : n < 4294967296) (hm : mayX c = true) (h0 : n ≠ 0) (hs : s ≠ ⟨#[]⟩) (hk : c.kind = 11) :
    Calls Tryd.prog 5 #[.agg (calCells c u).toArray, .int .u32 n, .string s] w fun e w' => e = .returned (.bool true) ∧ Below w.heap.size w w' := by
  obtain ⟨A, cp, rfl, -⟩ := id hc.1
  have HCV := Lib.hid hc
  have HT := Lib.hid hT
  clear hc hT
  have hmix : Tryd.prog.follows .mixedOrders = true := by kernel_rfl
  have HM := Lib.hid hm
  have HK := Lib.hid hk
  have HS := Lib.hid hs
  have hn0 : 0 < n := Nat.pos_of_ne_zero h0
  have HN := Lib.hid (And.intro hn0 hn)
  have hsl : (L s).isEmpty = false := by cases h : (L s).isEmpty with | false => rfl | true => exact absurd (L_inj (List.isEmpty_iff.1 h)) hs
  have HE := Lib.hid hsl
  clear hm hs hk hsl
  go_enter Tryd.func5, Tryd.ntmps5
  go_wp2_with (first
    | ((with_reducible show wpList _ _ _ _ _ w); refine wpList_boxS rfl 28 _ rfl (calCells c (.slice A c.data.length cp)) rfl ?_; intro g1 w1 hk1 hb1 hg1; go_frame; have C1 := Lib.hid hk1; have B1 := Lib.hid hb1; clear hk1 hb1 hg1)
    | ((with_reducible show wpList _ _ _ _ _ w1); refine wpList_loadS rfl 28 _ rfl g1 rfl (calCells c (.slice A c.data.length cp)) C1.out _ Tryd.underlying28 rfl infoCall ?_; go_frame)
    | fail)
  have K0_1 := Lib.hid (B1.out)
  have HY := Lib.hid (May_v (HCV.out.below K0_1.out) (HT.out.below K0_1.out))
  rw [HM.out] at HY
  refine HY.out.mono ?_
  rintro e w2 ⟨rfl, hb⟩
  have K0_2 := Lib.hid (below_chain K0_1.out hb)
  have K1_2 := Lib.hid (hb)
  clear hb HY
  have q3 : w2.cell? ⟨g1, 3, none⟩ = some (.int .u8 11) := by have := (C1.out.below K1_2.out C1.out.lt).cell 3 (v := .int .u8 (c.kind : Int)) rfl; rw [HK.out] at this; exact this
  have hse : s.toList.isEmpty = false := by rw [Lib.toList_data]; exact HE.out
  have hne : ((n : Int) == 0) = false := by have := HN.out.1; rw [beq_eq_false_iff_ne]; omega
  go_wp2_with fail
  clear q3 hse hne
  refine wp_region_W (Below w2.heap.size w2) (Below w2.heap.size w2) hmix ((Below.refl _ _).drew) ?_
  change wpAnyW _ _ _ _ _ _ _ _ _
  refine wpAnyW_take (i := 0) (v := .agg (calCells c (.slice A c.data.length cp)).toArray) (kept_below w2) (fun _ h => h) rfl (by kernel_rfl) (by kernel_rfl) (fun _ _ _ h => h) (DoesV.loadD (by rfl) 28 _ rfl g1 0 rfl (calCells c (.slice A c.data.length cp)) (fun w9 hS => At.whole ((C1.out.below K1_2.out C1.out.lt).below hS (C1.out.below K1_2.out C1.out.lt).lt)) _ Tryd.underlying28 rfl infoCall) ?_
  try simp only [List.getElem_toArray, List.getElem_cons_succ, List.getElem_cons_zero, Act.put, List.setIfInBounds_toArray, List.set_cons_succ, List.set_cons_zero]
  refine wpAnyW_take (i := 1) (v := .agg (calCells c (.slice A c.data.length cp)).toArray) (kept_below w2) (fun _ h => h) rfl (by kernel_rfl) (by kernel_rfl) (fun _ _ _ h => h) (DoesV.loadD (by rfl) 28 _ rfl g1 0 rfl (calCells c (.slice A c.data.length cp)) (fun w9 hS => At.whole ((C1.out.below K1_2.out C1.out.lt).below hS (C1.out.below K1_2.out C1.out.lt).lt)) _ Tryd.underlying28 rfl infoCall) ?_
  try simp only [List.getElem_toArray, List.getElem_cons_succ, List.getElem_cons_zero, Act.put, List.setIfInBounds_toArray, List.set_cons_succ, List.set_cons_zero]
  refine wpAnyW_take (i := 2) (v := .agg (calCells c (.slice A c.data.length cp)).toArray) (kept_below w2) (fun _ h => h) rfl (by kernel_rfl) (by kernel_rfl) (fun _ _ _ h => h) (DoesV.loadD (by rfl) 28 _ rfl g1 0 rfl (calCells c (.slice A c.data.length cp)) (fun w9 hS => At.whole ((C1.out.below K1_2.out C1.out.lt).below hS (C1.out.below K1_2.out C1.out.lt).lt)) _ Tryd.underlying28 rfl infoCall) ?_
  try simp only [List.getElem_toArray, List.getElem_cons_succ, List.getElem_cons_zero, Act.put, List.setIfInBounds_toArray, List.set_cons_succ, List.set_cons_zero]
  refine wpAnyW_take (i := 3) (v := .agg (calCells c (.slice A c.data.length cp)).toArray) (kept_below w2) (fun _ h => h) rfl (by kernel_rfl) (by kernel_rfl) (fun _ _ _ h => h) (DoesV.loadD (by rfl) 28 _ rfl g1 0 rfl (calCells c (.slice A c.data.length cp)) (fun w9 hS => At.whole ((C1.out.below K1_2.out C1.out.lt).below hS (C1.out.below K1_2.out C1.out.lt).lt)) _ Tryd.underlying28 rfl infoCall) ?_
  try simp only [List.getElem_toArray, List.getElem_cons_succ, List.getElem_cons_zero, Act.put, List.setIfInBounds_toArray, List.set_cons_succ, List.set_cons_zero]
  refine wpAnyW_take (i := 4) (v := .agg (calCells c (.slice A c.data.length cp)).toArray) (kept_below w2) (fun _ h => h) rfl (by kernel_rfl) (by kernel_rfl) (fun _ _ _ h => h) (DoesV.loadD (by rfl) 28 _ rfl g1 0 rfl (calCells c (.slice A c.data.length cp)) (fun w9 hS => At.whole ((C1.out.below K1_2.out C1.out.lt).below hS (C1.out.below K1_2.out C1.out.lt).lt)) _ Tryd.underlying28 rfl infoCall) ?_
  try simp only [List.getElem_toArray, List.getElem_cons_succ, List.getElem_cons_zero, Act.put, List.setIfInBounds_toArray, List.set_cons_succ, List.set_cons_zero]
  refine wpAnyW_allocs 28 (calCells calZero (.slice none 0 0)) callZero 5 [(5, 10), (6, 11), (7, 12), (8, 13), (9, 14)] _ _ w2 5 rfl (by kernel_rfl) (by decide) (by decide) (by decide) (fun x hx => ?_) (fun _ h => h) ?_
  · simp only [List.mem_cons, List.not_mem_nil, or_false] at hx; rcases hx with rfl | rfl | rfl | rfl | rfl <;> exact ⟨_, rfl, rfl, rfl, rfl⟩
  intro g w3 hg hgi hb3
  have ha := hg (5, 10) (by simp)
  have hb := hg (6, 11) (by simp)
  have hd := hg (7, 12) (by simp)
  have he := hg (8, 13) (by simp)
  have hf := hg (9, 14) (by simp)
  have nab : g 5 ≠ g 6 := fun e => by have := hgi (5, 10) (by simp) (6, 11) (by simp) e; simp at this
  have nad : g 5 ≠ g 7 := fun e => by have := hgi (5, 10) (by simp) (7, 12) (by simp) e; simp at this
  have nae : g 5 ≠ g 8 := fun e => by have := hgi (5, 10) (by simp) (8, 13) (by simp) e; simp at this
  have naf : g 5 ≠ g 9 := fun e => by have := hgi (5, 10) (by simp) (9, 14) (by simp) e; simp at this
  have nbd : g 6 ≠ g 7 := fun e => by have := hgi (6, 11) (by simp) (7, 12) (by simp) e; simp at this
  have nbe : g 6 ≠ g 8 := fun e => by have := hgi (6, 11) (by simp) (8, 13) (by simp) e; simp at this
  have nbf : g 6 ≠ g 9 := fun e => by have := hgi (6, 11) (by simp) (9, 14) (by simp) e; simp at this
  have nde : g 7 ≠ g 8 := fun e => by have := hgi (7, 12) (by simp) (8, 13) (by simp) e; simp at this
  have ndf : g 7 ≠ g 9 := fun e => by have := hgi (7, 12) (by simp) (9, 14) (by simp) e; simp at this
  have nef : g 8 ≠ g 9 := fun e => by have := hgi (8, 13) (by simp) (9, 14) (by simp) e; simp at this
  clear hg hgi
  dsimp only at ha hb hd he hf
  have HA := Lib.hid (Apart5.mk nab nad nae naf nbd nbe nbf nde ndf nef)
  have HF := Lib.hid (Five.mk (t := 28) (a := (calCells calZero (.slice none 0 0))) (b := (calCells calZero (.slice none 0 0))) (d := (calCells calZero (.slice none 0 0))) (e := (calCells calZero (.slice none 0 0))) (f := (calCells calZero (.slice none 0 0))) ha.1 hb.1 hd.1 he.1 hf.1)
  have La := Lib.hid ha.2
  have Lb := Lib.hid hb.2
  have Ld := Lib.hid hd.2
  have Le := Lib.hid he.2
  have Lf := Lib.hid hf.2
  have B3 := Lib.hid hb3
  clear hb3 ha hb hd he hf nab nad nae naf nbd nbe nbf nde ndf nef
  unfold putAll setAll
  simp only [List.foldl_cons, List.foldl_nil]
  generalize g 5 = ga at *
  generalize g 6 = gb at *
  generalize g 7 = gd at *
  generalize g 8 = ge at *
  generalize g 9 = gf at *
  try simp only [List.getElem_toArray, List.getElem_cons_succ, List.getElem_cons_zero, Act.put, List.setIfInBounds_toArray, List.set_cons_succ, List.set_cons_zero]
  refine wpAnyW_only (i := 10) rfl (by kernel_rfl) rfl (fun v hv => ?_)
  have hF := HF.out.below hv
  have hB := below_chain B3.out hv
  refine wp_storeW 28 _ _ rfl ga rfl (calCells c (.slice A c.data.length cp)) (calCells calZero (.slice none 0 0)) rfl hF.a rfl (cal_one rfl) infoCall (fun x0 hx ht => ?_)
  have hF2 := hF.ta HA.out ht hx
  have hB2 : Below w2.heap.size w2 x0 := hB.trans (ht.below hB.size fun k e => by have := La.out; omega)
  clear HF B3
  have HF := Lib.hid hF2
  have B3 := Lib.hid hB2
  clear hF hB hx ht hF2 hB2 hv
  refine ⟨Below x0.heap.size x0, Below.refl _ _, kept_below x0, fun q hq => below_chain B3.out hq, ?_⟩
  try simp only [List.getElem_toArray, List.getElem_cons_succ, List.getElem_cons_zero, Act.put, List.setIfInBounds_toArray, List.set_cons_succ, List.set_cons_zero]
  refine wpAnyW_only (i := 11) rfl (by kernel_rfl) rfl (fun v hv => ?_)
  have hF := HF.out.below hv
  have hB := below_chain B3.out hv
  refine wp_storeW 28 _ _ rfl gb rfl (calCells c (.slice A c.data.length cp)) (calCells calZero (.slice none 0 0)) rfl hF.b rfl (cal_one rfl) infoCall (fun x1 hx ht => ?_)
  have hF2 := hF.tb HA.out ht hx
  have hB2 : Below w2.heap.size w2 x1 := hB.trans (ht.below hB.size fun k e => by have := Lb.out; omega)
  clear HF B3
  have HF := Lib.hid hF2
  have B3 := Lib.hid hB2
  clear hF hB hx ht hF2 hB2 hv
  refine ⟨Below x1.heap.size x1, Below.refl _ _, kept_below x1, fun q hq => below_chain B3.out hq, ?_⟩
  try simp only [List.getElem_toArray, List.getElem_cons_succ, List.getElem_cons_zero, Act.put, List.setIfInBounds_toArray, List.set_cons_succ, List.set_cons_zero]
  refine wpAnyW_only (i := 12) rfl (by kernel_rfl) rfl (fun v hv => ?_)
  have hF := HF.out.below hv
  have hB := below_chain B3.out hv
  refine wp_storeW 28 _ _ rfl gd rfl (calCells c (.slice A c.data.length cp)) (calCells calZero (.slice none 0 0)) rfl hF.d rfl (cal_one rfl) infoCall (fun x2 hx ht => ?_)
  have hF2 := hF.td HA.out ht hx
  have hB2 : Below w2.heap.size w2 x2 := hB.trans (ht.below hB.size fun k e => by have := Ld.out; omega)
  clear HF B3
  have HF := Lib.hid hF2
  have B3 := Lib.hid hB2
  clear hF hB hx ht hF2 hB2 hv
  refine ⟨Below x2.heap.size x2, Below.refl _ _, kept_below x2, fun q hq => below_chain B3.out hq, ?_⟩
  try simp only [List.getElem_toArray, List.getElem_cons_succ, List.getElem_cons_zero, Act.put, List.setIfInBounds_toArray, List.set_cons_succ, List.set_cons_zero]
  refine wpAnyW_only (i := 13) rfl (by kernel_rfl) rfl (fun v hv => ?_)
  have hF := HF.out.below hv
  have hB := below_chain B3.out hv
  refine wp_storeW 28 _ _ rfl ge rfl (calCells c (.slice A c.data.length cp)) (calCells calZero (.slice none 0 0)) rfl hF.e rfl (cal_one rfl) infoCall (fun x3 hx ht => ?_)
  have hF2 := hF.te HA.out ht hx
  have hB2 : Below w2.heap.size w2 x3 := hB.trans (ht.below hB.size fun k e => by have := Le.out; omega)
  clear HF B3
  have HF := Lib.hid hF2
  have B3 := Lib.hid hB2
  clear hF hB hx ht hF2 hB2 hv
  refine ⟨Below x3.heap.size x3, Below.refl _ _, kept_below x3, fun q hq => below_chain B3.out hq, ?_⟩
  try simp only [List.getElem_toArray, List.getElem_cons_succ, List.getElem_cons_zero, Act.put, List.setIfInBounds_toArray, List.set_cons_succ, List.set_cons_zero]
  refine wpAnyW_only (i := 14) rfl (by kernel_rfl) rfl (fun v hv => ?_)
  have hF := HF.out.below hv
  have hB := below_chain B3.out hv
  refine wp_storeW 28 _ _ rfl gf rfl (calCells c (.slice A c.data.length cp)) (calCells calZero (.slice none 0 0)) rfl hF.f rfl (cal_one rfl) infoCall (fun x4 hx ht => ?_)
  have hF2 := hF.tf HA.out ht hx
  have hB2 : Below w2.heap.size w2 x4 := hB.trans (ht.below hB.size fun k e => by have := Lf.out; omega)
  clear HF B3
  have HF := Lib.hid hF2
  have B3 := Lib.hid hB2
  clear hF hB hx ht hF2 hB2 hv
  refine ⟨Below x4.heap.size x4, Below.refl _ _, kept_below x4, fun q hq => below_chain B3.out hq, ?_⟩
  try simp only [List.getElem_toArray, List.getElem_cons_succ, List.getElem_cons_zero, Act.put, List.setIfInBounds_toArray, List.set_cons_succ, List.set_cons_zero]
  refine wpAnyW_done (by kernel_rfl) (fun y hy => ?_) _
  have F0 := Lib.hid (HF.out.below hy)
  have BY0 := Lib.hid (below_chain B3.out hy)
  clear HF B3 hy
  have HVa := Lib.hid (show CalV w (· < w.heap.size) { c with size := n } (.slice A c.data.length cp) from ⟨HCV.out.1, by have h1 := HCV.out.2; have h2 := HN.out.2; unfold calOk at h1 ⊢; dsimp only; omega⟩)
  have HVb := Lib.hid (show CalV w (· < w.heap.size) { c with off := n } (.slice A c.data.length cp) from ⟨HCV.out.1, by have h1 := HCV.out.2; have h2 := HN.out.2; unfold calOk at h1 ⊢; dsimp only; omega⟩)
  have HVd := Lib.hid (show CalV w (· < w.heap.size) { c with name := s } (.slice A c.data.length cp) from ⟨HCV.out.1, by have h1 := HCV.out.2; have h2 := HN.out.2; unfold calOk at h1 ⊢; dsimp only; omega⟩)
  have HVe := Lib.hid (show CalV w (· < w.heap.size) { c with tino := n } (.slice A c.data.length cp) from ⟨HCV.out.1, by have h1 := HCV.out.2; have h2 := HN.out.2; unfold calOk at h1 ⊢; dsimp only; omega⟩)
  have HVf := Lib.hid (show CalV w (· < w.heap.size) { c with toname := s } (.slice A c.data.length cp) from ⟨HCV.out.1, by have h1 := HCV.out.2; have h2 := HN.out.2; unfold calOk at h1 ⊢; dsimp only; omega⟩)
  go_wp2_with (first
    | ((with_reducible show wpList _ _ _ _ _ y); refine wpList_store1 rfl 22 _ _ rfl ga 11 rfl (.int .u32 n) rfl rfl (by kernel_rfl) 28 _ F0.out.a (by simp [calCells]) ?_; intro y1 hk ht; go_frame; have F1 := Lib.hid (F0.out.ta HA.out ht (x := (calCells { c with size := n } (.slice A c.data.length cp))) hk); have BY1 := Lib.hid (BY0.out.trans (ht.below BY0.out.size fun k e => by have := La.out; omega)); clear hk ht F0 BY0)
    | ((with_reducible show wpList _ _ _ _ _ y1); refine wpList_store1 rfl 22 _ _ rfl gb 10 rfl (.int .u32 n) rfl rfl (by kernel_rfl) 28 _ F1.out.b (by simp [calCells]) ?_; intro y2 hk ht; go_frame; have F2 := Lib.hid (F1.out.tb HA.out ht (x := (calCells { c with off := n } (.slice A c.data.length cp))) hk); have BY2 := Lib.hid (BY1.out.trans (ht.below BY1.out.size fun k e => by have := Lb.out; omega)); clear hk ht F1 BY1)
    | ((with_reducible show wpList _ _ _ _ _ y2); refine wpList_store1 rfl 9 _ _ rfl gd 6 rfl (.string s) rfl rfl (by kernel_rfl) 28 _ F2.out.d (by simp [calCells]) ?_; intro y3 hk ht; go_frame; have F3 := Lib.hid (F2.out.td HA.out ht (x := (calCells { c with name := s } (.slice A c.data.length cp))) hk); have BY3 := Lib.hid (BY2.out.trans (ht.below BY2.out.size fun k e => by have := Ld.out; omega)); clear hk ht F2 BY2)
    | ((with_reducible show wpList _ _ _ _ _ y3); refine wpList_store1 rfl 22 _ _ rfl ge 7 rfl (.int .u32 n) rfl rfl (by kernel_rfl) 28 _ F3.out.e (by simp [calCells]) ?_; intro y4 hk ht; go_frame; have F4 := Lib.hid (F3.out.te HA.out ht (x := (calCells { c with tino := n } (.slice A c.data.length cp))) hk); have BY4 := Lib.hid (BY3.out.trans (ht.below BY3.out.size fun k e => by have := Le.out; omega)); clear hk ht F3 BY3)
    | ((with_reducible show wpList _ _ _ _ _ y4); refine wpList_store1 rfl 9 _ _ rfl gf 9 rfl (.string s) rfl rfl (by kernel_rfl) 28 _ F4.out.f (by simp [calCells]) ?_; intro y5 hk ht; go_frame; have F5 := Lib.hid (F4.out.tf HA.out ht (x := (calCells { c with toname := s } (.slice A c.data.length cp))) hk); have BY5 := Lib.hid (BY4.out.trans (ht.below BY4.out.size fun k e => by have := Lf.out; omega)); clear hk ht F4 BY4)
    | ((with_reducible show wpList _ _ _ _ _ y5); refine wpLoadG (by rfl) 28 _ rfl ga rfl (calCells { c with size := n } (.slice A c.data.length cp)) (F5.out.below (Below.refl _ _)).a _ Tryd.underlying28 rfl infoCall ?_; go_frame)
    | fail)
  have K0_3 := Lib.hid (below_chain K0_2.out BY5.out)
  have K1_3 := Lib.hid (below_chain K1_2.out BY5.out)
  have HY := Lib.hid (May_v (HVa.out.below K0_3.out) (HT.out.below K0_3.out))
  rw [show mayX { c with size := n } = false from one_size (by rw [HK.out]; rfl) HN.out.1] at HY
  refine HY.out.mono ?_
  rintro e z0 ⟨rfl, hb⟩
  have K0_4 := Lib.hid (below_chain K0_3.out hb)
  have K1_4 := Lib.hid (below_chain K1_3.out hb)
  have KY_4 := Lib.hid (hb)
  clear hb HY
  go_wp2_with (first
    | ((with_reducible show wpList _ _ _ _ _ z0); refine wpLoadG (by rfl) 28 _ rfl gb rfl (calCells { c with off := n } (.slice A c.data.length cp)) (F5.out.below KY_4.out).b _ Tryd.underlying28 rfl infoCall ?_; go_frame)
    | fail)
  have HY := Lib.hid (May_v (HVb.out.below K0_4.out) (HT.out.below K0_4.out))
  rw [show mayX { c with off := n } = false from one_off (by rw [HK.out]; rfl) HN.out.1] at HY
  refine HY.out.mono ?_
  rintro e z1 ⟨rfl, hb⟩
  have K0_5 := Lib.hid (below_chain K0_4.out hb)
  have K1_5 := Lib.hid (below_chain K1_4.out hb)
  have KY_5 := Lib.hid (below_chain KY_4.out hb)
  clear hb HY
  have q3 : z1.cell? ⟨g1, 3, none⟩ = some (.int .u8 11) := by have := (C1.out.below K1_5.out C1.out.lt).cell 3 (v := .int .u8 (c.kind : Int)) rfl; rw [HK.out] at this; exact this
  go_wp2_with fail
  clear q3
  refine (lives10_v _ (HT.out.below K0_5.out)).mono ?_
  rintro e wz ⟨rfl, hb⟩
  have K0_6 := Lib.hid (below_chain K0_5.out hb)
  have K1_6 := Lib.hid (below_chain K1_5.out hb)
  have KY_6 := Lib.hid (below_chain KY_5.out hb)
  clear hb
  go_wp2_with fail
  go_ret
  exact ⟨rfl, K0_6.out⟩
set_option maxHeartbeats 16000000 in
theorem one10_k12 (c : CallX) (u : Value) (n : Nat) (s : ByteArray) (w : World) (hT : Tabs w) (hc : CalV w (· < w.heap.size) c u) (hn : n < 4294967296) (hm : mayX c = true) (h0 : n ≠ 0) (hs : s ≠ ⟨#[]⟩) (hk : c.kind = 12) :
    Calls Tryd.prog 5 #[.agg (calCells c u).toArray, .int .u32 n, .string s] w fun e w' => e = .returned (.bool true) ∧ Below w.heap.size w w' := by
  obtain ⟨A, cp, rfl, -⟩ := id hc.1
  have HCV := Lib.hid hc
  have HT := Lib.hid hT
  clear hc hT
  have hmix : Tryd.prog.follows .mixedOrders = true := by kernel_rfl
  have HM := Lib.hid hm
  have HK := Lib.hid hk
  have HS := Lib.hid hs
  have hn0 : 0 < n := Nat.pos_of_ne_zero h0
  have HN := Lib.hid (And.intro hn0 hn)
  have hsl : (L s).isEmpty = false := by cases h : (L s).isEmpty with | false => rfl | true => exact absurd (L_inj (List.isEmpty_iff.1 h)) hs
  have HE := Lib.hid hsl
  clear hm hs hk hsl
  go_enter Tryd.func5, Tryd.ntmps5
  go_wp2_with (first
    | ((with_reducible show wpList _ _ _ _ _ w); refine wpList_boxS rfl 28 _ rfl (calCells c (.slice A c.data.length cp)) rfl ?_; intro g1 w1 hk1 hb1 hg1; go_frame; have C1 := Lib.hid hk1; have B1 := Lib.hid hb1; clear hk1 hb1 hg1)
    | ((with_reducible show wpList _ _ _ _ _ w1); refine wpList_loadS rfl 28 _ rfl g1 rfl (calCells c (.slice A c.data.length cp)) C1.out _ Tryd.underlying28 rfl infoCall ?_; go_frame)
    | fail)
  have K0_1 := Lib.hid (B1.out)
  have HY := Lib.hid (May_v (HCV.out.below K0_1.out) (HT.out.below K0_1.out))
  rw [HM.out] at HY
  refine HY.out.mono ?_
  rintro e w2 ⟨rfl, hb⟩
  have K0_2 := Lib.hid (below_chain K0_1.out hb)
  have K1_2 := Lib.hid (hb)
  clear hb HY
  have q3 : w2.cell? ⟨g1, 3, none⟩ = some (.int .u8 12) := by have := (C1.out.below K1_2.out C1.out.lt).cell 3 (v := .int .u8 (c.kind : Int)) rfl; rw [HK.out] at this; exact this
  have hse : s.toList.isEmpty = false := by rw [Lib.toList_data]; exact HE.out
  have hne : ((n : Int) == 0) = false := by have := HN.out.1; rw [beq_eq_false_iff_ne]; omega
  go_wp2_with fail
  clear q3 hse hne
  refine wp_region_W (Below w2.heap.size w2) (Below w2.heap.size w2) hmix ((Below.refl _ _).drew) ?_
  change wpAnyW _ _ _ _ _ _ _ _ _
  refine wpAnyW_take (i := 0) (v := .agg (calCells c (.slice A c.data.length cp)).toArray) (kept_below w2) (fun _ h => h) rfl (by kernel_rfl) (by kernel_rfl) (fun _ _ _ h => h) (DoesV.loadD (by rfl) 28 _ rfl g1 0 rfl (calCells c (.slice A c.data.length cp)) (fun w9 hS => At.whole ((C1.out.below K1_2.out C1.out.lt).below hS (C1.out.below K1_2.out C1.out.lt).lt)) _ Tryd.underlying28 rfl infoCall) ?_
  try simp only [List.getElem_toArray, List.getElem_cons_succ, List.getElem_cons_zero, Act.put, List.setIfInBounds_toArray, List.set_cons_succ, List.set_cons_zero]
  refine wpAnyW_take (i := 1) (v := .agg (calCells c (.slice A c.data.length cp)).toArray) (kept_below w2) (fun _ h => h) rfl (by kernel_rfl) (by kernel_rfl) (fun _ _ _ h => h) (DoesV.loadD (by rfl) 28 _ rfl g1 0 rfl (calCells c (.slice A c.data.length cp)) (fun w9 hS => At.whole ((C1.out.below K1_2.out C1.out.lt).below hS (C1.out.below K1_2.out C1.out.lt).lt)) _ Tryd.underlying28 rfl infoCall) ?_
  try simp only [List.getElem_toArray, List.getElem_cons_succ, List.getElem_cons_zero, Act.put, List.setIfInBounds_toArray, List.set_cons_succ, List.set_cons_zero]
  refine wpAnyW_take (i := 2) (v := .agg (calCells c (.slice A c.data.length cp)).toArray) (kept_below w2) (fun _ h => h) rfl (by kernel_rfl) (by kernel_rfl) (fun _ _ _ h => h) (DoesV.loadD (by rfl) 28 _ rfl g1 0 rfl (calCells c (.slice A c.data.length cp)) (fun w9 hS => At.whole ((C1.out.below K1_2.out C1.out.lt).below hS (C1.out.below K1_2.out C1.out.lt).lt)) _ Tryd.underlying28 rfl infoCall) ?_
  try simp only [List.getElem_toArray, List.getElem_cons_succ, List.getElem_cons_zero, Act.put, List.setIfInBounds_toArray, List.set_cons_succ, List.set_cons_zero]
  refine wpAnyW_take (i := 3) (v := .agg (calCells c (.slice A c.data.length cp)).toArray) (kept_below w2) (fun _ h => h) rfl (by kernel_rfl) (by kernel_rfl) (fun _ _ _ h => h) (DoesV.loadD (by rfl) 28 _ rfl g1 0 rfl (calCells c (.slice A c.data.length cp)) (fun w9 hS => At.whole ((C1.out.below K1_2.out C1.out.lt).below hS (C1.out.below K1_2.out C1.out.lt).lt)) _ Tryd.underlying28 rfl infoCall) ?_
  try simp only [List.getElem_toArray, List.getElem_cons_succ, List.getElem_cons_zero, Act.put, List.setIfInBounds_toArray, List.set_cons_succ, List.set_cons_zero]
  refine wpAnyW_take (i := 4) (v := .agg (calCells c (.slice A c.data.length cp)).toArray) (kept_below w2) (fun _ h => h) rfl (by kernel_rfl) (by kernel_rfl) (fun _ _ _ h => h) (DoesV.loadD (by rfl) 28 _ rfl g1 0 rfl (calCells c (.slice A c.data.length cp)) (fun w9 hS => At.whole ((C1.out.below K1_2.out C1.out.lt).below hS (C1.out.below K1_2.out C1.out.lt).lt)) _ Tryd.underlying28 rfl infoCall) ?_
  try simp only [List.getElem_toArray, List.getElem_cons_succ, List.getElem_cons_zero, Act.put, List.setIfInBounds_toArray, List.set_cons_succ, List.set_cons_zero]
  refine wpAnyW_allocs 28 (calCells calZero (.slice none 0 0)) callZero 5 [(5, 10), (6, 11), (7, 12), (8, 13), (9, 14)] _ _ w2 5 rfl (by kernel_rfl) (by decide) (by decide) (by decide) (fun x hx => ?_) (fun _ h => h) ?_
  · simp only [List.mem_cons, List.not_mem_nil, or_false] at hx; rcases hx with rfl | rfl | rfl | rfl | rfl <;> exact ⟨_, rfl, rfl, rfl, rfl⟩
  intro g w3 hg hgi hb3
  have ha := hg (5, 10) (by simp)
  have hb := hg (6, 11) (by simp)
  have hd := hg (7, 12) (by simp)
  have he := hg (8, 13) (by simp)
  have hf := hg (9, 14) (by simp)
  have nab : g 5 ≠ g 6 := fun e => by have := hgi (5, 10) (by simp) (6, 11) (by simp) e; simp at this
  have nad : g 5 ≠ g 7 := fun e => by have := hgi (5, 10) (by simp) (7, 12) (by simp) e; simp at this
  have nae : g 5 ≠ g 8 := fun e => by have := hgi (5, 10) (by simp) (8, 13) (by simp) e; simp at this
  have naf : g 5 ≠ g 9 := fun e => by have := hgi (5, 10) (by simp) (9, 14) (by simp) e; simp at this
  have nbd : g 6 ≠ g 7 := fun e => by have := hgi (6, 11) (by simp) (7, 12) (by simp) e; simp at this
  have nbe : g 6 ≠ g 8 := fun e => by have := hgi (6, 11) (by simp) (8, 13) (by simp) e; simp at this
  have nbf : g 6 ≠ g 9 := fun e => by have := hgi (6, 11) (by simp) (9, 14) (by simp) e; simp at this
  have nde : g 7 ≠ g 8 := fun e => by have := hgi (7, 12) (by simp) (8, 13) (by simp) e; simp at this
  have ndf : g 7 ≠ g 9 := fun e => by have := hgi (7, 12) (by simp) (9, 14) (by simp) e; simp at this
  have nef : g 8 ≠ g 9 := fun e => by have := hgi (8, 13) (by simp) (9, 14) (by simp) e; simp at this
  clear hg hgi
  dsimp only at ha hb hd he hf
  have HA := Lib.hid (Apart5.mk nab nad nae naf nbd nbe nbf nde ndf nef)
  have HF := Lib.hid (Five.mk (t := 28) (a := (calCells calZero (.slice none 0 0))) (b := (calCells calZero (.slice none 0 0))) (d := (calCells calZero (.slice none 0 0))) (e := (calCells calZero (.slice none 0 0))) (f := (calCells calZero (.slice none 0 0))) ha.1 hb.1 hd.1 he.1 hf.1)
  have La := Lib.hid ha.2
  have Lb := Lib.hid hb.2
  have Ld := Lib.hid hd.2
  have Le := Lib.hid he.2
  have Lf := Lib.hid hf.2
  have B3 := Lib.hid hb3
  clear hb3 ha hb hd he hf nab nad nae naf nbd nbe nbf nde ndf nef
  unfold putAll setAll
  simp only [List.foldl_cons, List.foldl_nil]
  generalize g 5 = ga at *
  generalize g 6 = gb at *
  generalize g 7 = gd at *
  generalize g 8 = ge at *
  generalize g 9 = gf at *
  try simp only [List.getElem_toArray, List.getElem_cons_succ, List.getElem_cons_zero, Act.put, List.setIfInBounds_toArray, List.set_cons_succ, List.set_cons_zero]
  refine wpAnyW_only (i := 10) rfl (by kernel_rfl) rfl (fun v hv => ?_)
  have hF := HF.out.below hv
  have hB := below_chain B3.out hv
  refine wp_storeW 28 _ _ rfl ga rfl (calCells c (.slice A c.data.length cp)) (calCells calZero (.slice none 0 0)) rfl hF.a rfl (cal_one rfl) infoCall (fun x0 hx ht => ?_)
  have hF2 := hF.ta HA.out ht hx
  have hB2 : Below w2.heap.size w2 x0 := hB.trans (ht.below hB.size fun k e => by have := La.out; omega)
  clear HF B3
  have HF := Lib.hid hF2
  have B3 := Lib.hid hB2
  clear hF hB hx ht hF2 hB2 hv
  refine ⟨Below x0.heap.size x0, Below.refl _ _, kept_below x0, fun q hq => below_chain B3.out hq, ?_⟩
  try simp only [List.getElem_toArray, List.getElem_cons_succ, List.getElem_cons_zero, Act.put, List.setIfInBounds_toArray, List.set_cons_succ, List.set_cons_zero]
  refine wpAnyW_only (i := 11) rfl (by kernel_rfl) rfl (fun v hv => ?_)
  have hF := HF.out.below hv
  have hB := below_chain B3.out hv
  refine wp_storeW 28 _ _ rfl gb rfl (calCells c (.slice A c.data.length cp)) (calCells calZero (.slice none 0 0)) rfl hF.b rfl (cal_one rfl) infoCall (fun x1 hx ht => ?_)
  have hF2 := hF.tb HA.out ht hx
  have hB2 : Below w2.heap.size w2 x1 := hB.trans (ht.below hB.size fun k e => by have := Lb.out; omega)
  clear HF B3
  have HF := Lib.hid hF2
  have B3 := Lib.hid hB2
  clear hF hB hx ht hF2 hB2 hv
  refine ⟨Below x1.heap.size x1, Below.refl _ _, kept_below x1, fun q hq => below_chain B3.out hq, ?_⟩
  try simp only [List.getElem_toArray, List.getElem_cons_succ, List.getElem_cons_zero, Act.put, List.setIfInBounds_toArray, List.set_cons_succ, List.set_cons_zero]
  refine wpAnyW_only (i := 12) rfl (by kernel_rfl) rfl (fun v hv => ?_)
  have hF := HF.out.below hv
  have hB := below_chain B3.out hv
  refine wp_storeW 28 _ _ rfl gd rfl (calCells c (.slice A c.data.length cp)) (calCells calZero (.slice none 0 0)) rfl hF.d rfl (cal_one rfl) infoCall (fun x2 hx ht => ?_)
  have hF2 := hF.td HA.out ht hx
  have hB2 : Below w2.heap.size w2 x2 := hB.trans (ht.below hB.size fun k e => by have := Ld.out; omega)
  clear HF B3
  have HF := Lib.hid hF2
  have B3 := Lib.hid hB2
  clear hF hB hx ht hF2 hB2 hv
  refine ⟨Below x2.heap.size x2, Below.refl _ _, kept_below x2, fun q hq => below_chain B3.out hq, ?_⟩
  try simp only [List.getElem_toArray, List.getElem_cons_succ, List.getElem_cons_zero, Act.put, List.setIfInBounds_toArray, List.set_cons_succ, List.set_cons_zero]
  refine wpAnyW_only (i := 13) rfl (by kernel_rfl) rfl (fun v hv => ?_)
  have hF := HF.out.below hv
  have hB := below_chain B3.out hv
  refine wp_storeW 28 _ _ rfl ge rfl (calCells c (.slice A c.data.length cp)) (calCells calZero (.slice none 0 0)) rfl hF.e rfl (cal_one rfl) infoCall (fun x3 hx ht => ?_)
  have hF2 := hF.te HA.out ht hx
  have hB2 : Below w2.heap.size w2 x3 := hB.trans (ht.below hB.size fun k e => by have := Le.out; omega)
  clear HF B3
  have HF := Lib.hid hF2
  have B3 := Lib.hid hB2
  clear hF hB hx ht hF2 hB2 hv
  refine ⟨Below x3.heap.size x3, Below.refl _ _, kept_below x3, fun q hq => below_chain B3.out hq, ?_⟩
  try simp only [List.getElem_toArray, List.getElem_cons_succ, List.getElem_cons_zero, Act.put, List.setIfInBounds_toArray, List.set_cons_succ, List.set_cons_zero]
  refine wpAnyW_only (i := 14) rfl (by kernel_rfl) rfl (fun v hv => ?_)
  have hF := HF.out.below hv
  have hB := below_chain B3.out hv
  refine wp_storeW 28 _ _ rfl gf rfl (calCells c (.slice A c.data.length cp)) (calCells calZero (.slice none 0 0)) rfl hF.f rfl (cal_one rfl) infoCall (fun x4 hx ht => ?_)
  have hF2 := hF.tf HA.out ht hx
  have hB2 : Below w2.heap.size w2 x4 := hB.trans (ht.below hB.size fun k e => by have := Lf.out; omega)
  clear HF B3
  have HF := Lib.hid hF2
  have B3 := Lib.hid hB2
  clear hF hB hx ht hF2 hB2 hv
  refine ⟨Below x4.heap.size x4, Below.refl _ _, kept_below x4, fun q hq => below_chain B3.out hq, ?_⟩
  try simp only [List.getElem_toArray, List.getElem_cons_succ, List.getElem_cons_zero, Act.put, List.setIfInBounds_toArray, List.set_cons_succ, List.set_cons_zero]
  refine wpAnyW_done (by kernel_rfl) (fun y hy => ?_) _
  have F0 := Lib.hid (HF.out.below hy)
  have BY0 := Lib.hid (below_chain B3.out hy)
  clear HF B3 hy
  have HVa := Lib.hid (show CalV w (· < w.heap.size) { c with size := n } (.slice A c.data.length cp) from ⟨HCV.out.1, by have h1 := HCV.out.2; have h2 := HN.out.2; unfold calOk at h1 ⊢; dsimp only; omega⟩)
  have HVb := Lib.hid (show CalV w (· < w.heap.size) { c with off := n } (.slice A c.data.length cp) from ⟨HCV.out.1, by have h1 := HCV.out.2; have h2 := HN.out.2; unfold calOk at h1 ⊢; dsimp only; omega⟩)
  have HVd := Lib.hid (show CalV w (· < w.heap.size) { c with name := s } (.slice A c.data.length cp) from ⟨HCV.out.1, by have h1 := HCV.out.2; have h2 := HN.out.2; unfold calOk at h1 ⊢; dsimp only; omega⟩)
  have HVe := Lib.hid (show CalV w (· < w.heap.size) { c with tino := n } (.slice A c.data.length cp) from ⟨HCV.out.1, by have h1 := HCV.out.2; have h2 := HN.out.2; unfold calOk at h1 ⊢; dsimp only; omega⟩)
  have HVf := Lib.hid (show CalV w (· < w.heap.size) { c with toname := s } (.slice A c.data.length cp) from ⟨HCV.out.1, by have h1 := HCV.out.2; have h2 := HN.out.2; unfold calOk at h1 ⊢; dsimp only; omega⟩)
  go_wp2_with (first
    | ((with_reducible show wpList _ _ _ _ _ y); refine wpList_store1 rfl 22 _ _ rfl ga 11 rfl (.int .u32 n) rfl rfl (by kernel_rfl) 28 _ F0.out.a (by simp [calCells]) ?_; intro y1 hk ht; go_frame; have F1 := Lib.hid (F0.out.ta HA.out ht (x := (calCells { c with size := n } (.slice A c.data.length cp))) hk); have BY1 := Lib.hid (BY0.out.trans (ht.below BY0.out.size fun k e => by have := La.out; omega)); clear hk ht F0 BY0)
    | ((with_reducible show wpList _ _ _ _ _ y1); refine wpList_store1 rfl 22 _ _ rfl gb 10 rfl (.int .u32 n) rfl rfl (by kernel_rfl) 28 _ F1.out.b (by simp [calCells]) ?_; intro y2 hk ht; go_frame; have F2 := Lib.hid (F1.out.tb HA.out ht (x := (calCells { c with off := n } (.slice A c.data.length cp))) hk); have BY2 := Lib.hid (BY1.out.trans (ht.below BY1.out.size fun k e => by have := Lb.out; omega)); clear hk ht F1 BY1)
    | ((with_reducible show wpList _ _ _ _ _ y2); refine wpList_store1 rfl 9 _ _ rfl gd 6 rfl (.string s) rfl rfl (by kernel_rfl) 28 _ F2.out.d (by simp [calCells]) ?_; intro y3 hk ht; go_frame; have F3 := Lib.hid (F2.out.td HA.out ht (x := (calCells { c with name := s } (.slice A c.data.length cp))) hk); have BY3 := Lib.hid (BY2.out.trans (ht.below BY2.out.size fun k e => by have := Ld.out; omega)); clear hk ht F2 BY2)
    | ((with_reducible show wpList _ _ _ _ _ y3); refine wpList_store1 rfl 22 _ _ rfl ge 7 rfl (.int .u32 n) rfl rfl (by kernel_rfl) 28 _ F3.out.e (by simp [calCells]) ?_; intro y4 hk ht; go_frame; have F4 := Lib.hid (F3.out.te HA.out ht (x := (calCells { c with tino := n } (.slice A c.data.length cp))) hk); have BY4 := Lib.hid (BY3.out.trans (ht.below BY3.out.size fun k e => by have := Le.out; omega)); clear hk ht F3 BY3)
    | ((with_reducible show wpList _ _ _ _ _ y4); refine wpList_store1 rfl 9 _ _ rfl gf 9 rfl (.string s) rfl rfl (by kernel_rfl) 28 _ F4.out.f (by simp [calCells]) ?_; intro y5 hk ht; go_frame; have F5 := Lib.hid (F4.out.tf HA.out ht (x := (calCells { c with toname := s } (.slice A c.data.length cp))) hk); have BY5 := Lib.hid (BY4.out.trans (ht.below BY4.out.size fun k e => by have := Lf.out; omega)); clear hk ht F4 BY4)
    | ((with_reducible show wpList _ _ _ _ _ y5); refine wpLoadG (by rfl) 28 _ rfl ga rfl (calCells { c with size := n } (.slice A c.data.length cp)) (F5.out.below (Below.refl _ _)).a _ Tryd.underlying28 rfl infoCall ?_; go_frame)
    | fail)
  have K0_3 := Lib.hid (below_chain K0_2.out BY5.out)
  have K1_3 := Lib.hid (below_chain K1_2.out BY5.out)
  have HY := Lib.hid (May_v (HVa.out.below K0_3.out) (HT.out.below K0_3.out))
  rw [show mayX { c with size := n } = false from one_size (by rw [HK.out]; rfl) HN.out.1] at HY
  refine HY.out.mono ?_
  rintro e z0 ⟨rfl, hb⟩
  have K0_4 := Lib.hid (below_chain K0_3.out hb)
  have K1_4 := Lib.hid (below_chain K1_3.out hb)
  have KY_4 := Lib.hid (hb)
  clear hb HY
  go_wp2_with (first
    | ((with_reducible show wpList _ _ _ _ _ z0); refine wpLoadG (by rfl) 28 _ rfl gb rfl (calCells { c with off := n } (.slice A c.data.length cp)) (F5.out.below KY_4.out).b _ Tryd.underlying28 rfl infoCall ?_; go_frame)
    | fail)
  have HY := Lib.hid (May_v (HVb.out.below K0_4.out) (HT.out.below K0_4.out))
  rw [show mayX { c with off := n } = false from one_off (by rw [HK.out]; rfl) HN.out.1] at HY
  refine HY.out.mono ?_
  rintro e z1 ⟨rfl, hb⟩
  have K0_5 := Lib.hid (below_chain K0_4.out hb)
  have K1_5 := Lib.hid (below_chain K1_4.out hb)
  have KY_5 := Lib.hid (below_chain KY_4.out hb)
  clear hb HY
  go_wp2_with (first
    | ((with_reducible show wpList _ _ _ _ _ z1); refine wpLoadG (by rfl) 28 _ rfl gd rfl (calCells { c with name := s } (.slice A c.data.length cp)) (F5.out.below KY_5.out).d _ Tryd.underlying28 rfl infoCall ?_; go_frame)
    | fail)
  have HY := Lib.hid (May_v (HVd.out.below K0_5.out) (HT.out.below K0_5.out))
  rw [show mayX { c with name := s } = false from one_name (by rw [HK.out]; rfl) HE.out] at HY
  refine HY.out.mono ?_
  rintro e z2 ⟨rfl, hb⟩
  have K0_6 := Lib.hid (below_chain K0_5.out hb)
  have K1_6 := Lib.hid (below_chain K1_5.out hb)
  have KY_6 := Lib.hid (below_chain KY_5.out hb)
  clear hb HY
  have q3 : z2.cell? ⟨g1, 3, none⟩ = some (.int .u8 12) := by have := (C1.out.below K1_6.out C1.out.lt).cell 3 (v := .int .u8 (c.kind : Int)) rfl; rw [HK.out] at this; exact this
  go_wp2_with (first
    | ((with_reducible show wpList _ _ _ _ _ z2); refine wpLoadG (by rfl) 28 _ rfl ge rfl (calCells { c with tino := n } (.slice A c.data.length cp)) (F5.out.below KY_6.out).e _ Tryd.underlying28 rfl infoCall ?_; go_frame)
    | fail)
  clear q3
  have HY := Lib.hid (May_v (HVe.out.below K0_6.out) (HT.out.below K0_6.out))
  rw [show mayX { c with tino := n } = false from one_to (by rw [HK.out]; rfl) HN.out.1] at HY
  refine HY.out.mono ?_
  rintro e z3 ⟨rfl, hb⟩
  have K0_7 := Lib.hid (below_chain K0_6.out hb)
  have K1_7 := Lib.hid (below_chain K1_6.out hb)
  have KY_7 := Lib.hid (below_chain KY_6.out hb)
  clear hb HY
  go_wp2_with (first
    | ((with_reducible show wpList _ _ _ _ _ z3); refine wpLoadG (by rfl) 28 _ rfl gf rfl (calCells { c with toname := s } (.slice A c.data.length cp)) (F5.out.below KY_7.out).f _ Tryd.underlying28 rfl infoCall ?_; go_frame)
    | fail)
  have HY := Lib.hid (May_v (HVf.out.below K0_7.out) (HT.out.below K0_7.out))
  rw [show mayX { c with toname := s } = false from one_toname (by rw [HK.out]; rfl) HE.out] at HY
  refine HY.out.mono ?_
  rintro e z4 ⟨rfl, hb⟩
  have K0_8 := Lib.hid (below_chain K0_7.out hb)
  have K1_8 := Lib.hid (below_chain K1_7.out hb)
  have KY_8 := Lib.hid (below_chain KY_7.out hb)
  clear hb HY
  go_wp2_with fail
  refine (lives10_v _ (HT.out.below K0_8.out)).mono ?_
  rintro e wz ⟨rfl, hb⟩
  have K0_9 := Lib.hid (below_chain K0_8.out hb)
  have K1_9 := Lib.hid (below_chain K1_8.out hb)
  have KY_9 := Lib.hid (below_chain KY_8.out hb)
  clear hb
  go_wp2_with fail
  go_ret
  exact ⟨rfl, K0_9.out⟩

end Go.Proofs.YthfaemcpheecfaaDoor
