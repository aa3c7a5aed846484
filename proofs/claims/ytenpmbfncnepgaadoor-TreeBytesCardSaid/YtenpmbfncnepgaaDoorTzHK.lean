/- TzHK: TzH TzI TzJ TzK. -/
import Derived.Test.YtenpmbfncnepgaaDoorTblK
import Derived.Test.YtenpmbfncnepgaaDoorTreEK
import Derived.Test.YtenpmbfncnepgaaDoorTzG
/- The program: copyNode, Copy: a tree in memory of one's own. -/
namespace Go.Proofs.YtenpmbfncnepgaaDoor
open Go.RowKit Go.Shelf
set_option linter.unusedVariables false
set_option maxRecDepth 100000
set_option linter.unusedSimpArgs false

theorem CloneS_v (nm : Key) (w : World) (h : nm.length ≤ 1000000) : Calls Tryd.prog 50 #[sv nm] w fun e w' => e = .returned (sv nm) ∧ Below w.heap.size w w' := by
  have hs : (⟨nm.toArray⟩ : ByteArray).size ≤ 281474976710656 := by
    show nm.toArray.size ≤ _
    simp
    omega
  have HC := Lib.hid (Tryd.stringslite_Clone ⟨nm.toArray⟩ w hs)
  clear hs
  go_enter Tryd.func50, Tryd.ntmps50
  go_wp2_with fail
  refine HC.out.mono ?_
  rintro e w1 ⟨rfl, hb⟩
  have B := Lib.hid hb
  clear hb
  go_wp2_with fail
  go_ret
  exact ⟨rfl, B.out⟩
theorem entZero (w : World) : (zeroValue 84).run Tryd.prog w = .ok (.agg ([sv [], .int .u32 0] : List Value).toArray) w := by kernel_rfl
theorem infoBs1 : (Tryd.prog.info? 26).map (·.size) = some 1 := by kernel_rfl
theorem infoEn1 : (Tryd.prog.info? 32).map (·.size) = some 1 := by kernel_rfl
theorem infoNs1 : (Tryd.prog.info? 23).map (·.size) = some 1 := by kernel_rfl
/-- a node's copy -/
def CopyN (n : Nd) (w : World) (e : Ending) (w' : World) : Prop := ∃ ds, e = .returned (.agg ds.toArray) ∧ NdO w' w.heap.size (fun k => w.heap.size ≤ k ∧ k < w'.heap.size) ds n ∧ Below w.heap.size w w'
theorem kept_own {α : Type} (E : Elem α) (base : Nat) (F : Nat → Prop) (v : Value) (l : List α) : Kept fun u => OwnX E u base F v l := fun a b h hb => h.below hb
theorem take_snoc {α : Type} {l : List α} {k : Nat} (h : k < l.length) : l.take (k + 1) = l.take k ++ [l[k]] := List.take_succ_eq_append_getElem h
set_option maxHeartbeats 8000000 in
theorem copyNode_v (n : Nd) (cs : List Value) (F : Nat → Prop) (w : World) (h : NdAt w F cs n) (hl : n.names.length ≤ 1000000) (hk : ∀ e ∈ n.names, e.1.length ≤ 1000000) (hd : n.data.length ≤ 140737488355328) :
    Calls Tryd.prog 30 #[.agg cs.toArray] w fun e w' => CopyN n w e w' := by
  obtain ⟨dv, nv, rfl, hb, ⟨A, c, rfl, hr, -⟩, hnum⟩ := h
  obtain ⟨Ad, cd, rfl, hrd, hnd, -⟩ := hb
  have hmix : Tryd.prog.follows .mixedOrders = true := by kernel_rfl
  have HR := Lib.hid hr
  have HD := Lib.hid hrd.rd
  have HND := Lib.hid hnd
  have HK := Lib.hid hk
  have HNU := Lib.hid hnum
  have HDL := Lib.hid hd
  have iln : (n.names.length : Int) ≤ 1000000 := by omega
  clear hr hrd hnd hk hnum hd
  go_enter Tryd.func30, Tryd.ntmps30
  go_wp2_with (first
    | ((with_reducible show wpList _ _ _ _ _ w); refine wpList_boxS rfl 34 _ rfl (ndC n (.slice Ad n.data.length cd) (.slice A n.names.length c)) rfl ?_; intro g1 w1 hk1 hb1 hg1; go_frame; have C1 := Lib.hid hk1; have B1 := Lib.hid hb1; have G1 := Lib.hid hg1; clear hk1 hb1 hg1)
    | ((with_reducible show wpList _ _ _ _ _ w1); refine wpList_allocS rfl 34 rfl nodeZ nodeZero ?_; intro g2 w2 hk1 hb1 hg1; go_frame; have C2 := Lib.hid hk1; have C12 := Lib.hid (C1.out.below hb1 C1.out.lt); have B2 := Lib.hid (below_chain B1.out hb1); have G2 := Lib.hid (show w.heap.size ≤ g2 from Nat.le_trans B1.out.size hg1); have q5 : w2.cell? ⟨g1, 5, none⟩ = some (.slice A n.names.length c) := (C1.out.below hb1 C1.out.lt).cell 5 rfl; have N12 := Lib.hid (show g1 ≠ g2 by have := C1.out.lt; omega); clear hk1 hb1 hg1)
    | fail)
  clear q5
  obtain ⟨cl, hcl⟩ : ∃ cl, cl = ndC n (.slice Ad n.data.length cd) (.slice A n.names.length c) := ⟨_, rfl⟩
  rw [← hcl] at C1 C12
  have HCL := Lib.hid hcl
  clear hcl
  go_loopw [3, 9] (fun v j wr => ∃ k : Nat, j = .int .i64 k ∧ k ≤ n.names.length ∧ OwnX entE wr w.heap.size (fun q => w.heap.size ≤ q ∧ q ≠ g1 ∧ q ≠ g2) v (n.names.take k) ∧ Below w.heap.size w wr ∧ Cs wr g1 34 cl.toArray ∧ Cs wr g2 34 nodeZ.toArray) (fun _ j _ => n.names.length - (RowKit.intOf j).toNat)
  case atStart => exact ⟨0, rfl, Nat.zero_le _, OwnX.nil _ _ _, B2.out, C12.out, C2.out⟩
  case round =>
    obtain ⟨k, rfl, hkl, ho, hB, hc1, hc2⟩ := hrel
    have HO := Lib.hid ho
    have HB := Lib.hid hB
    have D1 := Lib.hid hc1
    have D2 := Lib.hid hc2
    clear ho hc1 hc2
    by_cases hlt : k < n.names.length
    · obtain ⟨b, off, xs, rfl, ⟨rfl, hino⟩, hat⟩ := (HR.out.below hB).get k hlt
      have HAT := Lib.hid hat
      have HI := Lib.hid hino
      have HL := Lib.hid (HK.out _ (List.getElem_mem hlt))
      have HTS := Lib.hid (take_snoc hlt)
      have HOL := Lib.hid (show (n.names.take k).length ≤ 1000000 by rw [List.length_take]; omega)
      generalize n.names[k] = x at *
      generalize n.names.take k = tk at *
      clear hat hino hB
      go_wp2_with (first
        | ((with_reducible show wpList _ _ _ _ _ wr); refine wpList_load_agg rfl 84 _ rfl b (off + k * 2) rfl [sv x.1, .int .u32 (x.2 : Int)] HAT.out _ Tryd.underlying84 rfl infoEnt ?_; go_frame)
        | ((with_reducible show wpList _ _ _ _ _ wr); refine wpList_allocS rfl 84 rfl [sv [], .int .u32 0] entZero ?_; intro g5 w5 hk1 hb1 hg1; go_frame; have C5 := Lib.hid hk1; have B5 := Lib.hid hb1; have G5 := Lib.hid hg1; clear hk1 hb1 hg1)
        | ((with_reducible show wpList _ _ _ _ _ w5); refine wpList_storeS rfl 84 _ _ rfl g5 rfl [sv x.1, .int .u32 (x.2 : Int)] [sv [], .int .u32 0] rfl C5.out rfl (by intro v hv; simp at hv; rcases hv with rfl | rfl <;> rfl) infoEnt ?_; intro w6 hk2 ht2; go_frame; have C6 := Lib.hid hk2; have B6 := Lib.hid (show Below wr.heap.size wr w6 from below_turn B5.out ht2 B5.out.size G5.out); clear hk2 ht2)
        | fail)
      have O6 := Lib.hid (HO.out.below B6.out)
      have BB6 := Lib.hid (below_chain HB.out B6.out)
      have E1 := Lib.hid (D1.out.below B6.out D1.out.lt)
      have E2 := Lib.hid (D2.out.below B6.out D2.out.lt)
      clear HO
      refine wp_region_X [8, 9] (fun u => Cs u g5 84 ([sv x.1, .int .u32 (x.2 : Int)] : List Value).toArray ∧ OwnX entE u w.heap.size (fun q => w.heap.size ≤ q ∧ q ≠ g1 ∧ q ≠ g2) u3 tk ∧ Below w.heap.size w u ∧ Cs u g1 34 cl.toArray ∧ Cs u g2 34 nodeZ.toArray) (fun u => Cs u g5 84 ([sv x.1, .int .u32 (x.2 : Int)] : List Value).toArray ∧ OwnX entE u w.heap.size (fun q => w.heap.size ≤ q ∧ q ≠ g1 ∧ q ≠ g2) u3 tk ∧ Below w.heap.size w u ∧ Cs u g1 34 cl.toArray ∧ Cs u g2 34 nodeZ.toArray) hmix (⟨C6.out.drew, O6.out.below (Below.refl _ _).drew, BB6.out.drew, E1.out.drew, E2.out.drew⟩) ?_
      change wpAnyX _ _ _ _ _ _ _ _ _ _
      refine wpAnyX_take (i := 0) (v := u3) 8 (kept_and (kept_cs _ _ _) (kept_and (kept_own _ _ _ _ _) (kept_and (kept_below _) (kept_and (kept_cs _ _ _) (kept_cs _ _ _))))) (fun _ h => h) rfl (by kernel_rfl) (by kernel_rfl) (fun _ _ _ h => h) (DoesV.reads (by rfl) fun w9 hS => by go_simp) ?_
      try simp only [List.getElem_toArray, List.getElem_cons_succ, List.getElem_cons_zero, Act.put, List.setIfInBounds_toArray, List.set_cons_succ, List.set_cons_zero]
      refine wpAnyX_take (i := 1) (v := .pointer (some ⟨g5, 0, none⟩)) 8 (kept_and (kept_cs _ _ _) (kept_and (kept_own _ _ _ _ _) (kept_and (kept_below _) (kept_and (kept_cs _ _ _) (kept_cs _ _ _))))) (fun _ h => h) rfl (by kernel_rfl) (by kernel_rfl) (fun _ _ _ h => h) (DoesV.reads (by rfl) fun w9 hS => by go_simp) ?_
      try simp only [List.getElem_toArray, List.getElem_cons_succ, List.getElem_cons_zero, Act.put, List.setIfInBounds_toArray, List.set_cons_succ, List.set_cons_zero]
      refine wpAnyX_take (i := 2) (v := sv x.1) 8 (kept_and (kept_cs _ _ _) (kept_and (kept_own _ _ _ _ _) (kept_and (kept_below _) (kept_and (kept_cs _ _ _) (kept_cs _ _ _))))) (fun _ h => h) rfl (by kernel_rfl) (by kernel_rfl) (fun _ _ _ h => h) (DoesV.reads (by rfl) fun w9 hS => by have q0 : w9.cell? ⟨g5, 0, none⟩ = some (sv x.1) := hS.1.cell 0 rfl; go_simp) ?_
      try simp only [List.getElem_toArray, List.getElem_cons_succ, List.getElem_cons_zero, Act.put, List.setIfInBounds_toArray, List.set_cons_succ, List.set_cons_zero]
      refine wpAnyX_take (i := 4) (v := .pointer (some ⟨g5, 1, none⟩)) 8 (kept_and (kept_cs _ _ _) (kept_and (kept_own _ _ _ _ _) (kept_and (kept_below _) (kept_and (kept_cs _ _ _) (kept_cs _ _ _))))) (fun _ h => h) rfl (by kernel_rfl) (by kernel_rfl) (fun _ _ _ h => h) (DoesV.reads (by rfl) fun w9 hS => by go_simp) ?_
      try simp only [List.getElem_toArray, List.getElem_cons_succ, List.getElem_cons_zero, Act.put, List.setIfInBounds_toArray, List.set_cons_succ, List.set_cons_zero]
      refine wpAnyX_take (i := 5) (v := .int .u32 (x.2 : Int)) 8 (kept_and (kept_cs _ _ _) (kept_and (kept_own _ _ _ _ _) (kept_and (kept_below _) (kept_and (kept_cs _ _ _) (kept_cs _ _ _))))) (fun _ h => h) rfl (by kernel_rfl) (by kernel_rfl) (fun _ _ _ h => h) (DoesV.reads (by rfl) fun w9 hS => by have q0 : w9.cell? ⟨g5, 1, none⟩ = some (.int .u32 (x.2 : Int)) := hS.1.cell 1 rfl; go_simp) ?_
      try simp only [List.getElem_toArray, List.getElem_cons_succ, List.getElem_cons_zero, Act.put, List.setIfInBounds_toArray, List.set_cons_succ, List.set_cons_zero]
      refine wpAnyX_only (i := 3) rfl (by kernel_rfl) rfl (fun u hS => wp_of_call (by go_simp) (CloneS_v x.1 u HL.out) fun e u' ⟨he, hb⟩ => ⟨_, he, fun u => Cs u g5 84 ([sv x.1, .int .u32 (x.2 : Int)] : List Value).toArray ∧ OwnX entE u w.heap.size (fun q => w.heap.size ≤ q ∧ q ≠ g1 ∧ q ≠ g2) u3 tk ∧ Below w.heap.size w u ∧ Cs u g1 34 cl.toArray ∧ Cs u g2 34 nodeZ.toArray, (kept_and (kept_cs _ _ _) (kept_and (kept_own _ _ _ _ _) (kept_and (kept_below _) (kept_and (kept_cs _ _ _) (kept_cs _ _ _))))) _ _ hS hb, kept_and (kept_cs _ _ _) (kept_and (kept_own _ _ _ _ _) (kept_and (kept_below _) (kept_and (kept_cs _ _ _) (kept_cs _ _ _)))), fun _ _ h => h, ?_⟩)
      try simp only [List.getElem_toArray, List.getElem_cons_succ, List.getElem_cons_zero, Act.put, List.setIfInBounds_toArray, List.set_cons_succ, List.set_cons_zero]
      refine wpAnyX_only (i := 6) rfl (by kernel_rfl) rfl (fun u hS => wp_of_run2 (v := .agg ([sv x.1, .int .u32 (x.2 : Int)] : List Value).toArray) (by simp only [sv]; go_simp) ⟨_, hS, kept_and (kept_cs _ _ _) (kept_and (kept_own _ _ _ _ _) (kept_and (kept_below _) (kept_and (kept_cs _ _ _) (kept_cs _ _ _)))), fun _ _ h => h, ?_⟩)
      try simp only [List.getElem_toArray, List.getElem_cons_succ, List.getElem_cons_zero, Act.put, List.setIfInBounds_toArray, List.set_cons_succ, List.set_cons_zero]
      refine wpAnyX_only (i := 7) rfl (by kernel_rfl) rfl (fun u hS => wp_of_run2 (v := .slice (some ⟨u.heap.size, 0, none⟩) 1 1) (w' := u.alloc (.cells ([sv x.1, .int .u32 (x.2 : Int)] : List Value).toArray 84)) (by go_simp) ⟨fun z => (fun u => Cs u g5 84 ([sv x.1, .int .u32 (x.2 : Int)] : List Value).toArray ∧ OwnX entE u w.heap.size (fun q => w.heap.size ≤ q ∧ q ≠ g1 ∧ q ≠ g2) u3 tk ∧ Below w.heap.size w u ∧ Cs u g1 34 cl.toArray ∧ Cs u g2 34 nodeZ.toArray) z ∧ Cs z u.heap.size 84 ([sv x.1, .int .u32 (x.2 : Int)] : List Value).toArray, ⟨(kept_and (kept_cs _ _ _) (kept_and (kept_own _ _ _ _ _) (kept_and (kept_below _) (kept_and (kept_cs _ _ _) (kept_cs _ _ _))))) _ _ hS ((Below.refl _ _).alloc (Nat.le_refl _) _), Cs.new _ _ _⟩, kept_and (kept_and (kept_cs _ _ _) (kept_and (kept_own _ _ _ _ _) (kept_and (kept_below _) (kept_and (kept_cs _ _ _) (kept_cs _ _ _))))) (kept_cs _ _ _), fun _ _ h => h.1, ?_⟩)
      try simp only [List.getElem_toArray, List.getElem_cons_succ, List.getElem_cons_zero, Act.put, List.setIfInBounds_toArray, List.set_cons_succ, List.set_cons_zero]
      refine wpAnyX_only (i := 8) rfl (by kernel_rfl) rfl (fun u hS => wp_append_x1 (E := entE) _ _ rfl w.heap.size (fun q => w.heap.size ≤ q ∧ q ≠ g1 ∧ q ≠ g2) _ tk rfl hS.1.2.1 _ 1 rfl [sv x.1, .int .u32 (x.2 : Int)] x ⟨rfl, HI.out⟩ _ hS.2 (by have := HOL.out; omega) hS.1.2.2.1.size ⟨hS.1.2.2.1.size, by have := hS.1.2.2.2.1.lt; omega, by have := hS.1.2.2.2.2.lt; omega⟩ fun v8 w8 ho hg => ⟨fun z => OwnX entE z w.heap.size (fun q => w.heap.size ≤ q ∧ q ≠ g1 ∧ q ≠ g2) v8 (tk ++ [x]) ∧ Below w.heap.size w z ∧ Cs z g1 34 cl.toArray ∧ Cs z g2 34 nodeZ.toArray, ⟨ho, hS.1.2.2.1.grown hg hS.1.2.2.1.size fun q e => (hS.1.2.1.sub q e).1, hS.1.2.2.2.1.turn (Turn.of_grown hg) (fun e => (hS.1.2.1.sub _ e).2.1 rfl), hS.1.2.2.2.2.turn (Turn.of_grown hg) (fun e => (hS.1.2.1.sub _ e).2.2 rfl)⟩, kept_and (kept_own _ _ _ _ _) (kept_and (kept_below _) (kept_and (kept_cs _ _ _) (kept_cs _ _ _))), fun h => absurd (by decide : (8 : Nat) ∈ [8, 9]) h, ?_⟩)
      try simp only [List.getElem_toArray, List.getElem_cons_succ, List.getElem_cons_zero, Act.put, List.setIfInBounds_toArray, List.set_cons_succ, List.set_cons_zero]
      refine wpAnyX_only (i := 9) rfl (by kernel_rfl) rfl (fun u hS => wp_of_run2 (v := v8) (by go_simp) ⟨_, hS, kept_and (kept_own _ _ _ _ _) (kept_and (kept_below _) (kept_and (kept_cs _ _ _) (kept_cs _ _ _))), fun h => absurd (by decide : (9 : Nat) ∈ [8, 9]) h, ?_⟩)
      try simp only [List.getElem_toArray, List.getElem_cons_succ, List.getElem_cons_zero, Act.put, List.setIfInBounds_toArray, List.set_cons_succ, List.set_cons_zero]
      refine wpAnyX_done (by kernel_rfl) (fun z hz => ?_) _
      have O8 := Lib.hid hz.1
      have B8 := Lib.hid hz.2.1
      have E8 := Lib.hid hz.2.2.1
      have E9 := Lib.hid hz.2.2.2
      clear hz
      go_wp2_with fail
      go_roundw
      case rel => exact ⟨k + 1, by go_num, hlt, by rw [HTS.out]; exact O8.out, B8.out, E8.out, E9.out⟩
      case measure => simp [RowKit.intOf]; omega
    · obtain rfl : k = n.names.length := by omega
      rw [List.take_length] at HO
      have q4 : wr.cell? ⟨g1, 4, none⟩ = some (.slice Ad n.data.length cd) := D1.out.cell 4 (by rw [HCL.out]; rfl)
      clear hB
      go_wp2_with fail
      refine (Clone_ty n.data Ad cd wr HDL.out (HD.out.below HB.out) HND.out).mono ?_
      rintro e w5 ⟨v, rfl, hbs, -, -, hb⟩
      have BS := Lib.hid hbs
      have B5 := Lib.hid hb
      have BB5 := Lib.hid (below_chain HB.out hb)
      have E1 := Lib.hid (D1.out.below hb D1.out.lt)
      have E2 := Lib.hid (D2.out.below hb D2.out.lt)
      have O5 := Lib.hid (HO.out.below hb)
      have OV := Lib.hid (HO.out.one)
      have BV := Lib.hid hbs.one
      have CSZ := Lib.hid (show cl.length = 6 by rw [HCL.out]; rfl)
      clear hb hbs q4
      go_wp2_with (first
        | ((with_reducible show wpList _ _ _ _ _ w5); refine wpList_store1 rfl 26 _ _ rfl g1 4 rfl v rfl BV.out infoBs1 _ _ E1.out (by have := CSZ.out; simp; omega) ?_; intro w6 hk2 ht2; go_frame; have E6 := Lib.hid hk2; have T6 := Lib.hid ht2; clear hk2 ht2)
        | ((with_reducible show wpList _ _ _ _ _ w6); refine wpList_store1 rfl 32 _ _ rfl g1 5 rfl u3 rfl OV.out infoEn1 _ _ E6.out (by have := CSZ.out; simp; omega) ?_; intro w7 hk2 ht2; go_frame; have E7 := Lib.hid (show Cs w7 g1 34 (ndC n v u3).toArray by rw [HCL.out] at hk2; exact hk2); have T7 := Lib.hid (T6.out.trans ht2 fun _ _ h => h); have E27 := Lib.hid (E2.out.turn T7.out N12.out.symm); clear hk2 ht2)
        | ((with_reducible show wpList _ _ _ _ _ w7); refine wpList_loadS rfl 34 _ rfl g1 rfl (ndC n v u3) E7.out _ Tryd.underlying34 rfl infoNode ?_; go_frame)
        | ((with_reducible show wpList _ _ _ _ _ w7); refine wpList_storeS rfl 34 _ _ rfl g2 rfl (ndC n v u3) nodeZ rfl E27.out rfl (by intro q hq; simp [ndC] at hq; rcases hq with rfl | rfl | rfl | rfl | rfl | rfl; all_goals first | rfl | exact BV.out | exact OV.out) infoNode ?_; intro w8 hk2 ht2; go_frame; have E8 := Lib.hid hk2; have T8 := Lib.hid ht2; clear hk2 ht2)
        | fail)
      refine bodyPost_ret (results_agg (P := Tryd.prog) (p := 2) (ty := 34) rfl _ _ g2 0 (ndC n v u3) rfl (At.whole E8.out) _ Tryd.underlying34 rfl infoNode) rfl ?_
      have ht78 : Turn w5 w8 (fun q => q = g1 ∨ q = g2) := (T7.out.mono fun q _ h => Or.inl h).trans (T8.out.mono fun q _ h => Or.inr h) fun _ _ h => h
      have hG12 : w.heap.size ≤ g1 ∧ w.heap.size ≤ g2 := ⟨G1.out, G2.out⟩
      have hbw : Below w.heap.size w w8 := BB5.out.trans (ht78.below BB5.out.size fun q h => by rcases h with h | h <;> omega)
      refine ⟨_, rfl, ⟨v, u3, rfl, ?_, ?_, HNU.out⟩, hbw⟩
      · refine ((BS.out.mono (G := fun q => wr.heap.size ≤ q ∧ q < w5.heap.size) fun q h1 h2 => ⟨h2, h1⟩).turn ht78 fun q h1 h2 => ?_).mono fun q h1 h2 => ⟨by have := HB.out.size; omega, h1⟩
        have := D1.out.lt
        have := D2.out.lt
        omega
      · refine (O5.out.turn ht78 fun q h1 h2 => ?_).mono fun q h1 h2 => ⟨h2.1, h1⟩
        rcases h2 with h2 | h2
        · exact h1.2.1 h2
        · exact h1.2.2 h2

/-! ### Copy -/
theorem wpList_buildNd {w : World} {ops : Array Oper} {rest : List Oper} {o : Oper} {a : Act} {Q : Exit → Act → World → Prop} (hgd : o.guard = none) (x : Operand) (ho : o.op = .buildSlice 23 1 #[(0, x)]) (n : Nd) (dv nv : Value) (hx : a.eval x = .agg (ndC n dv nv).toArray)
    (hK : ∀ g w', Cs w' g 34 (ndC n dv nv).toArray → Below w.heap.size w w' → w.heap.size ≤ g → wpList Tryd.prog ops Q rest (a.put o.dst (.slice (some ⟨g, 0, none⟩) 1 1)) w') : wpList Tryd.prog ops Q (o :: rest) a w := by
  refine wpList_plain hgd fun _ hh => wp_of_run2 (v := .slice (some ⟨w.heap.size, 0, none⟩) 1 1) (w' := w.alloc (.cells (ndC n dv nv).toArray 34)) ?_ (hh _ _ (hK _ _ (Cs.new _ _ _) ((Below.refl _ _).alloc (Nat.le_refl _) _) (Nat.le_refl _)))
  unfold execOp
  simp only [ho, hx, List.map_toArray, List.map_cons, List.map_nil, ndC]
  go_simp
/-- a tree of one's own, as a value -/
structure TrO (w : World) (N : Nat) (nv : Value) (ss : List Value) (t : Tr) (ls : List (Nd × Sup)) (S : Sup) : Prop where
  own : OwnX (nodeO N) w N (N ≤ ·) nv ls
  nds : ls.map (·.1) = t.nodes
  dis : Apart ls
  sup : ∀ p ∈ ls, ∀ k, p.2 k → N ≤ k ∧ k < w.heap.size
  ses : SesAt w S ss t.sess
  far : ∀ k, S k → N ≤ k ∧ k < w.heap.size ∧ nv.ownBlock ≠ some k ∧ ∀ p ∈ ls, ¬ p.2 k
  len : t.sess.length = 4 ∧ ss.length = 12
  big : t.lastGen < 4294967296 ∧ t.boot < 4294967296 ∧ t.count < 4294967296
def CopyT (t : Tr) (w : World) (e : Ending) (w' : World) : Prop := ∃ nv ss ls S, e = .returned (.agg (trC nv t ss).toArray) ∧ TrO w' w.heap.size nv ss t ls S ∧ Below w.heap.size w w'
/-- sizes that a copy asks for -/
structure SmallT (t : Tr) : Prop where
  nodes : t.nodes.length ≤ 1000000
  names : ∀ n ∈ t.nodes, n.names.length ≤ 1000000 ∧ (∀ e ∈ n.names, e.1.length ≤ 1000000) ∧ n.data.length ≤ 140737488355328
  sess : ∀ x ∈ t.sess, x.2.2.length ≤ 140737488355328
theorem apart_snoc {ls : List (Nd × Sup)} {y : Nd × Sup} (h : Apart ls) (hy : ∀ p ∈ ls, ∀ k, ¬ (p.2 k ∧ y.2 k)) : Apart (ls ++ [y]) := by
  rw [Apart, List.pairwise_append]
  exact ⟨h, List.pairwise_singleton _ _, fun p hp z hz k => by rw [List.mem_singleton] at hz; subst hz; exact hy p hp k⟩
def sesC (x : Nat × Nat × List UInt8) (v : Value) : List Value := [.int .u32 (x.1 : Int), .int .u64 (x.2.1 : Int), v]
theorem SesAt.four {w : World} {F : Nat → Prop} {cs : List Value} {l : List (Nat × Nat × List UInt8)} (h : SesAt w F cs l) (hl : l.length = 4) (hc : cs.length = 12) : ∃ x0 x1 x2 x3 b0 b1 b2 b3, l = [x0, x1, x2, x3] ∧ cs = sesC x0 b0 ++ sesC x1 b1 ++ sesC x2 b2 ++ sesC x3 b3 ∧ BsV w F b0 x0.2.2 ∧ BsV w F b1 x1.2.2 ∧ BsV w F b2 x2.2.2 ∧ BsV w F b3 x3.2.2 ∧ (∀ x ∈ l, x.1 < 4294967296 ∧ x.2.1 < 18446744073709551616 ∧ x.2.2.length ≤ 140737488355328) := by
  match l, hl, h with
  | [x0, x1, x2, x3], _, ⟨⟨b0, e0, h0, i0⟩, ⟨b1, e1, h1, i1⟩, ⟨b2, e2, h2, i2⟩, ⟨b3, e3, h3, i3⟩, hn⟩ =>
    refine ⟨x0, x1, x2, x3, b0, b1, b2, b3, rfl, ?_, h0, h1, h2, h3, fun x hx => ?_⟩
    · simp only [List.drop_drop] at e1 e2 e3 hn
      have hn' : List.drop 12 cs = [] := by simpa [SesAt] using hn
      unfold sesC
      rw [← e0, ← e1, ← e2, ← e3]
      have k1 := List.take_append_drop 3 cs
      have k2 := List.take_append_drop 3 (cs.drop 3)
      have k3 := List.take_append_drop 3 (cs.drop 6)
      have k4 := List.take_append_drop 3 (cs.drop 9)
      simp only [List.drop_drop] at k2 k3 k4
      rw [hn', List.append_nil] at k4
      simp only [List.append_assoc]
      rw [k4, k3, k2, k1]
    · simp at hx
      rcases hx with rfl | rfl | rfl | rfl
      · exact i0
      · exact i1
      · exact i2
      · exact i3
theorem ses_four {w : World} {F : Nat → Prop} {x0 x1 x2 x3 : Nat × Nat × List UInt8} {b0 b1 b2 b3 : Value} (h0 : BsV w F b0 x0.2.2) (h1 : BsV w F b1 x1.2.2) (h2 : BsV w F b2 x2.2.2) (h3 : BsV w F b3 x3.2.2) (hn : ∀ x ∈ [x0, x1, x2, x3], x.1 < 4294967296 ∧ x.2.1 < 18446744073709551616 ∧ x.2.2.length ≤ 140737488355328) : SesAt w F (sesC x0 b0 ++ sesC x1 b1 ++ sesC x2 b2 ++ sesC x3 b3) [x0, x1, x2, x3] :=
  ⟨⟨b0, rfl, h0, hn x0 (by simp)⟩, ⟨b1, rfl, h1, hn x1 (by simp)⟩, ⟨b2, rfl, h2, hn x2 (by simp)⟩, ⟨b3, rfl, h3, hn x3 (by simp)⟩, rfl⟩
/-- how far the sessions have come -/
def SesF (N : Nat) (F : Nat → Prop) (j k : Nat) : Nat → Prop := fun q => (j < k ∧ N ≤ q) ∨ (¬ j < k ∧ F q)
theorem SesF.next {N : Nat} {F : Nat → Prop} {j k : Nat} (h : j ≠ k) {q : Nat} (hq : SesF N F j k q) : SesF N F j (k + 1) q := by
  rcases hq with ⟨h1, h2⟩ | ⟨h1, h2⟩
  · exact .inl ⟨by omega, h2⟩
  · exact .inr ⟨by omega, h2⟩
set_option maxHeartbeats 16000000 in
theorem Copy_v (t : Tr) (cs : List Value) (F : Nat → Prop) (w : World) (h : TrAt w F cs t) (hsm : SmallT t) (hF : ∀ k, F k → k < w.heap.size) :
    Calls Tryd.prog 11 #[.agg cs.toArray] w fun e w' => CopyT t w e w' := by
  obtain ⟨nv, ss, rfl, ⟨A, c, rfl, hr, -⟩, hse, hl4, hl12, hbig⟩ := h
  obtain ⟨x0, x1, x2, x3, b0, b1, b2, b3, hsess, rfl, hb0, hb1, hb2, hb3, hnum⟩ := hse.four hl4 hl12
  have HR := Lib.hid hr
  have HB0 := Lib.hid hb0
  have HB1 := Lib.hid hb1
  have HB2 := Lib.hid hb2
  have HB3 := Lib.hid hb3
  have HNM := Lib.hid (show ∀ x ∈ [x0, x1, x2, x3], x.1 < 4294967296 ∧ x.2.1 < 18446744073709551616 ∧ x.2.2.length ≤ 140737488355328 by rw [← hsess]; exact hnum)
  have HL4 := Lib.hid hl4
  have HL12 := Lib.hid hl12
  have HSE := Lib.hid hsess
  have HSM := Lib.hid hsm
  have HBG := Lib.hid hbig
  have HFF := Lib.hid hF
  have HX0 := Lib.hid (hsm.sess x0 (by rw [hsess]; simp))
  have HX1 := Lib.hid (hsm.sess x1 (by rw [hsess]; simp))
  have HX2 := Lib.hid (hsm.sess x2 (by rw [hsess]; simp))
  have HX3 := Lib.hid (hsm.sess x3 (by rw [hsess]; simp))
  have iln : (t.nodes.length : Int) ≤ 1000000 := by have := hsm.nodes; omega
  clear hse hr hb0 hb1 hb2 hb3 hnum hsess hsm hl4 hl12 hbig hF
  obtain ⟨cl, hcl⟩ : ∃ cl, cl = fun (v y0 y1 y2 y3 : Value) => trC v t (sesC x0 y0 ++ sesC x1 y1 ++ sesC x2 y2 ++ sesC x3 y3) := ⟨_, rfl⟩
  have HCL := Lib.hid (show ∀ v y0 y1 y2 y3, cl v y0 y1 y2 y3 = trC v t (sesC x0 y0 ++ sesC x1 y1 ++ sesC x2 y2 ++ sesC x3 y3) from fun v y0 y1 y2 y3 => by rw [hcl])
  have HCN := Lib.hid (show ∀ v y0 y1 y2 y3, (cl v y0 y1 y2 y3).length = 16 from fun v y0 y1 y2 y3 => by rw [hcl]; rfl)
  show Calls Tryd.prog 11 #[.agg (trC (.slice A t.nodes.length c) t (sesC x0 b0 ++ sesC x1 b1 ++ sesC x2 b2 ++ sesC x3 b3)).toArray] w _
  rw [← HCL.out]
  clear hcl
  go_enter Tryd.func11, Tryd.ntmps11
  go_wp2_with (first
    | ((with_reducible show wpList _ _ _ _ _ w); refine wpList_boxS rfl 31 _ rfl (cl (.slice A t.nodes.length c) b0 b1 b2 b3) rfl ?_; intro g1 w1 hk1 hb1 hg1; go_frame; have C1 := Lib.hid hk1; have B1 := Lib.hid hb1; have G1 := Lib.hid hg1; clear hk1 hb1 hg1)
    | ((with_reducible show wpList _ _ _ _ _ w1); refine wpList_allocS rfl 31 rfl treeZ treeZero ?_; intro g2 w2 hk1 hb1 hg1; go_frame; have C2 := Lib.hid hk1; have C12 := Lib.hid (C1.out.below hb1 C1.out.lt); have B2 := Lib.hid (below_chain B1.out hb1); have G2 := Lib.hid (show w.heap.size ≤ g2 from Nat.le_trans B1.out.size hg1); have q0 : w2.cell? ⟨g1, 0, none⟩ = some (.slice A t.nodes.length c) := (C1.out.below hb1 C1.out.lt).cell 0 (by rw [HCL.out]; rfl); have N12 := Lib.hid (show g1 ≠ g2 by have := C1.out.lt; omega); clear hk1 hb1 hg1)
    | fail)
  clear q0
  go_loopw [3, 10] (fun v j wr => ∃ (k : Nat) (ls : List (Nd × Sup)), j = .int .i64 k ∧ k ≤ t.nodes.length ∧ OwnX (nodeO w.heap.size) wr w.heap.size (fun q => w.heap.size ≤ q ∧ q ≠ g1 ∧ q ≠ g2) v ls ∧ ls.map (·.1) = t.nodes.take k ∧ Apart ls ∧ (∀ p ∈ ls, ∀ q, p.2 q → w.heap.size ≤ q ∧ q < wr.heap.size ∧ q ≠ g1 ∧ q ≠ g2) ∧ Below w.heap.size w wr ∧ Cs wr g1 31 (cl (.slice A t.nodes.length c) b0 b1 b2 b3).toArray ∧ Cs wr g2 31 treeZ.toArray) (fun _ j _ => t.nodes.length - (RowKit.intOf j).toNat)
  case atStart => exact ⟨0, [], rfl, Nat.zero_le _, OwnX.nil _ _ _, rfl, List.Pairwise.nil, (fun p hp => by cases hp), B2.out, C12.out, C2.out⟩
  case round =>
    obtain ⟨k, ls, rfl, hkl, ho, hmp, hap, hsu, hB, hc1, hc2⟩ := hrel
    have HO := Lib.hid ho
    have HB := Lib.hid hB
    have D1 := Lib.hid hc1
    have D2 := Lib.hid hc2
    have HMP := Lib.hid hmp
    have HAP := Lib.hid hap
    have HSU := Lib.hid hsu
    clear ho hc1 hc2 hmp hap hsu
    by_cases hlt : k < t.nodes.length
    · obtain ⟨b, off, xs, rfl, hnd, hat⟩ := (HR.out.below hB).get k hlt
      have HAT := Lib.hid hat
      have HND := Lib.hid hnd
      have HNL := Lib.hid (show xs.length = 6 from hnd.len)
      have HL := Lib.hid (HSM.out.names _ (List.getElem_mem hlt))
      have HTS := Lib.hid (take_snoc hlt)
      have HLL := Lib.hid (show ls.length ≤ 1000000 by have := congrArg List.length HMP.out; rw [List.length_map, List.length_take] at this; omega)
      generalize t.nodes[k] = n at *
      generalize t.nodes.take k = tk at *
      clear hat hnd hB
      go_wp2_with (first
        | ((with_reducible show wpList _ _ _ _ _ wr); refine wpList_load_agg rfl 34 _ rfl b (off + k * 6) rfl xs HAT.out _ Tryd.underlying34 rfl (by rw [HNL.out]; exact infoNode) ?_; go_frame)
        | ((with_reducible show wpList _ _ _ _ _ wr); refine wpList_allocS rfl 34 rfl nodeZ nodeZero ?_; intro g5 w5 hk1 hb1 hg1; go_frame; have C5 := Lib.hid hk1; have B5 := Lib.hid hb1; have G5 := Lib.hid hg1; clear hk1 hb1 hg1)
        | ((with_reducible show wpList _ _ _ _ _ w5); refine wpList_storeS rfl 34 _ _ rfl g5 rfl xs nodeZ rfl C5.out (by rw [HNL.out]; rfl) HND.out.one (by rw [HNL.out]; exact infoNode) ?_; intro w6 hk2 ht2; go_frame; have C6 := Lib.hid hk2; have B6 := Lib.hid (show Below wr.heap.size wr w6 from below_turn B5.out ht2 B5.out.size G5.out); clear hk2 ht2)
        | ((with_reducible show wpList _ _ _ _ _ w6); refine wpList_loadS rfl 34 _ rfl g5 rfl xs C6.out _ Tryd.underlying34 rfl (by rw [HNL.out]; exact infoNode) ?_; go_frame)
        | fail)
      refine (copyNode_v n xs F w6 (HND.out.below B6.out) HL.out.1 HL.out.2.1 HL.out.2.2).mono ?_
      rintro e w7 ⟨ds, rfl, ⟨dv, ev, rfl, hd1, hd2, hd3⟩, hb⟩
      have HD := Lib.hid (show NdO w7 w6.heap.size (fun q => w6.heap.size ≤ q ∧ q < w7.heap.size) (ndC n dv ev) n from ⟨dv, ev, rfl, hd1, hd2, hd3⟩)
      have B67 := Lib.hid hb
      have B7 := Lib.hid (below_chain B6.out hb)
      clear hd1 hd2 hd3 hb
      go_wp2_with (first
        | ((with_reducible show wpList _ _ _ _ _ w7); refine wpList_buildNd rfl _ rfl n dv ev rfl ?_; intro g8 w8 hk1 hb1 hg1; go_frame; have C8 := Lib.hid hk1; have B78 := Lib.hid hb1; have B8 := Lib.hid (below_chain B7.out hb1); have BB8 := Lib.hid (below_chain HB.out (below_chain B7.out hb1)); have G8 := Lib.hid hg1; clear hk1 hb1 hg1)
        | (at_builtin; refine wpList_append_x1 (E := nodeO w.heap.size) rfl _ _ rfl w.heap.size (fun q => w.heap.size ≤ q ∧ q ≠ g1 ∧ q ≠ g2) _ ls rfl (HO.out.below B8.out) g8 1 rfl (ndC n dv ev) (n, fun q => w6.heap.size ≤ q ∧ q < w7.heap.size) ?_ _ C8.out (by have := HLL.out; omega) BB8.out.size ⟨BB8.out.size, by have := D1.out.lt; have := B8.out.size; omega, by have := D2.out.lt; have := B8.out.size; omega⟩ ?_)
        | fail)
      · have h1 := B6.out.size
        have h2 := BB8.out.size
        have h3 := HB.out.size
        have h4 := D1.out.lt
        have h5 := D2.out.lt
        have hown := HO.out.lt
        have hh := NdO.turn (N := w6.heap.size) HD.out (Turn.of_below B78.out fun _ => False) fun _ _ h => h
        obtain ⟨dv', ev', e1, e2, e3, e4⟩ := hh
        exact NdO.mono (F := fun q => w6.heap.size ≤ q ∧ q < w7.heap.size) (show NdO w8 w.heap.size _ _ n from ⟨dv', ev', e1, e2, e3.base (by omega), e4⟩) fun q _ hq => ⟨⟨⟨by omega, by omega, by omega⟩, fun e => by have := (hown q e).2; omega⟩, hq⟩
      · intro v9 w9 ho hg
        have O9 := Lib.hid ho
        have B9 := Lib.hid (show Below w.heap.size w w9 from BB8.out.grown hg BB8.out.size fun q e => (HO.out.sub q e).1)
        have E1 := Lib.hid ((D1.out.below B8.out D1.out.lt).turn (Turn.of_grown hg) fun e => (HO.out.sub _ e).2.1 rfl)
        have E2 := Lib.hid ((D2.out.below B8.out D2.out.lt).turn (Turn.of_grown hg) fun e => (HO.out.sub _ e).2.2 rfl)
        have S9 := Lib.hid (show w8.heap.size ≤ w9.heap.size from hg.size)
        have K1 := Lib.hid D1.out.lt
        have K2 := Lib.hid D2.out.lt
        clear ho hg
        go_wp2_with fail
        go_roundw
        case rel =>
          have h1 := B6.out.size
          have h2 := B67.out.size
          have h3 := B78.out.size
          have h4 := S9.out
          have h5 := HB.out.size
          have h6 := K1.out
          have h7 := K2.out
          refine ⟨k + 1, ls ++ [(n, fun q => w6.heap.size ≤ q ∧ q < w7.heap.size)], by go_num, hlt, O9.out, by rw [HTS.out, List.map_append, HMP.out]; rfl, apart_snoc HAP.out fun p hp q hq => ?_, fun p hp q hq => ?_, B9.out, E1.out, E2.out⟩
          · have := HSU.out p hp q hq.1
            have := hq.2.1
            omega
          · rw [List.mem_append, List.mem_singleton] at hp
            rcases hp with hp | rfl
            · have := HSU.out p hp q hq
              exact ⟨this.1, by omega, this.2.2⟩
            · have := hq.1
              have := hq.2
              exact ⟨by omega, by omega, by omega, by omega⟩
        case measure => simp [RowKit.intOf]; omega
    · obtain rfl : k = t.nodes.length := by omega
      rw [List.take_length] at HMP
      have ON := Lib.hid HO.out.one
      clear hB
      go_wp2_with (first
        | ((with_reducible show wpList _ _ _ _ _ wr); refine wpList_store1 rfl 23 _ _ rfl g1 0 rfl u3 rfl ON.out infoNs1 _ _ D1.out (by rw [List.size_toArray, HCN.out]; decide) ?_; intro w6 hk2 ht2; go_frame; have E6 := Lib.hid (show Cs w6 g1 31 (cl u3 b0 b1 b2 b3).toArray by rw [HCL.out] at hk2 ⊢; exact hk2); have T6 := Lib.hid ht2; clear hk2 ht2)
        | fail)
      have W6 := Lib.hid (show w.heap.size ≤ w6.heap.size from Nat.le_trans HB.out.size T6.out.size)
      have L1 := Lib.hid (show g1 < w6.heap.size from E6.out.lt)
      have F1 := Lib.hid (show ∀ q, F q → q ≠ g1 from fun q hq => by have := HFF.out q hq; have := G1.out; omega)
      have P0 := Lib.hid (show BsV w6 (SesF w6.heap.size F 0 0) b0 x0.2.2 from ((HB0.out.turn (Turn.of_below HB.out fun _ => False) fun _ _ h => h).turn T6.out F1.out).mono fun q _ h => .inr ⟨by decide, h⟩)
      have P1 := Lib.hid (show BsV w6 (SesF w6.heap.size F 1 0) b1 x1.2.2 from ((HB1.out.turn (Turn.of_below HB.out fun _ => False) fun _ _ h => h).turn T6.out F1.out).mono fun q _ h => .inr ⟨by decide, h⟩)
      have P2 := Lib.hid (show BsV w6 (SesF w6.heap.size F 2 0) b2 x2.2.2 from ((HB2.out.turn (Turn.of_below HB.out fun _ => False) fun _ _ h => h).turn T6.out F1.out).mono fun q _ h => .inr ⟨by decide, h⟩)
      have P3 := Lib.hid (show BsV w6 (SesF w6.heap.size F 3 0) b3 x3.2.2 from ((HB3.out.turn (Turn.of_below HB.out fun _ => False) fun _ _ h => h).turn T6.out F1.out).mono fun q _ h => .inr ⟨by decide, h⟩)
      go_loopw [22] (fun j wz => ∃ (k : Nat) (y0 y1 y2 y3 : Value), j = .int .i64 k ∧ k ≤ 4 ∧ Cs wz g1 31 (cl u3 y0 y1 y2 y3).toArray ∧ BsV wz (SesF w6.heap.size F 0 k) y0 x0.2.2 ∧ BsV wz (SesF w6.heap.size F 1 k) y1 x1.2.2 ∧ BsV wz (SesF w6.heap.size F 2 k) y2 x2.2.2 ∧ BsV wz (SesF w6.heap.size F 3 k) y3 x3.2.2 ∧ Turn w6 wz (· = g1)) (fun j _ => 4 - (RowKit.intOf j).toNat)
      case atStart => exact ⟨0, b0, b1, b2, b3, rfl, by decide, E6.out, P0.out, P1.out, P2.out, P3.out, Turn.refl _ _⟩
      case round =>
        obtain ⟨k, y0, y1, y2, y3, rfl, hk4, hc, h0, h1, h2, h3, ht⟩ := hrel
        have HC := Lib.hid hc
        have HY0 := Lib.hid h0
        have HY1 := Lib.hid h1
        have HY2 := Lib.hid h2
        have HY3 := Lib.hid h3
        have HT := Lib.hid ht
        have HSF := Lib.hid (show ∀ j k q, SesF w6.heap.size F j k q → q ≠ g1 from fun j k q hq => by
          rcases hq with ⟨-, hq⟩ | ⟨-, hq⟩
          · have := L1.out; omega
          · exact F1.out q hq)
        clear hc h0 h1 h2 h3 ht
        have hcase : k = 0 ∨ k = 1 ∨ k = 2 ∨ k = 3 ∨ k = 4 := by omega
        rcases hcase with rfl | rfl | rfl | rfl | rfl
        · obtain ⟨AK, cK, rfl, hrk, hnk, -⟩ := HY0.out
          have HRK := Lib.hid hrk.rd
          have HNK := Lib.hid hnk
          have q0 : wr.cell? ⟨g1, 6, none⟩ = some (.slice AK x0.2.2.length cK) := HC.out.cell 6 (by rw [HCL.out]; rfl)
          clear hrk hnk
          go_wp2_with fail
          refine (Clone_ty x0.2.2 AK cK wr HX0.out HRK.out HNK.out).mono ?_
          rintro e w7 ⟨v, rfl, hbs, -, -, hb⟩
          have BS := Lib.hid hbs
          have BK := Lib.hid hb
          have BV := Lib.hid hbs.one
          have C7 := Lib.hid (HC.out.below hb HC.out.lt)
          have BSZ := Lib.hid hb.size
          clear hbs hb q0
          go_wp2_with (first
            | ((with_reducible show wpList _ _ _ _ _ w7); refine wpList_store1 rfl 26 _ _ rfl g1 6 rfl v rfl BV.out infoBs1 _ _ C7.out (by rw [List.size_toArray, HCN.out]; decide) ?_; intro w8 hk2 ht2; go_frame; have E8 := Lib.hid (show Cs w8 g1 31 (cl u3 v y1 y2 y3).toArray by rw [HCL.out] at hk2 ⊢; exact hk2); have TZ := Lib.hid ht2; clear hk2 ht2)
            | fail)
          have BS0 := Lib.hid (show BsV w8 (wr.heap.size ≤ ·) v x0.2.2 from BS.out.turn TZ.out fun q hq e => by have := HC.out.lt; have h9 : wr.heap.size ≤ q := hq; omega)
          go_roundw
          case rel => exact ⟨1, v, y1, y2, y3, by go_num, by decide, E8.out, (BS0.out.mono fun q _ h => .inl ⟨by decide, Nat.le_trans HT.out.size h⟩), (((HY1.out.turn (Turn.of_below BK.out fun _ => False) fun _ _ h => h).turn TZ.out fun q hq => HSF.out _ _ q hq).mono fun q _ h => SesF.next (by decide) h), (((HY2.out.turn (Turn.of_below BK.out fun _ => False) fun _ _ h => h).turn TZ.out fun q hq => HSF.out _ _ q hq).mono fun q _ h => SesF.next (by decide) h), (((HY3.out.turn (Turn.of_below BK.out fun _ => False) fun _ _ h => h).turn TZ.out fun q hq => HSF.out _ _ q hq).mono fun q _ h => SesF.next (by decide) h), (HT.out.trans (Turn.of_below BK.out _) fun _ _ h => h).trans TZ.out fun _ _ h => h⟩
          case measure => simp [RowKit.intOf]
        · obtain ⟨AK, cK, rfl, hrk, hnk, -⟩ := HY1.out
          have HRK := Lib.hid hrk.rd
          have HNK := Lib.hid hnk
          have q0 : wr.cell? ⟨g1, 9, none⟩ = some (.slice AK x1.2.2.length cK) := HC.out.cell 9 (by rw [HCL.out]; rfl)
          clear hrk hnk
          go_wp2_with fail
          refine (Clone_ty x1.2.2 AK cK wr HX1.out HRK.out HNK.out).mono ?_
          rintro e w7 ⟨v, rfl, hbs, -, -, hb⟩
          have BS := Lib.hid hbs
          have BK := Lib.hid hb
          have BV := Lib.hid hbs.one
          have C7 := Lib.hid (HC.out.below hb HC.out.lt)
          have BSZ := Lib.hid hb.size
          clear hbs hb q0
          go_wp2_with (first
            | ((with_reducible show wpList _ _ _ _ _ w7); refine wpList_store1 rfl 26 _ _ rfl g1 9 rfl v rfl BV.out infoBs1 _ _ C7.out (by rw [List.size_toArray, HCN.out]; decide) ?_; intro w8 hk2 ht2; go_frame; have E8 := Lib.hid (show Cs w8 g1 31 (cl u3 y0 v y2 y3).toArray by rw [HCL.out] at hk2 ⊢; exact hk2); have TZ := Lib.hid ht2; clear hk2 ht2)
            | fail)
          have BS0 := Lib.hid (show BsV w8 (wr.heap.size ≤ ·) v x1.2.2 from BS.out.turn TZ.out fun q hq e => by have := HC.out.lt; have h9 : wr.heap.size ≤ q := hq; omega)
          go_roundw
          case rel => exact ⟨2, y0, v, y2, y3, by go_num, by decide, E8.out, (((HY0.out.turn (Turn.of_below BK.out fun _ => False) fun _ _ h => h).turn TZ.out fun q hq => HSF.out _ _ q hq).mono fun q _ h => SesF.next (by decide) h), (BS0.out.mono fun q _ h => .inl ⟨by decide, Nat.le_trans HT.out.size h⟩), (((HY2.out.turn (Turn.of_below BK.out fun _ => False) fun _ _ h => h).turn TZ.out fun q hq => HSF.out _ _ q hq).mono fun q _ h => SesF.next (by decide) h), (((HY3.out.turn (Turn.of_below BK.out fun _ => False) fun _ _ h => h).turn TZ.out fun q hq => HSF.out _ _ q hq).mono fun q _ h => SesF.next (by decide) h), (HT.out.trans (Turn.of_below BK.out _) fun _ _ h => h).trans TZ.out fun _ _ h => h⟩
          case measure => simp [RowKit.intOf]
        · obtain ⟨AK, cK, rfl, hrk, hnk, -⟩ := HY2.out
          have HRK := Lib.hid hrk.rd
          have HNK := Lib.hid hnk
          have q0 : wr.cell? ⟨g1, 12, none⟩ = some (.slice AK x2.2.2.length cK) := HC.out.cell 12 (by rw [HCL.out]; rfl)
          clear hrk hnk
          go_wp2_with fail
          refine (Clone_ty x2.2.2 AK cK wr HX2.out HRK.out HNK.out).mono ?_
          rintro e w7 ⟨v, rfl, hbs, -, -, hb⟩
          have BS := Lib.hid hbs
          have BK := Lib.hid hb
          have BV := Lib.hid hbs.one
          have C7 := Lib.hid (HC.out.below hb HC.out.lt)
          have BSZ := Lib.hid hb.size
          clear hbs hb q0
          go_wp2_with (first
            | ((with_reducible show wpList _ _ _ _ _ w7); refine wpList_store1 rfl 26 _ _ rfl g1 12 rfl v rfl BV.out infoBs1 _ _ C7.out (by rw [List.size_toArray, HCN.out]; decide) ?_; intro w8 hk2 ht2; go_frame; have E8 := Lib.hid (show Cs w8 g1 31 (cl u3 y0 y1 v y3).toArray by rw [HCL.out] at hk2 ⊢; exact hk2); have TZ := Lib.hid ht2; clear hk2 ht2)
            | fail)
          have BS0 := Lib.hid (show BsV w8 (wr.heap.size ≤ ·) v x2.2.2 from BS.out.turn TZ.out fun q hq e => by have := HC.out.lt; have h9 : wr.heap.size ≤ q := hq; omega)
          go_roundw
          case rel => exact ⟨3, y0, y1, v, y3, by go_num, by decide, E8.out, (((HY0.out.turn (Turn.of_below BK.out fun _ => False) fun _ _ h => h).turn TZ.out fun q hq => HSF.out _ _ q hq).mono fun q _ h => SesF.next (by decide) h), (((HY1.out.turn (Turn.of_below BK.out fun _ => False) fun _ _ h => h).turn TZ.out fun q hq => HSF.out _ _ q hq).mono fun q _ h => SesF.next (by decide) h), (BS0.out.mono fun q _ h => .inl ⟨by decide, Nat.le_trans HT.out.size h⟩), (((HY3.out.turn (Turn.of_below BK.out fun _ => False) fun _ _ h => h).turn TZ.out fun q hq => HSF.out _ _ q hq).mono fun q _ h => SesF.next (by decide) h), (HT.out.trans (Turn.of_below BK.out _) fun _ _ h => h).trans TZ.out fun _ _ h => h⟩
          case measure => simp [RowKit.intOf]
        · obtain ⟨AK, cK, rfl, hrk, hnk, -⟩ := HY3.out
          have HRK := Lib.hid hrk.rd
          have HNK := Lib.hid hnk
          have q0 : wr.cell? ⟨g1, 15, none⟩ = some (.slice AK x3.2.2.length cK) := HC.out.cell 15 (by rw [HCL.out]; rfl)
          clear hrk hnk
          go_wp2_with fail
          refine (Clone_ty x3.2.2 AK cK wr HX3.out HRK.out HNK.out).mono ?_
          rintro e w7 ⟨v, rfl, hbs, -, -, hb⟩
          have BS := Lib.hid hbs
          have BK := Lib.hid hb
          have BV := Lib.hid hbs.one
          have C7 := Lib.hid (HC.out.below hb HC.out.lt)
          have BSZ := Lib.hid hb.size
          clear hbs hb q0
          go_wp2_with (first
            | ((with_reducible show wpList _ _ _ _ _ w7); refine wpList_store1 rfl 26 _ _ rfl g1 15 rfl v rfl BV.out infoBs1 _ _ C7.out (by rw [List.size_toArray, HCN.out]; decide) ?_; intro w8 hk2 ht2; go_frame; have E8 := Lib.hid (show Cs w8 g1 31 (cl u3 y0 y1 y2 v).toArray by rw [HCL.out] at hk2 ⊢; exact hk2); have TZ := Lib.hid ht2; clear hk2 ht2)
            | fail)
          have BS0 := Lib.hid (show BsV w8 (wr.heap.size ≤ ·) v x3.2.2 from BS.out.turn TZ.out fun q hq e => by have := HC.out.lt; have h9 : wr.heap.size ≤ q := hq; omega)
          go_roundw
          case rel => exact ⟨4, y0, y1, y2, v, by go_num, by decide, E8.out, (((HY0.out.turn (Turn.of_below BK.out fun _ => False) fun _ _ h => h).turn TZ.out fun q hq => HSF.out _ _ q hq).mono fun q _ h => SesF.next (by decide) h), (((HY1.out.turn (Turn.of_below BK.out fun _ => False) fun _ _ h => h).turn TZ.out fun q hq => HSF.out _ _ q hq).mono fun q _ h => SesF.next (by decide) h), (((HY2.out.turn (Turn.of_below BK.out fun _ => False) fun _ _ h => h).turn TZ.out fun q hq => HSF.out _ _ q hq).mono fun q _ h => SesF.next (by decide) h), (BS0.out.mono fun q _ h => .inl ⟨by decide, Nat.le_trans HT.out.size h⟩), (HT.out.trans (Turn.of_below BK.out _) fun _ _ h => h).trans TZ.out fun _ _ h => h⟩
          case measure => simp [RowKit.intOf]
        · have E2 := Lib.hid ((D2.out.turn T6.out N12.out.symm).turn HT.out N12.out.symm)
          have CLO := Lib.hid (show ∀ q ∈ cl u3 y0 y1 y2 y3, q.oneCell' = true by
            intro q hq
            rw [HCL.out] at hq
            simp [trC, sesC] at hq
            rcases hq with rfl | rfl | rfl | rfl | rfl | rfl | rfl | rfl | rfl | rfl | rfl | rfl | rfl | rfl | rfl | rfl
            all_goals first | rfl | exact ON.out | exact HY0.out.one | exact HY1.out.one | exact HY2.out.one | exact HY3.out.one)
          go_wp2_with (first
            | ((with_reducible show wpList _ _ _ _ _ wr); refine wpList_loadS rfl 31 _ rfl g1 rfl (cl u3 y0 y1 y2 y3) HC.out _ Tryd.underlying31 rfl (by rw [HCN.out]; exact infoTree) ?_; go_frame)
            | ((with_reducible show wpList _ _ _ _ _ wr); refine wpList_storeS rfl 31 _ _ rfl g2 rfl (cl u3 y0 y1 y2 y3) treeZ rfl E2.out (by rw [HCN.out]; rfl) CLO.out (by rw [HCN.out]; exact infoTree) ?_; intro w8 hk2 ht2; go_frame; have E8 := Lib.hid hk2; have T8 := Lib.hid ht2; clear hk2 ht2)
            | fail)
          refine bodyPost_ret (results_agg (P := Tryd.prog) (p := 2) (ty := 31) rfl _ _ g2 0 (cl u3 y0 y1 y2 y3) rfl (At.whole E8.out) _ Tryd.underlying31 rfl (by rw [HCN.out]; exact infoTree)) rfl ?_
          have TT : Turn w6 w8 (fun q => q = g1 ∨ q = g2) := (HT.out.mono fun q _ h => Or.inl h).trans (T8.out.mono fun q _ h => Or.inr h) fun _ _ h => h
          have s6 := T6.out.size
          have sT := TT.size
          have s8 := T8.out.size
          have sr := HT.out.size
          have l2 := D2.out.lt
          have l1 := L1.out
          have gg := G1.out
          have gg2 := G2.out
          have hBw := HB.out.size
          have hy : ∀ (j : Nat) (y : Value) (l : List UInt8), j < 4 → BsV wr (SesF w6.heap.size F j 4) y l → BsV w8 (fun q => w6.heap.size ≤ q ∧ q < w8.heap.size) y l := fun j y l hj hb => by
            have k1 : BsV wr (fun q => w6.heap.size ≤ q ∧ q < wr.heap.size) y l := hb.mono fun q hq h => by
              rcases h with ⟨-, h⟩ | ⟨h, -⟩
              · exact ⟨h, hq⟩
              · exact absurd hj h
            exact (k1.turn T8.out fun q hq e => by have := hq.1; omega).mono fun q hq h => ⟨h.1, hq⟩
          refine ⟨u3, sesC x0 y0 ++ sesC x1 y1 ++ sesC x2 y2 ++ sesC x3 y3, ls, fun q => w6.heap.size ≤ q ∧ q < w8.heap.size, by rw [HCL.out], ⟨?_, HMP.out, HAP.out, fun p hp q hq => ?_, ?_, fun q hq => ⟨by have := hq.1; omega, hq.2, fun e => ?_, fun p hp hpq => ?_⟩, ⟨HL4.out, rfl⟩, HBG.out⟩, ?_⟩
          · exact ((HO.out.turn T6.out fun q hq e => hq.2.1 e).turn TT fun q hq e => e.elim hq.2.1 hq.2.2).mono fun q _ hq => hq.1
          · have := HSU.out p hp q hq
            exact ⟨this.1, by omega⟩
          · rw [HSE.out]
            exact ses_four (hy 0 _ _ (by decide) HY0.out) (hy 1 _ _ (by decide) HY1.out) (hy 2 _ _ (by decide) HY2.out) (hy 3 _ _ (by decide) HY3.out) HNM.out
          · have := (HO.out.lt q e).2
            have := hq.1
            omega
          · have := HSU.out p hp q hpq
            have := hq.1
            omega
          · exact (HB.out.trans (T6.out.below HB.out.size fun q e => by omega)).trans (TT.below (by omega) fun q e => by rcases e with e | e <;> omega)
end Go.Proofs.YtenpmbfncnepgaaDoor

/- The program: lastChange, change, sized. -/
namespace Go.Proofs.YtenpmbfncnepgaaDoor
open Go.RowKit Go.Shelf
set_option linter.unusedVariables false
set_option maxRecDepth 100000
set_option linter.unusedSimpArgs false

theorem infoU64 : (Tryd.prog.info? 25).map (·.size) = some 1 := by kernel_rfl
theorem infoU32c : (Tryd.prog.info? 24).map (·.size) = some 1 := by kernel_rfl
set_option maxHeartbeats 2000000 in
theorem lastChange_v (cs : List Value) (boot count : Nat) (w : World) (hb : boot < 4294967296) (hc : count < 4294967296) (h2 : cs[2]? = some (.int .u32 (boot : Int))) (h3 : cs[3]? = some (.int .u32 (count : Int))) :
    Calls Tryd.prog 51 #[.agg cs.toArray] w fun e w' => e = .returned (.int .u64 ((boot * 4294967296 + count : Nat) : Int)) ∧ Below w.heap.size w w' := by
  have H2 := Lib.hid h2
  have H3 := Lib.hid h3
  have i1 := Lib.hid (show (boot : Int) < 4294967296 by omega)
  have i2 := Lib.hid (show (count : Int) < 4294967296 by omega)
  have j1 : IntKind.u64.wrap ((boot : Int) * 4294967296) = (boot : Int) * 4294967296 := IntWalk.u64_in _ (by omega)
  have j2 : IntKind.u64.wrap ((boot : Int) * 4294967296 + (count : Int)) = (boot : Int) * 4294967296 + (count : Int) := IntWalk.u64_in _ (by omega)
  have j3 : IntKind.u64.wrap (boot : Int) = boot := IntWalk.u64_in _ (by omega)
  have j4 : IntKind.u64.wrap (count : Int) = count := IntWalk.u64_in _ (by omega)
  clear h2 h3
  go_enter Tryd.func51, Tryd.ntmps51
  go_wp2_with (first
    | ((with_reducible show wpList _ _ _ _ _ w); refine wpList_boxS rfl 31 _ rfl cs rfl ?_; intro g1 w1 hk1 hb1 hg1; go_frame; have q2 : w1.cell? ⟨g1, 2, none⟩ = some (.int .u32 (boot : Int)) := hk1.cell 2 (by simpa using H2.out); have q3 : w1.cell? ⟨g1, 3, none⟩ = some (.int .u32 (count : Int)) := hk1.cell 3 (by simpa using H3.out); have B1 := Lib.hid hb1; clear hk1 hb1 hg1)
    | fail)
  go_ret
  exact ⟨by simp, B1.out⟩

/-! ### change -/
def stampS (b st : Nat) (cur : Array Value) (p : Nat × Nat) : Array Value := if p.1 = b then cur.setIfInBounds (p.2 + 3) (.int .u64 (st : Int)) else cur
def stampA (b st : Nat) (ps : List (Nat × Nat)) (cur : Array Value) : Array Value := ps.foldl (stampS b st) cur
theorem stampS_size (b st : Nat) (cur : Array Value) (p : Nat × Nat) : (stampS b st cur p).size = cur.size := by
  unfold stampS
  split <;> simp
theorem stampA_size (b st : Nat) : ∀ (ps : List (Nat × Nat)) (cur : Array Value), (stampA b st ps cur).size = cur.size
  | [], _ => rfl
  | p :: r, cur => (stampA_size b st r (stampS b st cur p)).trans (stampS_size b st cur p)
theorem stampA_snoc (b st : Nat) (ps : List (Nat × Nat)) (p : Nat × Nat) (cur : Array Value) : stampA b st (ps ++ [p]) cur = stampS b st (stampA b st ps cur) p := by
  unfold stampA
  rw [List.foldl_append]
  rfl
structure ChgI (w w' : World) (B vb st : Nat) (c1 : List Value) (ps qs : List (Nat × Nat)) : Prop where
  box : Cs w' B 31 c1.toArray
  ptrs : Cs w' vb 51 (ps.map fun p => Value.pointer (some ⟨p.1, p.2, none⟩)).toArray
  turn : Turn w w' (fun q => q = B ∨ ∃ p ∈ ps, q = p.1)
  blk : ∀ b ty cur, b ≠ B → Cs w b ty cur → Cs w' b ty (stampA b st qs cur)
set_option maxHeartbeats 8000000 in
theorem change_v (cs : List Value) (boot count B vb : Nat) (ps : List (Nat × Nat)) (w : World) (hB : Cs w B 31 cs.toArray) (hl : cs.length = 16) (h2 : cs[2]? = some (.int .u32 (boot : Int))) (h3 : cs[3]? = some (.int .u32 (count : Int))) (hbt : boot < 4294967296) (hct : count + 1 < 4294967296)
    (hv : Cs w vb 51 (ps.map fun p => Value.pointer (some ⟨p.1, p.2, none⟩)).toArray) (hlen : ps.length ≤ 1000) (hvB : vb ≠ B) (hp : ∀ p ∈ ps, p.1 ≠ B ∧ p.1 ≠ vb ∧ ∃ ty cur, Cs w p.1 ty cur ∧ p.2 + 3 < cur.size) :
    Calls Tryd.prog 26 #[.pointer (some ⟨B, 0, none⟩), .slice (some ⟨vb, 0, none⟩) ps.length ps.length] w fun e w' => e = .returned (.tuple #[]) ∧ ChgI w w' B vb (boot * 4294967296 + (count + 1)) (cs.set 3 (.int .u32 ((count + 1 : Nat) : Int))) ps ps := by
  have HB := Lib.hid hB
  have HV := Lib.hid hv
  have HP := Lib.hid hp
  have HVB := Lib.hid hvB
  have q3 : w.cell? ⟨B, 3, none⟩ = some (.int .u32 (count : Int)) := hB.cell 3 (by simpa using h3)
  obtain ⟨c1, hc1⟩ : ∃ c1, c1 = cs.set 3 (.int .u32 ((count + 1 : Nat) : Int)) := ⟨_, rfl⟩
  have HC1 := Lib.hid hc1
  have HL1 := Lib.hid (show c1.length = 16 by rw [hc1, List.length_set, hl])
  have H12 := Lib.hid (show c1[2]? = some (.int .u32 (boot : Int)) by rw [hc1, List.getElem?_set_ne (by decide)]; exact h2)
  have H13 := Lib.hid (show c1[3]? = some (.int .u32 ((count + 1 : Nat) : Int)) by rw [hc1]; simp [hl])
  have HO1 := Lib.hid (show cs.length = 16 from hl)
  have i1 : (count : Int) + 1 ≤ 4294967295 := by omega
  have HBT := Lib.hid hbt
  have HCT := Lib.hid hct
  obtain ⟨st, hst⟩ : ∃ st, st = boot * 4294967296 + (count + 1) := ⟨_, rfl⟩
  have HST := Lib.hid hst
  have jw : IntKind.u32.wrap ((count : Int) + 1) = (count : Int) + 1 := IntWalk.u32_in _ (by omega)
  rw [← hc1, ← hst]
  have HEQ := Lib.hid (show (cs.toArray.setIfInBounds 3 (.int .u32 ((count : Int) + 1))) = c1.toArray by rw [hc1]; simp)
  clear hB hv hp hvB hc1 hl h2 h3 hst hbt hct
  go_enter Tryd.func26, Tryd.ntmps26
  go_wp2_with (first
    | ((with_reducible show wpList _ _ _ _ _ w); refine wpList_store1 rfl 24 _ _ rfl B 3 rfl (.int .u32 ((count : Int) + 1)) rfl rfl infoU32c _ _ HB.out (by rw [List.size_toArray, HO1.out]; decide) ?_; intro w1 hk2 ht2; go_frame; have B1 := Lib.hid (show Cs w1 B 31 c1.toArray by rw [HEQ.out] at hk2; exact hk2); have T1 := Lib.hid ht2; clear hk2 ht2)
    | fail)
  go_loopw [15] (fun j wr => ∃ k : Nat, j = .int .i64 k ∧ k ≤ ps.length ∧ ChgI w wr B vb st c1 ps (ps.take k)) (fun j _ => ps.length - (RowKit.intOf j).toNat)
  case atStart => exact ⟨0, rfl, Nat.zero_le _, ⟨B1.out, HV.out.turn T1.out HVB.out, T1.out.mono fun q _ h => .inl h, fun b ty cur hb hc => hc.turn T1.out hb⟩⟩
  case round =>
    obtain ⟨k, rfl, hk, hI⟩ := hrel
    have HI := Lib.hid hI
    clear hI
    by_cases hlt : k < ps.length
    · have q0 : wr.cell? ⟨vb, k, none⟩ = some (.pointer (some ⟨ps[k].1, ps[k].2, none⟩)) := HI.out.ptrs.cell k (by simp [hlt])
      have HTS := Lib.hid (take_snoc hlt)
      have HPK := Lib.hid (HP.out _ (List.getElem_mem hlt))
      have HMM := Lib.hid (List.getElem_mem hlt)
      obtain ⟨hpB, hpv, ty, cur, hcur, hsz⟩ := HP.out _ (List.getElem_mem hlt)
      have HCU := Lib.hid (HI.out.blk _ ty cur hpB hcur)
      have HSZ := Lib.hid (show ps[k].2 + 3 < (stampA ps[k].1 st (ps.take k) cur).size by rw [stampA_size]; exact hsz)
      generalize ps[k] = p at *
      clear hpB hpv hcur hsz
      obtain ⟨pb, po⟩ := p
      dsimp only at *
      go_wp2_with (first
        | ((with_reducible show wpList _ _ _ _ _ wr); refine wpList_loadS rfl 31 _ rfl B rfl c1 HI.out.box _ Tryd.underlying31 rfl (by rw [HL1.out]; exact infoTree) ?_; go_frame)
        | fail)
      have hlc := lastChange_v c1 boot (count + 1) wr HBT.out HCT.out H12.out H13.out
      rw [← HST.out] at hlc
      refine hlc.mono ?_
      clear hlc
      rintro e w5 ⟨rfl, hb⟩
      have B5 := Lib.hid hb
      have CU5 := Lib.hid (HCU.out.below hb HCU.out.lt)
      clear hb q0
      go_wp2_with (first
        | ((with_reducible show wpList _ _ _ _ _ w5); refine wpList_store1 rfl 25 _ _ rfl pb (po + 3) rfl (.int .u64 (st : Int)) rfl rfl infoU64 _ _ CU5.out HSZ.out ?_; intro w6 hk2 ht2; go_frame; have T6 := Lib.hid ht2; have C6 := Lib.hid hk2; clear hk2 ht2)
        | fail)
      go_roundw
      case rel =>
        refine ⟨k + 1, by go_num, hlt, ⟨(HI.out.box.below B5.out HI.out.box.lt).turn T6.out HPK.out.1.symm, (HI.out.ptrs.below B5.out HI.out.ptrs.lt).turn T6.out HPK.out.2.1.symm, ((HI.out.turn.trans (Turn.of_below B5.out _) fun _ _ h => h).trans T6.out fun q _ e => .inr ⟨_, HMM.out, e⟩), fun b ty' cur' hb hc => ?_⟩⟩
        rw [HTS.out, stampA_snoc]
        have h5 := (HI.out.blk b ty' cur' hb hc)
        have h6 := h5.below B5.out h5.lt
        unfold stampS
        split
        · rename_i e
          dsimp only at e
          subst e
          have e1 : (some (Obj.cells (stampA pb st (ps.take k) cur') ty' (0, 0)) : Option Obj) = some (Obj.cells (stampA pb st (ps.take k) cur) ty (0, 0)) := h6.symm.trans CU5.out
          injection e1 with e1
          injection e1 with e1 e2
          subst e2
          rw [e1]
          exact C6.out
        · rename_i e
          exact h6.turn T6.out fun e2 => e (by rw [e2])
      case measure => simp [RowKit.intOf]; omega
    · obtain rfl : k = ps.length := by omega
      go_wp2_with fail
      first
        | (refine bodyPost_ret (results_none rfl _ _ _) rfl ?_; exact ⟨rfl, by have := HI.out; rw [List.take_length] at this; exact this⟩)
        | (go_end0; exact ⟨rfl, by have := HI.out; rw [List.take_length] at this; exact this⟩)

end Go.Proofs.YtenpmbfncnepgaaDoor

/- The program: sized, setEntry, cutEntry, cutNode. -/
namespace Go.Proofs.YtenpmbfncnepgaaDoor
open Go.RowKit Go.Shelf
set_option linter.unusedVariables false
set_option maxRecDepth 100000
set_option linter.unusedSimpArgs false

/-! ### bytes laid over bytes -/
def zsB (k : Nat) : List UInt8 := List.replicate k 0
def layB (b : List UInt8) (f : Nat) (d : List UInt8) : List UInt8 := b.take f ++ d ++ b.drop (f + d.length)
theorem mkzB (k : Nat) (hk : k ≤ 100000) (W : World) : (Instr.makeSlice 26 (.int .i64 (k : Int)) (.int .i64 (k : Int))).run Tryd.prog W = .ok (.slice (some ⟨W.heap.size, 0, none⟩) k k) (W.alloc (.cells (cellsOf (zsB k)).toArray 5)) := by
  obtain ⟨i0, hi, hz0, hz1, hz2⟩ := info_parts Try_info5
  have h := run_make (P := Tryd.prog) W 26 5 i0 (.int .u8 0) Tryd.underlying26 hi hz0 .i64 .i64 (k : Int) (k : Int) (by omega) (Int.le_refl _) (by rw [hz2]; omega) (by omega)
  rw [h, hz1]
  simp only [Int.toNat_natCast, Nat.mul_one]
  congr 3
  apply Array.ext
  · simp [zsB, cellsOf, size_madeCells]
  · intro j h1 h2
    simp [madeCells, zsB, cellsOf, Value.cells, Nat.mod_one]
theorem run_copyB (w : World) (g f n dc m sc : Nat) (A : Option Addr) (t : TypeId) (b l : List UInt8) (hm : l.length = m) (hr : Rd w A l) (hg : Cs w g t (cellsOf b).toArray) (hfit : f + min n m ≤ b.length) (ty : TypeId) :
    ∃ w', (Builtin.copy_ #[26, 26] ty #[.slice (some ⟨g, f, none⟩) n dc, .slice A m sc]).run Tryd.prog w = .ok (.int .i64 (min n m : Nat)) w' ∧ Cs w' g t (cellsOf (layB b f (l.take n))).toArray ∧ Turn w w' (· = g) := by
  subst hm
  by_cases h0 : min n l.length = 0
  · refine ⟨w, ?_, ?_, Turn.refl _ _⟩
    · have := run_copy_none (P := Tryd.prog) w 26 26 ty 5 (some ⟨g, f, none⟩) A n dc l.length sc Tryd.underlying26 (by kernel_rfl) (by rw [Nat.min_comm] at h0; exact h0)
      rw [this, h0]
      rfl
    · have e : l.take n = [] := by
        rcases Nat.eq_zero_or_pos n with h | h
        · rw [h]; rfl
        · have : l.length = 0 := by omega
          rw [List.eq_nil_of_length_eq_zero this]; simp
      rw [e]
      unfold layB
      simp only [List.append_nil, List.length_nil, Nat.add_zero, List.take_append_drop]
      exact hg
  · rcases hr with rfl | ⟨sb, so, rfl, hc⟩
    · simp at h0
    · have hlen : (cellsOf (l.take n)).length = min n l.length := by rw [cellsOf_length, List.length_take]
      have hrun := run_copy_row (P := Tryd.prog) w 26 26 ty 5 g f n dc ⟨sb, so, none⟩ l.length sc (cellsOf b).toArray t (cellsOf (l.take n)) Tryd.underlying26 (by kernel_rfl) hg (by rw [hlen]; exact Nat.min_comm _ _)
        (fun j v hv => by
          have hj : j < l.length := by
            have := (List.getElem?_eq_some_iff.1 hv).1
            rw [hlen] at this
            omega
          have hjn : j < n := by
            have := (List.getElem?_eq_some_iff.1 hv).1
            rw [hlen] at this
            omega
          rw [addr_add, hc j hj]
          simp only [cellsOf, List.getElem?_map, List.getElem?_take_of_lt hjn, List.getElem?_eq_getElem hj, Option.map_some] at hv
          exact hv) (by rw [hlen]; simpa [cellsOf_length] using hfit) (cellsOf_one _)
      rw [hlen] at hrun
      refine ⟨_, hrun, ?_, turn_row _ _ _⟩
      have e : ((cellsOf b).toArray.toList.take f ++ cellsOf (l.take n) ++ (cellsOf b).toArray.toList.drop (f + min n l.length)).toArray = (cellsOf (layB b f (l.take n))).toArray := by
        unfold layB cellsOf
        rw [List.length_take]
        simp [List.map_append, List.map_take, List.map_drop]
      rw [e]
      exact hg.row _
theorem res_lay (l : List UInt8) (n : Nat) : layB (zsB n) 0 (l.take n) = resB l n := by
  unfold layB zsB resB padB
  rw [List.take_zero, List.nil_append, Nat.zero_add, List.drop_replicate, List.length_take]
  rcases Nat.le_total n l.length with h | h
  · rw [Nat.min_eq_left h, Nat.sub_self, Nat.sub_eq_zero_of_le h]
    simp
  · rw [Nat.min_eq_right h, List.take_of_length_le h, List.take_of_length_le (by simp; omega)]
/-- bytes of one's own, known whole -/
def OwnB (w w' : World) (v : Value) (l : List UInt8) : Prop := ∃ g, v = .slice (some ⟨g, 0, none⟩) l.length l.length ∧ w.heap.size ≤ g ∧ Cs w' g 5 (cellsOf l).toArray
theorem OwnB.bs {w w' : World} {v : Value} {l : List UInt8} (h : OwnB w w' v l) (hl : l.length ≤ maxLen) : BsV w' (fun q => w.heap.size ≤ q) v l := by
  obtain ⟨g, rfl, h1, h2⟩ := h
  refine ⟨some ⟨g, 0, none⟩, l.length, rfl, .inr ⟨g, 0, rfl, h1, fun j hj => ?_⟩, (fun e => by cases e), Nat.le_refl _, hl⟩
  rw [Nat.zero_add]
  exact h2.cell j (by simp [cellsOf, List.getElem?_eq_getElem hj])
set_option maxHeartbeats 2000000 in
theorem sized_v (l : List UInt8) (A : Option Addr) (c n : Nat) (w : World) (hn : n ≤ 100000) (hl : l.length ≤ 100000) (hr : Rd w A l) :
    Calls Tryd.prog 29 #[.slice A l.length c, .int .i64 (n : Int)] w fun e w' => (∃ v, e = .returned v ∧ OwnB w w' v (resB l n)) ∧ Below w.heap.size w w' := by
  have hmk := mkzB n hn w
  obtain ⟨w1, hw1⟩ : ∃ w1, w1 = w.alloc (.cells (cellsOf (zsB n)).toArray 5) := ⟨_, rfl⟩
  have hb1 : Below w.heap.size w w1 := by rw [hw1]; exact (Below.refl _ _).alloc (Nat.le_refl _) _
  have hc1 : Cs w1 w.heap.size 5 (cellsOf (zsB n)).toArray := by rw [hw1]; exact Cs.new _ _ _
  rw [← hw1] at hmk
  obtain ⟨w2, hcp, hc2, ht2⟩ := run_copyB w1 w.heap.size 0 n n l.length c A 5 (zsB n) l rfl (hr.below hb1) hc1 (by simp [zsB]; omega) 3
  obtain ⟨g1, hg1⟩ : ∃ g1, g1 = w.heap.size := ⟨_, rfl⟩
  rw [← hg1] at hmk hc1 hcp hc2 ht2
  have HMK := Lib.hid hmk
  have HCP := Lib.hid hcp
  have HC2 := Lib.hid hc2
  have HT2 := Lib.hid ht2
  have HB1 := Lib.hid hb1
  have HG1 := Lib.hid hg1
  clear hw1 hb1 hc1 hmk hcp hc2 ht2 hg1 hr
  have iN : (n : Int) ≤ 100000 := by omega
  go_enter Tryd.func29, Tryd.ntmps29
  have hq := HMK.out
  go_wp2_with (first
    | (refine wpList_copy_run rfl _ _ 26 26 rfl _ _ rfl rfl HCP.out ?_; go_frame)
    | fail)
  clear hq
  go_ret
  refine ⟨⟨_, rfl, g1, ?_, by rw [HG1.out]; exact Nat.le_refl _, ?_⟩, HB1.out.trans (HT2.out.below HB1.out.size fun q e => by rw [e, HG1.out]; exact Nat.le_refl _)⟩
  · rw [resB_len]
    rfl
  · have := HC2.out
    rw [res_lay] at this
    exact this

end Go.Proofs.YtenpmbfncnepgaaDoor

/- The program: setEntry, cutEntry, cutNode. -/
namespace Go.Proofs.YtenpmbfncnepgaaDoor
open Go.RowKit Go.Shelf
set_option linter.unusedVariables false
set_option maxRecDepth 100000
set_option linter.unusedSimpArgs false

/-! ### a name more, a name less, plain -/
theorem filter_split {α : Type} {p : α → Bool} {l : List α} {i : Nat} (h1 : ∀ j (h : j < l.length), j < i → p l[j] = true) (h2 : ∀ j (h : j < l.length), i ≤ j → p l[j] = false) : l.filter p = l.take i ∧ l.filter (fun x => !p x) = l.drop i := by
  have e := List.take_append_drop i l
  have k1 : ∀ x ∈ l.take i, p x = true := fun x hx => by
    obtain ⟨j, hj, rfl⟩ := List.getElem_of_mem hx
    rw [List.length_take] at hj
    rw [List.getElem_take]
    exact h1 j (by omega) (by omega)
  have k2 : ∀ x ∈ l.drop i, p x = false := fun x hx => by
    obtain ⟨j, hj, rfl⟩ := List.getElem_of_mem hx
    rw [List.length_drop] at hj
    rw [List.getElem_drop]
    exact h2 (i + j) (by omega) (by omega)
  constructor
  · conv => lhs; rw [← e]
    rw [List.filter_append, List.filter_eq_self.2 k1, List.filter_eq_nil_iff.2 (fun x hx => by rw [k2 x hx]; decide), List.append_nil]
  · conv => lhs; rw [← e]
    rw [List.filter_append, List.filter_eq_nil_iff.2 (fun x hx => by rw [k1 x hx]; decide), List.filter_eq_self.2 (fun x hx => by rw [k2 x hx]; rfl), List.nil_append]
/-- a name leads to a node -/
def setE (l : List Ent) (nm : Key) (x : Nat) : List Ent := withE (lessE l nm) (nm, x)
theorem setE_new {l : List Ent} {nm : Key} {i x : Nat} (h : PlacedE l nm i false) : l.take i ++ (nm, x) :: l.drop i = setE l nm x := by
  unfold setE
  rw [lessE_none (h.no rfl)]
  unfold withE
  obtain ⟨e1, e2⟩ := filter_split (p := fun y : Ent => lessK y.1 nm) h.lo h.hi
  rw [e1, e2]
theorem lessE_cut {l : List Ent} (hs : SortE l) {nm : Key} {i : Nat} (h : PlacedE l nm i true) : lessE l nm = l.take i ++ l.drop (i + 1) ∧ l.eraseIdx i = lessE l nm := by
  obtain ⟨hi, h1, -⟩ := h.yes rfl
  have e : l = l.take i ++ l[i] :: l.drop (i + 1) := by rw [← List.drop_eq_getElem_cons hi, List.take_append_drop]
  have k : lessE l nm = l.take i ++ l.drop (i + 1) := by
    unfold lessE
    conv => lhs; rw [e]
    rw [List.filter_append, List.filter_cons, if_neg (by simp [h1])]
    congr 1
    · refine List.filter_eq_self.2 fun x hx => ?_
      obtain ⟨j, hj, rfl⟩ := List.getElem_of_mem hx
      rw [List.length_take] at hj
      rw [List.getElem_take]
      simpa using lessK_ne (h.lo j (by omega) (by omega))
    · refine List.filter_eq_self.2 fun x hx => ?_
      obtain ⟨j, hj, rfl⟩ := List.getElem_of_mem hx
      rw [List.length_drop] at hj
      rw [List.getElem_drop]
      have := List.pairwise_iff_getElem.1 hs i (i + 1 + j) hi (by omega) (by omega)
      rw [h1] at this
      simpa using (lessK_ne this).symm
  exact ⟨k, by rw [k, List.eraseIdx_eq_take_drop_succ]⟩
theorem setE_old {l : List Ent} (hs : SortE l) {nm : Key} {i x : Nat} (h : PlacedE l nm i true) : l.set i (nm, x) = setE l nm x := by
  obtain ⟨hi, h1, -⟩ := h.yes rfl
  obtain ⟨k, -⟩ := lessE_cut hs h
  unfold setE withE
  rw [k, List.filter_append, List.filter_append]
  have a1 : (l.take i).filter (fun y : Ent => lessK y.1 nm) = l.take i := List.filter_eq_self.2 fun y hy => by
    obtain ⟨j, hj, rfl⟩ := List.getElem_of_mem hy
    rw [List.length_take] at hj
    rw [List.getElem_take]
    exact h.lo j (by omega) (by omega)
  have a2 : (l.take i).filter (fun y : Ent => !lessK y.1 nm) = [] := List.filter_eq_nil_iff.2 fun y hy => by
    obtain ⟨j, hj, rfl⟩ := List.getElem_of_mem hy
    rw [List.length_take] at hj
    rw [List.getElem_take, h.lo j (by omega) (by omega)]
    decide
  have a3 : (l.drop (i + 1)).filter (fun y : Ent => lessK y.1 nm) = [] := List.filter_eq_nil_iff.2 fun y hy => by
    obtain ⟨j, hj, rfl⟩ := List.getElem_of_mem hy
    rw [List.length_drop] at hj
    rw [List.getElem_drop, h.hi (i + 1 + j) (by omega) (by omega)]
    decide
  have a4 : (l.drop (i + 1)).filter (fun y : Ent => !lessK y.1 nm) = l.drop (i + 1) := List.filter_eq_self.2 fun y hy => by
    obtain ⟨j, hj, rfl⟩ := List.getElem_of_mem hy
    rw [List.length_drop] at hj
    rw [List.getElem_drop, h.hi (i + 1 + j) (by omega) (by omega)]
    rfl
  rw [a1, a2, a3, a4, List.append_nil, List.nil_append, List.set_eq_take_append_cons_drop, if_pos hi]
/-- what becomes of a directory's names -/
def EntRet (g o N : Nat) (Fn : Nat → Prop) (nv : Value) (cur : Array Value) (l : List Ent) (w : World) (e : Ending) (w' : World) : Prop := e = .returned (.tuple #[]) ∧ ∃ nv', nv'.oneCell' = true ∧ Cs w' g 34 (cur.setIfInBounds (o + 5) nv') ∧ OwnX entE w' N Fn nv' l ∧ Turn w w' (fun q => q = g ∨ nv.ownBlock = some q)
theorem set_same {cur : Array Value} {i : Nat} {v : Value} (h : cur[i]? = some v) : cur.setIfInBounds i v = cur := by
  apply Array.ext_getElem?
  intro j
  by_cases e : j = i
  · subst e
    rw [h, Array.getElem?_setIfInBounds_self_of_lt (Array.getElem?_eq_some_iff.1 h).1]
  · rw [Array.getElem?_setIfInBounds_ne (Ne.symm e)]
set_option maxHeartbeats 8000000 in
theorem setEntry_v (g o N : Nat) (nm : Key) (x : Nat) (l : List Ent) (nv : Value) (Fn : Nat → Prop) (cur : Array Value) (w : World) (hg : Cs w g 34 cur) (h5 : cur[o + 5]? = some nv) (ho : OwnX entE w N Fn nv l) (hs : SortE l) (hFn : ∀ k, w.heap.size ≤ k → Fn k) (hng : ¬ Fn g) (hl : l.length ≤ 1000) (hnm : nm.length ≤ 1000000) (hx : x < 4294967296) (hN : N ≤ w.heap.size) :
    Calls Tryd.prog 25 #[.pointer (some ⟨g, o, none⟩), sv nm, .int .u32 (x : Int)] w fun e w' => EntRet g o N Fn nv cur (setE l nm x) w e w' := by
  obtain ⟨A, c, rfl, hr, hlc, hcm, hnil⟩ := ho.form
  have hmix : Tryd.prog.follows .mixedOrders = true := by kernel_rfl
  have HG := Lib.hid hg
  have HO := Lib.hid ho
  have HS := Lib.hid hs
  have HF := Lib.hid hFn
  have HNG := Lib.hid hng
  have H5 := Lib.hid h5
  have HR := Lib.hid hr
  have HX := Lib.hid hx
  have HNN := Lib.hid hN
  have HLC := Lib.hid hlc
  have q5 : w.cell? ⟨g, o + 5, none⟩ = some (.slice A l.length c) := hg.cell (o + 5) h5
  have iln : (l.length : Int) ≤ 1000 := by omega
  clear hg h5 ho hs hFn hng hr hx hN hcm hnil hlc
  go_enter Tryd.func25, Tryd.ntmps25
  go_wp2_with fail
  refine (entry_v l nm g o A c Fn w (by omega) HS.out HR.out q5).mono ?_
  rintro e w1 ⟨⟨i, b, rfl, hp⟩, hb⟩
  have HP := Lib.hid hp
  have B1 := Lib.hid hb
  have G1 := Lib.hid (HG.out.below hb HG.out.lt)
  have O1 := Lib.hid (HO.out.below hb)
  have HI := Lib.hid hp.le
  clear hp hb q5
  cases b
  · have HSE := Lib.hid (setE_new (x := x) HP.out)
    go_wp2_with fail
    refine wp_region_V [11, 14] (fun u => Cs u g 34 cur ∧ OwnX entE u N Fn (Value.slice A l.length c) l ∧ Below w.heap.size w u) hmix (⟨G1.out.drew, O1.out.below (Below.refl _ _).drew, B1.out.drew⟩) ?_
    change wpAnyV _ _ _ _ _ _ _ _ _
    refine wpAnyV_pure (i := 0) (v := .pointer (some ⟨g, o, none⟩)) (kept_and (kept_cs _ _ _) (kept_and (kept_own _ _ _ _ _) (kept_below _))) rfl (by kernel_rfl) (by kernel_rfl) (fun _ _ _ h => h) (DoesV.reads (by rfl) fun w9 hS => by go_simp) ?_
    try simp only [List.getElem_toArray, List.getElem_cons_succ, List.getElem_cons_zero, Act.put, List.setIfInBounds_toArray, List.set_cons_succ, List.set_cons_zero]
    refine wpAnyV_take (i := 1) (v := .pointer (some ⟨g, o, none⟩)) 12 (kept_and (kept_cs _ _ _) (kept_and (kept_own _ _ _ _ _) (kept_below _))) rfl (by kernel_rfl) (by kernel_rfl) (fun _ _ _ h => h) (fun _ h => h) (DoesV.reads (by rfl) fun w9 hS => by go_simp) ?_
    try simp only [List.getElem_toArray, List.getElem_cons_succ, List.getElem_cons_zero, Act.put, List.setIfInBounds_toArray, List.set_cons_succ, List.set_cons_zero]
    refine wpAnyV_take (i := 2) (v := .pointer (some ⟨g, o, none⟩)) 12 (kept_and (kept_cs _ _ _) (kept_and (kept_own _ _ _ _ _) (kept_below _))) rfl (by kernel_rfl) (by kernel_rfl) (fun _ _ _ h => h) (fun _ h => h) (DoesV.reads (by rfl) fun w9 hS => by go_simp) ?_
    try simp only [List.getElem_toArray, List.getElem_cons_succ, List.getElem_cons_zero, Act.put, List.setIfInBounds_toArray, List.set_cons_succ, List.set_cons_zero]
    refine wpAnyV_take (i := 3) (v := .pointer (some ⟨g, o + 5, none⟩)) 12 (kept_and (kept_cs _ _ _) (kept_and (kept_own _ _ _ _ _) (kept_below _))) rfl (by kernel_rfl) (by kernel_rfl) (fun _ _ _ h => h) (fun _ h => h) (DoesV.reads (by rfl) fun w9 hS => by go_simp) ?_
    try simp only [List.getElem_toArray, List.getElem_cons_succ, List.getElem_cons_zero, Act.put, List.setIfInBounds_toArray, List.set_cons_succ, List.set_cons_zero]
    refine wpAnyV_take (i := 4) (v := Value.slice A l.length c) 12 (kept_and (kept_cs _ _ _) (kept_and (kept_own _ _ _ _ _) (kept_below _))) rfl (by kernel_rfl) (by kernel_rfl) (fun _ _ _ h => h) (fun _ h => h) (DoesV.reads (by rfl) fun w9 hS => by have q0 : w9.cell? ⟨g, o + 5, none⟩ = some (Value.slice A l.length c) := hS.1.cell (o + 5) H5.out; go_simp) ?_
    try simp only [List.getElem_toArray, List.getElem_cons_succ, List.getElem_cons_zero, Act.put, List.setIfInBounds_toArray, List.set_cons_succ, List.set_cons_zero]
    refine wpAnyV_pure (i := 5) (v := .int .i64 (i : Int)) (kept_and (kept_cs _ _ _) (kept_and (kept_own _ _ _ _ _) (kept_below _))) rfl (by kernel_rfl) (by kernel_rfl) (fun _ _ _ h => h) (DoesV.reads (by rfl) fun w9 hS => by go_simp) ?_
    try simp only [List.getElem_toArray, List.getElem_cons_succ, List.getElem_cons_zero, Act.put, List.setIfInBounds_toArray, List.set_cons_succ, List.set_cons_zero]
    refine wpAnyV_pure (i := 6) (v := sv nm) (kept_and (kept_cs _ _ _) (kept_and (kept_own _ _ _ _ _) (kept_below _))) rfl (by kernel_rfl) (by kernel_rfl) (fun _ _ _ h => h) (DoesV.reads (by rfl) fun w9 hS => by go_simp) ?_
    try simp only [List.getElem_toArray, List.getElem_cons_succ, List.getElem_cons_zero, Act.put, List.setIfInBounds_toArray, List.set_cons_succ, List.set_cons_zero]
    refine wpAnyV_pure (i := 8) (v := .int .u32 (x : Int)) (kept_and (kept_cs _ _ _) (kept_and (kept_own _ _ _ _ _) (kept_below _))) rfl (by kernel_rfl) (by kernel_rfl) (fun _ _ _ h => h) (DoesV.reads (by rfl) fun w9 hS => by go_simp) ?_
    try simp only [List.getElem_toArray, List.getElem_cons_succ, List.getElem_cons_zero, Act.put, List.setIfInBounds_toArray, List.set_cons_succ, List.set_cons_zero]
    refine wpAnyV_only (i := 7) rfl (by kernel_rfl) rfl (fun u hS => wp_of_call (by go_simp) (CloneS_v nm u hnm) fun e u' ⟨he, hb⟩ => ⟨_, he, fun u => Cs u g 34 cur ∧ OwnX entE u N Fn (Value.slice A l.length c) l ∧ Below w.heap.size w u, (kept_and (kept_cs _ _ _) (kept_and (kept_own _ _ _ _ _) (kept_below _))) _ _ hS hb, kept_and (kept_cs _ _ _) (kept_and (kept_own _ _ _ _ _) (kept_below _)), fun _ _ h => h, ?_⟩)
    try simp only [List.getElem_toArray, List.getElem_cons_succ, List.getElem_cons_zero, Act.put, List.setIfInBounds_toArray, List.set_cons_succ, List.set_cons_zero]
    refine wpAnyV_only (i := 9) rfl (by kernel_rfl) rfl (fun u hS => wp_of_run2 (v := .agg ([sv nm, .int .u32 (x : Int)] : List Value).toArray) (by simp only [sv]; go_simp) ⟨_, hS, kept_and (kept_cs _ _ _) (kept_and (kept_own _ _ _ _ _) (kept_below _)), fun _ _ h => h, ?_⟩)
    try simp only [List.getElem_toArray, List.getElem_cons_succ, List.getElem_cons_zero, Act.put, List.setIfInBounds_toArray, List.set_cons_succ, List.set_cons_zero]
    refine wpAnyV_only (i := 10) rfl (by kernel_rfl) rfl (fun u hS => wp_of_run2 (v := .slice (some ⟨u.heap.size, 0, none⟩) 1 1) (w' := u.alloc (.cells ([sv nm, .int .u32 (x : Int)] : List Value).toArray 84)) (by go_simp) ⟨fun z => (fun u => Cs u g 34 cur ∧ OwnX entE u N Fn (Value.slice A l.length c) l ∧ Below w.heap.size w u) z ∧ Cs z u.heap.size 84 ([sv nm, .int .u32 (x : Int)] : List Value).toArray ∧ w.heap.size ≤ u.heap.size, ⟨(kept_and (kept_cs _ _ _) (kept_and (kept_own _ _ _ _ _) (kept_below _))) _ _ hS ((Below.refl _ _).alloc (Nat.le_refl _) _), Cs.new _ _ _, hS.2.2.size⟩, kept_and (kept_and (kept_cs _ _ _) (kept_and (kept_own _ _ _ _ _) (kept_below _))) (kept_and (kept_cs _ _ _) (fun _ _ h _ => h)), fun _ _ h => h.1, ?_⟩)
    try simp only [List.getElem_toArray, List.getElem_cons_succ, List.getElem_cons_zero, Act.put, List.setIfInBounds_toArray, List.set_cons_succ, List.set_cons_zero]
    refine wpAnyV_only (i := 11) rfl (by kernel_rfl) rfl (fun u hS => wp_of_call (by go_simp) (Insert_en N Fn (Value.slice A l.length c) i l _ [sv nm, .int .u32 (x : Int)] (nm, x) u hS.1.2.1 HI.out (fun e => absurd hS.2.2 (Nat.not_le_of_lt (HO.out.lt _ e).2)) hS.2.1 ⟨rfl, HX.out⟩ (fun k hk => HF.out k (Nat.le_trans hS.1.2.2.size hk)) (Nat.le_trans HNN.out hS.1.2.2.size) (by omega)) fun e u' hu => ?_)
    try simp only [List.getElem_toArray, List.getElem_cons_succ, List.getElem_cons_zero, Act.put, List.setIfInBounds_toArray, List.set_cons_succ, List.set_cons_zero]
    obtain ⟨v3, he, ho3, ht3⟩ := hu
    refine ⟨v3, he, fun z => Cs z g 34 cur ∧ OwnX entE z N Fn v3 (l.take i ++ (nm, x) :: l.drop i) ∧ Turn w z (fun k => (Value.slice A l.length c).ownBlock = some k), ⟨hS.1.1.turn ht3 (fun e => HNG.out (HO.out.sub _ e)), ho3, (Turn.of_below hS.1.2.2 _).trans ht3 fun _ _ h => h⟩, kept_and (kept_cs _ _ _) (kept_and (kept_own _ _ _ _ _) (kept_turn _ _)), fun h => absurd (by decide : (11 : Nat) ∈ [11, 14]) h, ?_⟩
    try simp only [List.getElem_toArray, List.getElem_cons_succ, List.getElem_cons_zero, Act.put, List.setIfInBounds_toArray, List.set_cons_succ, List.set_cons_zero]
    refine wpAnyV_only (i := 12) rfl (by kernel_rfl) rfl (fun u hS => wp_of_run2 (v := .pointer (some ⟨g, o, none⟩)) (by go_simp) ⟨_, hS, kept_and (kept_cs _ _ _) (kept_and (kept_own _ _ _ _ _) (kept_turn _ _)), fun _ _ h => h, ?_⟩)
    try simp only [List.getElem_toArray, List.getElem_cons_succ, List.getElem_cons_zero, Act.put, List.setIfInBounds_toArray, List.set_cons_succ, List.set_cons_zero]
    refine wpAnyV_only (i := 13) rfl (by kernel_rfl) rfl (fun u hS => wp_of_run2 (v := .pointer (some ⟨g, o + 5, none⟩)) (by go_simp) ⟨_, hS, kept_and (kept_cs _ _ _) (kept_and (kept_own _ _ _ _ _) (kept_turn _ _)), fun _ _ h => h, ?_⟩)
    try simp only [List.getElem_toArray, List.getElem_cons_succ, List.getElem_cons_zero, Act.put, List.setIfInBounds_toArray, List.set_cons_succ, List.set_cons_zero]
    refine wpAnyV_only (i := 14) rfl (by kernel_rfl) rfl (fun u hS => wp_store1 32 _ _ rfl g (o + 5) rfl v3 rfl hS.2.1.one infoEn1 _ _ hS.1 (Array.getElem?_eq_some_iff.1 H5.out).1 fun u' hk ht => ⟨fun z => Cs z g 34 (cur.setIfInBounds (o + 5) v3) ∧ OwnX entE z N Fn v3 (l.take i ++ (nm, x) :: l.drop i) ∧ Turn w z (fun k => k = g ∨ (Value.slice A l.length c).ownBlock = some k), ⟨hk, hS.2.1.turn ht (fun k hk2 e => HNG.out (e ▸ hk2)), (hS.2.2.mono fun _ _ h => .inr h).trans ht fun _ _ h => .inl h⟩, kept_and (kept_cs _ _ _) (kept_and (kept_own _ _ _ _ _) (kept_turn _ _)), fun h => absurd (by decide : (14 : Nat) ∈ [11, 14]) h, ?_⟩)
    try simp only [List.getElem_toArray, List.getElem_cons_succ, List.getElem_cons_zero, Act.put, List.setIfInBounds_toArray, List.set_cons_succ, List.set_cons_zero]
    refine wpAnyV_done (by kernel_rfl) (fun z hz => ?_) _
    have CZ := Lib.hid hz.1
    have OZ := Lib.hid hz.2.1
    have TZ := Lib.hid hz.2.2
    clear hz
    go_wp2_with fail
    go_end0
    exact ⟨rfl, v3, OZ.out.one, CZ.out, by rw [← HSE.out]; exact OZ.out, TZ.out⟩
  · obtain ⟨hi, hi1, -⟩ := HP.out.yes rfl
    have HSE := Lib.hid (setE_old (x := x) HS.out HP.out)
    obtain ⟨gb, hA⟩ : ∃ gb, (Value.slice A l.length c : Value) = .slice (some ⟨gb, 0, none⟩) l.length c ∧ N ≤ gb ∧ Fn gb := by
      obtain ⟨gb, c2, e, h1, h2⟩ := HO.out.shape (fun e => by rw [e] at hi; simp at hi)
      injection e with e1 e2 e3
      exact ⟨gb, by rw [e1], h1, h2⟩
    obtain ⟨hA, hgb1, hgb2⟩ := hA
    injection hA with hA
    subst hA
    obtain ⟨cb, hcb, -, -, -, -, hcs, -⟩ := O1.out.cur
    have HCB := Lib.hid (show Cs w1 gb 84 cb from hcb)
    have hsz : i * 2 + 1 < cb.size := by rw [hcs]; show i * 2 + 1 < c * 2; have := HLC.out; omega
    have q5 : w1.cell? ⟨g, o + 5, none⟩ = some (.slice (some ⟨gb, 0, none⟩) l.length c) := G1.out.cell (o + 5) H5.out
    have NGB := Lib.hid (show g ≠ gb from fun e => HNG.out (e ▸ hgb2))
    have HK := Lib.hid (show l[i].1 = nm from hi1)
    have HFB := Lib.hid hgb2
    clear hcb hcs hgb1 hgb2 hi1
    go_wp2_with (first
      | ((with_reducible show wpList _ _ _ _ _ w1); refine wpList_store1 rfl 24 _ _ rfl gb (i * 2 + 1) rfl (.int .u32 (x : Int)) rfl rfl infoU32c _ _ HCB.out hsz ?_; intro w2 hk2 ht2; go_frame; have C2 := Lib.hid hk2; have T2 := Lib.hid ht2; clear hk2 ht2)
      | fail)
    have C2' : Cs w2 gb entE.ety (cb.setIfInBounds (i * entE.n + 1) (.int .u32 (x : Int))) := C2.out
    have hown := OwnX.setc (E := entE) (F' := Fn) O1.out HCB.out (j := i) (f := 1) (y := (nm, x)) hi (by decide) C2' HFB.out (fun k hk e cs h => h) (fun cs h => ⟨by rw [h.1]; show [sv l[i].1, .int .u32 (x : Int)] = [sv nm, .int .u32 (x : Int)]; rw [HK.out], HX.out⟩)
    rw [HSE.out] at hown
    have hG2 := G1.out.turn T2.out NGB.out
    go_end0
    exact ⟨rfl, _, rfl, by rw [set_same H5.out]; exact hG2, hown, (Turn.of_below B1.out _).trans (T2.out.mono fun _ _ e => .inr (by rw [e]; rfl)) fun _ _ h => h⟩

set_option maxHeartbeats 8000000 in
theorem cutEntry_v (g o N : Nat) (nm : Key) (y : Nat) (l : List Ent) (nv : Value) (Fn : Nat → Prop) (cur : Array Value) (w : World) (hg : Cs w g 34 cur) (h5 : cur[o + 5]? = some nv) (ho : OwnX entE w N Fn nv l) (hs : SortE l) (hng : ¬ Fn g) (hl : l.length ≤ 1000) (hy : (nm, y) ∈ l) :
    Calls Tryd.prog 56 #[.pointer (some ⟨g, o, none⟩), sv nm] w fun e w' => EntRet g o N Fn nv cur (lessE l nm) w e w' := by
  obtain ⟨gb, c, rfl, hgb1, hgb2⟩ := ho.shape (fun e => by rw [e] at hy; cases hy)
  obtain ⟨m, hm⟩ : ∃ m, l.length = m + 1 := ⟨l.length - 1, by have := List.length_pos_of_mem hy; omega⟩
  obtain ⟨cb, -, -, -, -, -, -, -⟩ := ho.cur
  have hr : RdX entE w Fn (some ⟨gb, 0, none⟩) l := by
    obtain ⟨A, c', e, h1, -⟩ := ho.form
    injection e with e1
    rw [e1]
    exact h1
  have HG := Lib.hid hg
  have HO := Lib.hid ho
  have HS := Lib.hid hs
  have HNG := Lib.hid hng
  have H5 := Lib.hid h5
  have HR := Lib.hid hr
  have HFB := Lib.hid hgb2
  have HM := Lib.hid hm
  have HIN := Lib.hid ((inE_some hs).2 hy)
  have q5 : w.cell? ⟨g, o + 5, none⟩ = some (.slice (some ⟨gb, 0, none⟩) l.length c) := hg.cell (o + 5) h5
  have NGB := Lib.hid (show g ≠ gb from fun e => hng (e ▸ hgb2))
  have iln : (l.length : Int) ≤ 1000 := by omega
  clear hg h5 ho hs hng hr hgb1 hgb2 hm hy
  go_enter Tryd.func56, Tryd.ntmps56
  go_wp2_with fail
  refine (entry_v l nm g o (some ⟨gb, 0, none⟩) c Fn w (by omega) HS.out HR.out q5).mono ?_
  rintro e w1 ⟨⟨i, b, rfl, hp⟩, hb⟩
  have hbt : b = true := by
    cases b
    · have := hp.no rfl
      rw [HIN.out] at this
      cases this
    · rfl
  subst hbt
  have HLE := Lib.hid (lessE_cut HS.out hp).2
  obtain ⟨hi, -, -⟩ := hp.yes rfl
  have B1 := Lib.hid hb
  have G1 := Lib.hid (HG.out.below hb HG.out.lt)
  have O1 := Lib.hid (HO.out.below hb)
  clear hp hb q5
  have hmi : i ≤ m := by have := HM.out; omega
  have hmm : m ≤ 1000000 := by have := HM.out; omega
  have q5 : w1.cell? ⟨g, o + 5, none⟩ = some (.slice (some ⟨gb, 0, none⟩) (m + 1) c) := by rw [G1.out.cell (o + 5) H5.out, HM.out]
  have hdel := Delete_en N Fn gb m c i l w1 HM.out hmi (by have := O1.out; rw [HM.out] at this; exact this) HFB.out hmm
  have HD := Lib.hid hdel
  have iw : IntKind.i64.wrap ((i : Int) + 1) = (i : Int) + 1 := by rw [IntKind.wrap_i64]; omega
  clear hdel hi
  go_wp2_with fail
  refine HD.out.mono ?_
  rintro e w2 ⟨rfl, ho2, ht2⟩
  rw [HLE.out] at ho2
  have O2 := Lib.hid ho2
  have T2 := Lib.hid ht2
  have G2 := Lib.hid (G1.out.turn ht2 NGB.out)
  clear ho2 ht2 q5
  go_wp2_with (first
    | ((with_reducible show wpList _ _ _ _ _ w2); refine wpList_store1 rfl 32 _ _ rfl g (o + 5) rfl (.slice (some ⟨gb, 0, none⟩) m c) rfl rfl infoEn1 _ _ G2.out (Array.getElem?_eq_some_iff.1 H5.out).1 ?_; intro w3 hk2 ht2; go_frame; have G3 := Lib.hid hk2; have T3 := Lib.hid ht2; clear hk2 ht2)
    | fail)
  go_end0
  exact ⟨rfl, _, rfl, G3.out, O2.out.turn T3.out (fun k hk e => HNG.out (e ▸ hk)), ((Turn.of_below B1.out _).trans (T2.out.mono fun _ _ e => Or.inr (by rw [e]; rfl)) fun _ _ h => h).trans T3.out fun _ _ e => .inl e⟩
/-! ### a node less -/
def NodRet (N B : Nat) (F : Nat → Prop) (nv : Value) (c0 : List Value) (ls : List (Nd × Sup)) (w : World) (e : Ending) (w' : World) : Prop := e = .returned (.tuple #[]) ∧ ∃ nv', nv'.oneCell' = true ∧ Cs w' B 31 (c0.set 0 nv').toArray ∧ OwnX (nodeO N) w' N F nv' ls ∧ Turn w w' (fun q => q = B ∨ nv.ownBlock = some q)
theorem cutNode_nil (B : Nat) (w : World) : Calls Tryd.prog 57 #[.pointer (some ⟨B, 0, none⟩), .pointer none] w fun e w' => e = .returned (.tuple #[]) ∧ w = w' := by
  go_enter Tryd.func57, Tryd.ntmps57
  go_wp2_with fail
  first
    | (refine bodyPost_ret (results_none rfl _ _ _) rfl ?_; exact ⟨rfl, rfl⟩)
    | (go_end0; exact ⟨rfl, rfl⟩)
set_option maxHeartbeats 8000000 in
theorem cutNode_v (N B g m c i : Nat) (c0 : List Value) (ls : List (Nd × Sup)) (F : Nat → Prop) (w : World) (hB : Cs w B 31 c0.toArray) (hc0 : c0[0]? = some (.slice (some ⟨g, 0, none⟩) (m + 1) c)) (ho : OwnX (nodeO N) w N F (.slice (some ⟨g, 0, none⟩) (m + 1) c) ls) (hm : ls.length = m + 1) (hml : m ≤ 1000) (hi : i ≤ m) (hs : SortN (ls.map (·.1))) (hFg : F g) (hFB : ¬ F B) :
    Calls Tryd.prog 57 #[.pointer (some ⟨B, 0, none⟩), .pointer (some ⟨g, i * 6, none⟩)] w fun e w' => NodRet N B F (.slice (some ⟨g, 0, none⟩) (m + 1) c) c0 (ls.eraseIdx i) w e w' := by
  have hmix : Tryd.prog.follows .mixedOrders = true := by kernel_rfl
  have hr : RdX nodeE w F (some ⟨g, 0, none⟩) (ls.map (·.1)) := by
    obtain ⟨A, c', e, h1, -⟩ := ho.form
    injection e with e1
    rw [e1]
    exact h1.nd
  have hlm : (ls.map (·.1)).length = m + 1 := by rw [List.length_map, hm]
  obtain ⟨dv, ev, hat, -⟩ := nd_head hr (i := i) (by omega)
  have HAT := Lib.hid (show At w g (i * 6) (ndC (ls.map (·.1))[i] dv ev) by have := hat; rwa [Nat.zero_add] at this)
  have HB := Lib.hid hB
  have H0 := Lib.hid hc0
  have HO := Lib.hid ho
  have HM := Lib.hid hm
  have HS := Lib.hid hs
  have HFG := Lib.hid hFg
  have HFB := Lib.hid hFB
  have HR := Lib.hid hr
  have HLM := Lib.hid hlm
  have NBG := Lib.hid (show B ≠ g from fun e => hFB (e ▸ hFg))
  have iml : (m : Int) ≤ 1000 := by omega
  clear hB hc0 ho hm hs hFg hFB hr hat
  obtain ⟨nl, hnl⟩ : ∃ nl, nl = ls.map (·.1) := ⟨_, rfl⟩
  have HNL := Lib.hid hnl
  rw [← hnl] at HS HR HLM
  have hin : i < nl.length := by rw [HLM.out]; omega
  have HAT2 := Lib.hid (show At w g (i * 6) (ndC nl[i] dv ev) by subst hnl; exact HAT.out)
  have HINO := Lib.hid (show nodeT nl nl[i].ino = some nl[i] from (nodeT_some HS.out).2 ⟨List.getElem_mem hin, rfl⟩)
  have HONE := Lib.hid (show ∀ j (hj : j < nl.length), nl[j].ino = nl[i].ino → j = i from fun j hj e => by
    by_cases k : j = i
    · exact k
    · exact absurd e (ino_ne HS.out hj hin k))
  clear HAT hnl hlm
  generalize hx : nl[i] = x at *
  clear hx
  go_enter Tryd.func57, Tryd.ntmps57
  go_wp2_with fail
  refine wp_region_V [] (Below w.heap.size w) hmix ((Below.refl _ _).drew) ?_
  change wpAnyV _ _ _ _ _ _ _ _ _
  refine wpAnyV_take (i := 0) (v := .pointer (some ⟨B, 0, none⟩)) 12 (kept_below w) rfl (by kernel_rfl) (by kernel_rfl) (fun _ _ _ h => h) (fun _ h => h) (DoesV.reads (by rfl) fun w9 hS => by go_simp) ?_
  try simp only [List.getElem_toArray, List.getElem_cons_succ, List.getElem_cons_zero, Act.put, List.setIfInBounds_toArray, List.set_cons_succ, List.set_cons_zero]
  refine wpAnyV_take (i := 1) (v := .pointer (some ⟨B, 0, none⟩)) 12 (kept_below w) rfl (by kernel_rfl) (by kernel_rfl) (fun _ _ _ h => h) (fun _ h => h) (DoesV.reads (by rfl) fun w9 hS => by go_simp) ?_
  try simp only [List.getElem_toArray, List.getElem_cons_succ, List.getElem_cons_zero, Act.put, List.setIfInBounds_toArray, List.set_cons_succ, List.set_cons_zero]
  refine wpAnyV_take (i := 2) (v := .pointer (some ⟨B, 0, none⟩)) 12 (kept_below w) rfl (by kernel_rfl) (by kernel_rfl) (fun _ _ _ h => h) (fun _ h => h) (DoesV.reads (by rfl) fun w9 hS => by go_simp) ?_
  try simp only [List.getElem_toArray, List.getElem_cons_succ, List.getElem_cons_zero, Act.put, List.setIfInBounds_toArray, List.set_cons_succ, List.set_cons_zero]
  refine wpAnyV_take (i := 3) (v := Value.slice (some ⟨g, 0, none⟩) (m + 1) c) 12 (kept_below w) rfl (by kernel_rfl) (by kernel_rfl) (fun _ _ _ h => h) (fun _ h => h) (DoesV.reads (by rfl) fun w9 hS => by have q0 : w9.cell? ⟨B, 0, none⟩ = some (Value.slice (some ⟨g, 0, none⟩) (m + 1) c) := (HB.out.below hS HB.out.lt).cell 0 (by simpa using H0.out); go_simp) ?_
  try simp only [List.getElem_toArray, List.getElem_cons_succ, List.getElem_cons_zero, Act.put, List.setIfInBounds_toArray, List.set_cons_succ, List.set_cons_zero]
  refine wpAnyV_take (i := 4) (v := .pointer (some ⟨g, i * 6, none⟩)) 12 (kept_below w) rfl (by kernel_rfl) (by kernel_rfl) (fun _ _ _ h => h) (fun _ h => h) (DoesV.reads (by rfl) fun w9 hS => by go_simp) ?_
  try simp only [List.getElem_toArray, List.getElem_cons_succ, List.getElem_cons_zero, Act.put, List.setIfInBounds_toArray, List.set_cons_succ, List.set_cons_zero]
  refine wpAnyV_take (i := 5) (v := .pointer (some ⟨g, i * 6, none⟩)) 12 (kept_below w) rfl (by kernel_rfl) (by kernel_rfl) (fun _ _ _ h => h) (fun _ h => h) (DoesV.reads (by rfl) fun w9 hS => by go_simp) ?_
  try simp only [List.getElem_toArray, List.getElem_cons_succ, List.getElem_cons_zero, Act.put, List.setIfInBounds_toArray, List.set_cons_succ, List.set_cons_zero]
  refine wpAnyV_take (i := 6) (v := .pointer (some ⟨g, i * 6, none⟩)) 12 (kept_below w) rfl (by kernel_rfl) (by kernel_rfl) (fun _ _ _ h => h) (fun _ h => h) (DoesV.reads (by rfl) fun w9 hS => by go_simp) ?_
  try simp only [List.getElem_toArray, List.getElem_cons_succ, List.getElem_cons_zero, Act.put, List.setIfInBounds_toArray, List.set_cons_succ, List.set_cons_zero]
  refine wpAnyV_take (i := 7) (v := .int .u32 (x.ino : Int)) 12 (kept_below w) rfl (by kernel_rfl) (by kernel_rfl) (fun _ _ _ h => h) (fun _ h => h) (DoesV.reads (by rfl) fun w9 hS => by have q0 : w9.cell? ⟨g, i * 6, none⟩ = some (.int .u32 (x.ino : Int)) := (At.tz HAT2.out hS) 0 _ rfl; go_simp) ?_
  try simp only [List.getElem_toArray, List.getElem_cons_succ, List.getElem_cons_zero, Act.put, List.setIfInBounds_toArray, List.set_cons_succ, List.set_cons_zero]
  refine wpAnyV_only (i := 8) rfl (by kernel_rfl) rfl (fun u hS => wp_of_call (f := 35) (args := #[.slice (some ⟨g, 0, none⟩) (m + 1) c, .int .u32 (x.ino : Int)]) (by go_simp) (by have h := place_v nl x.ino (some ⟨g, 0, none⟩) c F u (by rw [HLM.out]; omega) HS.out (HR.out.below hS); rw [HLM.out] at h; exact h) fun e u1 he => ?_)
  obtain ⟨⟨j, b, rfl, hp⟩, hb⟩ := he
  have HP := Lib.hid hp
  clear hp
  have hbt : b = true := by
    cases b
    · have := HP.out.no rfl
      rw [HINO.out] at this
      cases this
    · rfl
  subst hbt
  obtain ⟨hj, hj2, -⟩ := HP.out.yes rfl
  obtain rfl : i = j := (HONE.out j hj hj2).symm
  refine ⟨.tuple #[.int .i64 (i : Int), .bool true], rfl, Below w.heap.size w, below_chain hS hb, kept_below w, fun _ _ h => h, ?_⟩
  try simp only [List.getElem_toArray, List.getElem_cons_succ, List.getElem_cons_zero, Act.put, List.setIfInBounds_toArray, List.set_cons_succ, List.set_cons_zero]
  refine wpAnyV_take (i := 9) (v := .tuple #[.int .i64 (i : Int), .bool true]) 12 (kept_below w) rfl (by kernel_rfl) (by kernel_rfl) (fun _ _ _ h => h) (fun _ h => h) (DoesV.reads (by rfl) fun w9 hS => by go_simp) ?_
  try simp only [List.getElem_toArray, List.getElem_cons_succ, List.getElem_cons_zero, Act.put, List.setIfInBounds_toArray, List.set_cons_succ, List.set_cons_zero]
  refine wpAnyV_take (i := 10) (v := .int .i64 (i : Int)) 12 (kept_below w) rfl (by kernel_rfl) (by kernel_rfl) (fun _ _ _ h => h) (fun _ h => h) (DoesV.reads (by rfl) fun w9 hS => by go_simp) ?_
  try simp only [List.getElem_toArray, List.getElem_cons_succ, List.getElem_cons_zero, Act.put, List.setIfInBounds_toArray, List.set_cons_succ, List.set_cons_zero]
  refine wpAnyV_take (i := 11) (v := .bool true) 12 (kept_below w) rfl (by kernel_rfl) (by kernel_rfl) (fun _ _ _ h => h) (fun _ h => h) (DoesV.reads (by rfl) fun w9 hS => by go_simp) ?_
  try simp only [List.getElem_toArray, List.getElem_cons_succ, List.getElem_cons_zero, Act.put, List.setIfInBounds_toArray, List.set_cons_succ, List.set_cons_zero]
  refine wpAnyV_take (i := 12) (v := .int .i64 (i : Int)) 12 (kept_below w) rfl (by kernel_rfl) (by kernel_rfl) (fun _ _ _ h => h) (fun _ h => h) (DoesV.reads (by rfl) fun w9 hS => by go_simp) ?_
  try simp only [List.getElem_toArray, List.getElem_cons_succ, List.getElem_cons_zero, Act.put, List.setIfInBounds_toArray, List.set_cons_succ, List.set_cons_zero]
  refine wpAnyV_take (i := 13) (v := .bool true) 12 (kept_below w) rfl (by kernel_rfl) (by kernel_rfl) (fun _ _ _ h => h) (fun _ h => h) (DoesV.reads (by rfl) fun w9 hS => by go_simp) ?_
  try simp only [List.getElem_toArray, List.getElem_cons_succ, List.getElem_cons_zero, Act.put, List.setIfInBounds_toArray, List.set_cons_succ, List.set_cons_zero]
  refine wpAnyV_done (by kernel_rfl) (fun w1 hw1 => ?_) _
  have B1 := Lib.hid hw1
  have G1 := Lib.hid (HB.out.below hw1 HB.out.lt)
  have O1 := Lib.hid (HO.out.below hw1)
  have q0 : w1.cell? ⟨B, 0, none⟩ = some (.slice (some ⟨g, 0, none⟩) (m + 1) c) := G1.out.cell 0 (by simpa using H0.out)
  have HD := Lib.hid (Delete_nd N F g m c i ls w1 HM.out hi O1.out HFG.out (by omega))
  have iw : IntKind.i64.wrap ((i : Int) + 1) = (i : Int) + 1 := by rw [IntKind.wrap_i64]; omega
  have H0S := Lib.hid (show 0 < c0.length from (List.getElem?_eq_some_iff.1 H0.out).1)
  clear hw1 hj hj2
  go_wp2_with fail
  refine HD.out.mono ?_
  rintro e w2 ⟨rfl, ho2, ht2⟩
  have O2 := Lib.hid ho2
  have T2 := Lib.hid ht2
  have G2 := Lib.hid (G1.out.turn ht2 NBG.out)
  clear ho2 ht2 q0
  go_wp2_with (first
    | ((with_reducible show wpList _ _ _ _ _ w2); refine wpList_store1 rfl 23 _ _ rfl B 0 rfl (.slice (some ⟨g, 0, none⟩) m c) rfl rfl infoNs1 _ _ G2.out (by simpa using H0S.out) ?_; intro w3 hk2 ht2; go_frame; have G3 := Lib.hid hk2; have T3 := Lib.hid ht2; clear hk2 ht2)
    | fail)
  go_end0
  exact ⟨rfl, _, rfl, by have := G3.out; rwa [List.setIfInBounds_toArray] at this, O2.out.turn T3.out (fun k hk e => HFB.out (e ▸ hk)), ((Turn.of_below B1.out _).trans (T2.out.mono fun _ _ e => Or.inr (by rw [e]; rfl)) fun _ _ h => h).trans T3.out fun _ _ e => .inl e⟩

end Go.Proofs.YtenpmbfncnepgaaDoor
