/- SWEPT -/
import Derived.Test.YtdhlejhflkfoaaaDoorKB10
import Derived.Test.YtdhlejhflkfoaaaDoorKB6
/- The program: the rows of the rest, of a node. -/
namespace Go.Proofs.YtdhlejhflkfoaaaDoor
open Go.RowKit Go.Shelf
set_option linter.unusedVariables false
set_option maxRecDepth 100000
set_option linter.unusedSimpArgs false

theorem conv_sv (k : Key) (hk : k.length ≤ 140737488355328) (w : World) : ∃ W c, (convert 9 25 (sv k)).run Tryd.prog w = .ok (.slice (some ⟨w.heap.size, 0, none⟩) k.length c) W ∧ Below w.heap.size w W ∧ BsV W (w.heap.size ≤ ·) (.slice (some ⟨w.heap.size, 0, none⟩) k.length c) k := by
  obtain ⟨s, hs⟩ : ∃ s : ByteArray, s = ⟨k.toArray⟩ := ⟨_, rfl⟩
  have hsz : s.size = k.length := by rw [hs]; simp [ByteArray.size]
  have hrun := run_bytes_of_string (P := Tryd.prog) w 9 25 5 s Tryd.underlying9 Tryd.underlying25 Tryd.underlying5
  have hge := grownCap_ge w s.size 0 5
  have hle := grownCap_le_maxLen w s.size 0 5 (by unfold maxLen; omega)
  generalize grownCap w s.size 0 5 = c at *
  refine ⟨_, c, by unfold sv; rw [← hs, ← hsz]; exact hrun, ((Below.refl _ _).drew).alloc (Nat.le_refl _) _, some ⟨w.heap.size, 0, none⟩, c, rfl, ?_, (fun h => by cases h), by rw [← hsz]; exact hge, hle⟩
  refine .inr ⟨w.heap.size, 0, rfl, Nat.le_refl _, fun j hj => ?_⟩
  have hw : (w.drew.alloc (.cells (bytesRow s c) 5 ((bytesRow s c).size, (bytesRow s c).size + 1))).heap[w.heap.size]? = some (.cells (bytesRow s c) 5 ((bytesRow s c).size, (bytesRow s c).size + 1)) := World.alloc_heap_new w.drew _
  rw [cell_of_row _ _ _ _ _ _ hw, Nat.zero_add]
  unfold bytesRow
  have hj' : j < s.data.size := by rw [hs]; simpa using hj
  rw [Array.getElem?_append_left (by simpa using hj'), Array.getElem?_map, Array.getElem?_eq_getElem hj']
  subst hs
  simp

set_option maxHeartbeats 8000000 in
theorem rowOfRest_v (t : Tr) (cs : List Value) (F : Nat → Prop) (w : World) (h : TrAt w F cs t) :
    Calls Tryd.prog 25 #[.agg cs.toArray] w fun e w' => RowRet (rstR t) w e w' := by
  have hmix : Tryd.prog.follows .mixedOrders = true := by kernel_rfl
  have HLN := Lib.hid h.len
  obtain ⟨nv, ss, e, -, -, -, -, hb1, hb2, hb3⟩ := h
  have Q1 := Lib.hid (show cs[1]? = some (.int .u32 (t.lastGen : Int)) by rw [e]; rfl)
  have Q2 := Lib.hid (show cs[2]? = some (.int .u32 (t.boot : Int)) by rw [e]; rfl)
  have Q3 := Lib.hid (show cs[3]? = some (.int .u32 (t.count : Int)) by rw [e]; rfl)
  have H1 := Lib.hid hb1
  have H2 := Lib.hid hb2
  have H3 := Lib.hid hb3
  have j1 : IntKind.u64.wrap (t.lastGen : Int) = t.lastGen := by rw [IntKind.wrap_u64]; omega
  have j2 : IntKind.u64.wrap (t.boot : Int) = t.boot := by rw [IntKind.wrap_u64]; omega
  have j3 : IntKind.u64.wrap (t.count : Int) = t.count := by rw [IntKind.wrap_u64]; omega
  clear e hb1 hb2 hb3
  go_enter Tryd.func25, Tryd.ntmps25
  go_wp2_with (first
    | ((with_reducible show wpList _ _ _ _ _ w); refine wpList_boxS rfl 30 _ rfl cs rfl ?_; intro g1 w1 hk1 hb1 hg1; go_frame; have C1 := Lib.hid hk1; have B1 := Lib.hid hb1; clear hk1 hb1 hg1)
    | ((with_reducible show wpList _ _ _ _ _ w1); refine wpList_allocS rfl 41 rfl rowZ rowZero ?_; intro g2 w2 hk1 hb1 hg1; go_frame; have C2 := Lib.hid hk1; have C12 := Lib.hid (C1.out.below hb1 C1.out.lt); have B2 := Lib.hid (below_chain B1.out hb1); have G2 := Lib.hid (Nat.le_trans B1.out.size hg1); clear hk1 hb1 hg1)
    | fail)
  refine wp_region_V [] (fun u => Below w2.heap.size w2 u) hmix ((Below.refl _ _).drew) ?_
  change wpAnyV _ _ _ _ _ _ _ _ _
  refine wpAnyV_take (i := 0) (v := .pointer (some ⟨g1, 1, none⟩)) 20 (kept_below _) rfl (by kernel_rfl) (by kernel_rfl) (fun _ _ _ h => h) (fun _ h => h) (DoesV.reads (by rfl) fun w9 hS => by go_simp) ?_
  try simp only [nrm, Act.put]
  refine wpAnyV_take (i := 1) (v := .int .u32 (t.lastGen : Int)) 20 (kept_below _) rfl (by kernel_rfl) (by kernel_rfl) (fun _ _ _ h => h) (fun _ h => h) (DoesV.reads (by rfl) fun w9 hS => by have q0 : w9.cell? ⟨g1, 1, none⟩ = some (.int .u32 (t.lastGen : Int)) := (C12.out.below hS C12.out.lt).cell 1 (by simpa using Q1.out); go_simp) ?_
  try simp only [nrm, Act.put]
  refine wpAnyV_take (i := 2) (v := .int .u64 (t.lastGen : Int)) 20 (kept_below _) rfl (by kernel_rfl) (by kernel_rfl) (fun _ _ _ h => h) (fun _ h => h) (DoesV.reads (by rfl) fun w9 hS => by go_simp) ?_
  try simp only [nrm, Act.put]
  refine wpAnyV_take (i := 4) (v := .pointer (some ⟨g1, 2, none⟩)) 20 (kept_below _) rfl (by kernel_rfl) (by kernel_rfl) (fun _ _ _ h => h) (fun _ h => h) (DoesV.reads (by rfl) fun w9 hS => by go_simp) ?_
  try simp only [nrm, Act.put]
  refine wpAnyV_take (i := 5) (v := .int .u32 (t.boot : Int)) 20 (kept_below _) rfl (by kernel_rfl) (by kernel_rfl) (fun _ _ _ h => h) (fun _ h => h) (DoesV.reads (by rfl) fun w9 hS => by have q0 : w9.cell? ⟨g1, 2, none⟩ = some (.int .u32 (t.boot : Int)) := (C12.out.below hS C12.out.lt).cell 2 (by simpa using Q2.out); go_simp) ?_
  try simp only [nrm, Act.put]
  refine wpAnyV_take (i := 6) (v := .int .u64 (t.boot : Int)) 20 (kept_below _) rfl (by kernel_rfl) (by kernel_rfl) (fun _ _ _ h => h) (fun _ h => h) (DoesV.reads (by rfl) fun w9 hS => by go_simp) ?_
  try simp only [nrm, Act.put]
  refine wpAnyV_take (i := 8) (v := .pointer (some ⟨g1, 3, none⟩)) 20 (kept_below _) rfl (by kernel_rfl) (by kernel_rfl) (fun _ _ _ h => h) (fun _ h => h) (DoesV.reads (by rfl) fun w9 hS => by go_simp) ?_
  try simp only [nrm, Act.put]
  refine wpAnyV_take (i := 9) (v := .int .u32 (t.count : Int)) 20 (kept_below _) rfl (by kernel_rfl) (by kernel_rfl) (fun _ _ _ h => h) (fun _ h => h) (DoesV.reads (by rfl) fun w9 hS => by have q0 : w9.cell? ⟨g1, 3, none⟩ = some (.int .u32 (t.count : Int)) := (C12.out.below hS C12.out.lt).cell 3 (by simpa using Q3.out); go_simp) ?_
  try simp only [nrm, Act.put]
  refine wpAnyV_take (i := 10) (v := .int .u64 (t.count : Int)) 20 (kept_below _) rfl (by kernel_rfl) (by kernel_rfl) (fun _ _ _ h => h) (fun _ h => h) (DoesV.reads (by rfl) fun w9 hS => by go_simp) ?_
  try simp only [nrm, Act.put]
  refine wpAnyV_only (i := 3) rfl (by kernel_rfl) rfl (fun u hS => wp_of_call (f := 46) (args := #[.int .u64 (t.lastGen : Int), .int .i64 4]) (by go_simp) (num4 t.lastGen H1.out u) fun e u' hu => ?_)
  try simp only [nrm, Act.put]
  obtain ⟨gn0, he, hr, hb⟩ := hu
  refine ⟨_, he, (fun u => (Below w2.heap.size w2 u) ∧ Rd u (some ⟨gn0, 0, none⟩) (beL (t.lastGen : Int) 4)), ⟨(kept_below _) _ _ hS hb, hr⟩, kept_and (kept_below _) (kept_rd _ _), fun _ _ h => h.1, ?_⟩
  clear hr hb he hS
  try simp only [nrm, Act.put]
  refine wpAnyV_only (i := 7) rfl (by kernel_rfl) rfl (fun u hS => wp_of_call (f := 46) (args := #[.int .u64 (t.boot : Int), .int .i64 4]) (by go_simp) (num4 t.boot H2.out u) fun e u' hu => ?_)
  try simp only [nrm, Act.put]
  obtain ⟨gn1, he, hr, hb⟩ := hu
  refine ⟨_, he, (fun u => ((Below w2.heap.size w2 u) ∧ Rd u (some ⟨gn0, 0, none⟩) (beL (t.lastGen : Int) 4)) ∧ Rd u (some ⟨gn1, 0, none⟩) (beL (t.boot : Int) 4)), ⟨(kept_and (kept_below _) (kept_rd _ _)) _ _ hS hb, hr⟩, kept_and (kept_and (kept_below _) (kept_rd _ _)) (kept_rd _ _), fun _ _ h => h.1, ?_⟩
  clear hr hb he hS
  try simp only [nrm, Act.put]
  refine wpAnyV_only (i := 11) rfl (by kernel_rfl) rfl (fun u hS => wp_of_call (f := 46) (args := #[.int .u64 (t.count : Int), .int .i64 4]) (by go_simp) (num4 t.count H3.out u) fun e u' hu => ?_)
  try simp only [nrm, Act.put]
  obtain ⟨gn2, he, hr, hb⟩ := hu
  refine ⟨_, he, (fun u => (((Below w2.heap.size w2 u) ∧ Rd u (some ⟨gn0, 0, none⟩) (beL (t.lastGen : Int) 4)) ∧ Rd u (some ⟨gn1, 0, none⟩) (beL (t.boot : Int) 4)) ∧ Rd u (some ⟨gn2, 0, none⟩) (beL (t.count : Int) 4)), ⟨(kept_and (kept_and (kept_below _) (kept_rd _ _)) (kept_rd _ _)) _ _ hS hb, hr⟩, kept_and (kept_and (kept_and (kept_below _) (kept_rd _ _)) (kept_rd _ _)) (kept_rd _ _), fun _ _ h => h.1, ?_⟩
  clear hr hb he hS
  try simp only [nrm, Act.put]
  refine wpAnyV_only (i := 12) rfl (by kernel_rfl) rfl (fun ub hS => wp_of_run2 (run_parts3 rfl rfl rfl rfl rfl rfl rfl) ⟨(fun u => ((((Below w2.heap.size w2 u) ∧ Rd u (some ⟨gn0, 0, none⟩) (beL (t.lastGen : Int) 4)) ∧ Rd u (some ⟨gn1, 0, none⟩) (beL (t.boot : Int) 4)) ∧ Rd u (some ⟨gn2, 0, none⟩) (beL (t.count : Int) 4)) ∧ Cs u ub.heap.size 25 #[.slice (some ⟨gn0, 0, none⟩) 4 4, .slice (some ⟨gn1, 0, none⟩) 4 4, .slice (some ⟨gn2, 0, none⟩) 4 4]), ⟨(kept_and (kept_and (kept_and (kept_below _) (kept_rd _ _)) (kept_rd _ _)) (kept_rd _ _)) _ _ hS ((Below.refl _ _).alloc (Nat.le_refl _) _), Cs.new _ _ _⟩, kept_and (kept_and (kept_and (kept_and (kept_below _) (kept_rd _ _)) (kept_rd _ _)) (kept_rd _ _)) (kept_cs _ _ _), fun _ _ h => h.1, ?_⟩)
  try simp only [nrm, Act.put]
  refine wpAnyV_only (i := 13) rfl (by kernel_rfl) rfl (fun u hS => wp_of_call (f := 45) (args := #[.slice (some ⟨ub.heap.size, 0, none⟩) 3 3]) (by go_simp) (Concat_n ub.heap.size [(some ⟨gn0, 0, none⟩, 4, beL (t.lastGen : Int) 4), (some ⟨gn1, 0, none⟩, 4, beL (t.boot : Int) 4), (some ⟨gn2, 0, none⟩, 4, beL (t.count : Int) 4)] u (by simp) (by simp [flatP, beL_length]; try omega) (by simp [flatP, beL_length]) (PartAt.mk3 hS.2 (hS.1.1.1.2) (fun h => by cases h) (hS.1.1.2) (fun h => by cases h) (hS.1.2) (fun h => by cases h))) fun e u' hu => ?_)
  try simp only [nrm, Act.put]
  obtain ⟨vz, he, hnv, hb⟩ := hu
  refine ⟨vz, he, fun z => ((fun u => ((((Below w2.heap.size w2 u) ∧ Rd u (some ⟨gn0, 0, none⟩) (beL (t.lastGen : Int) 4)) ∧ Rd u (some ⟨gn1, 0, none⟩) (beL (t.boot : Int) 4)) ∧ Rd u (some ⟨gn2, 0, none⟩) (beL (t.count : Int) 4)) ∧ Cs u ub.heap.size 25 #[.slice (some ⟨gn0, 0, none⟩) 4 4, .slice (some ⟨gn1, 0, none⟩) 4 4, .slice (some ⟨gn2, 0, none⟩) 4 4])) z ∧ NewV z (w2.heap.size ≤ ·) vz (flatP [(some ⟨gn0, 0, none⟩, 4, beL (t.lastGen : Int) 4), (some ⟨gn1, 0, none⟩, 4, beL (t.boot : Int) 4), (some ⟨gn2, 0, none⟩, 4, beL (t.count : Int) 4)]), ⟨(kept_and (kept_and (kept_and (kept_and (kept_below _) (kept_rd _ _)) (kept_rd _ _)) (kept_rd _ _)) (kept_cs _ _ _)) _ _ hS hb, hnv.mono fun k _ hk => Nat.le_trans (hS.1.1.1.1).size hk⟩, kept_and (kept_and (kept_and (kept_and (kept_and (kept_below _) (kept_rd _ _)) (kept_rd _ _)) (kept_rd _ _)) (kept_cs _ _ _)) (kept_nv _ _ _), fun _ _ h => h.1, ?_⟩
  clear hnv hb he hS
  try simp only [nrm, Act.put]
  refine wpAnyV_only (i := 14) rfl (by kernel_rfl) rfl (fun u hS => wp_of_run2 (v := vz) (by go_simp) ⟨_, hS, kept_and (kept_and (kept_and (kept_and (kept_and (kept_below _) (kept_rd _ _)) (kept_rd _ _)) (kept_rd _ _)) (kept_cs _ _ _)) (kept_nv _ _ _), fun _ _ h => h, ?_⟩)
  try simp only [nrm, Act.put]
  refine wpAnyV_done (by kernel_rfl) (fun w8 hz => ?_) _
  have BZ := Lib.hid hz.1.1.1.1.1
  have VZ := Lib.hid hz.2
  clear hz
  obtain ⟨Az, nz, cz, rfl⟩ := VZ.out.1.sl
  have B8 := Lib.hid (below_chain B2.out BZ.out)
  have C28 := Lib.hid (C2.out.below BZ.out C2.out.lt)
  go_wp2_with fail
  refine (key_v 116 (by decide) none 0 [] w8 (.inl rfl) (fun h => ⟨rfl, rfl⟩) (by decide)).mono ?_
  rintro e w10 ⟨rfl, hb10⟩
  have B10 := Lib.hid (below_chain B8.out hb10)
  have C2a := Lib.hid (C28.out.below hb10 C28.out.lt)
  have VZa := Lib.hid (VZ.out.below hb10)
  clear hb10
  go_wp2_with (first
    | ((with_reducible show wpList _ _ _ _ _ w10); refine wpList_buildRw rfl _ _ rfl (116 :: []) Az nz cz rfl rfl ?_; go_frame)
    | ((with_reducible show wpList _ _ _ _ _ w10); refine wpList_storeS rfl 41 _ _ rfl g2 rfl [sv (116 :: []), .slice Az nz cz] rowZ rfl C2a.out rfl (by intro q hq; simp at hq; rcases hq with rfl | rfl; rfl; rfl) infoRow ?_; intro w11 hk2 ht2; go_frame; have C2z := Lib.hid hk2; have Tz := Lib.hid ht2; clear hk2 ht2)
    | fail)
  refine bodyPost_ret (results_agg (P := Tryd.prog) (p := 2) (ty := 41) rfl _ _ g2 0 [sv (116 :: []), .slice Az nz cz] rfl (At.whole C2z.out) _ Tryd.underlying41 rfl infoRow) rfl ?_
  refine ⟨.slice Az nz cz, rfl, ?_, B10.out.trans (Tz.out.below B10.out.size fun q e => e ▸ G2.out)⟩
  have hv := (VZa.out.turn Tz.out fun k hk e => by have := C2.out.lt; omega).mono (G := (w.heap.size ≤ ·)) fun k _ hk => by have := B2.out.size; omega
  rw [show flatP _ = rstV t by simp [flatP, rstV]] at hv
  exact hv

theorem nodR_val (n : Nd) : nodV n = nodH n ++ (n.names.take n.names.length).flatMap entV := by rw [List.take_length]; rfl
theorem take_flat {l : List Ent} {k : Nat} (h : k < l.length) : (l.take (k + 1)).flatMap entV = (l.take k).flatMap entV ++ entV l[k] := by
  rw [take_snocB h, List.flatMap_append]
  simp
theorem take_flat_le {l : List Ent} (hl : ∀ e ∈ l, e.1.length ≤ 32) (hm : l.length ≤ 32) (k : Nat) : ((l.take k).flatMap entV).length ≤ 1184 := by
  have h1 := ents_len (l := l.take k) fun e he => hl e (List.mem_of_mem_take he)
  have h2 : (l.take k).length ≤ 32 := by rw [List.length_take]; omega
  have := Nat.mul_le_mul_right 37 h2
  omega
theorem infoEnB : (Tryd.prog.info? 80).map (·.size) = some 2 := by kernel_rfl
theorem entZeB (w : World) : (zeroValue 80).run Tryd.prog w = .ok (.agg #[sv [], .int .u32 0]) w := by kernel_rfl
theorem BsV.rdX {w : World} {F : Nat → Prop} {A : Option Addr} {n c : Nat} {l : List UInt8} (h : BsV w F (.slice A n c) l) : Rd w A l := by
  obtain ⟨A', c', e, h1, -⟩ := h
  injection e with e1
  subst e1
  exact h1.rd
set_option maxHeartbeats 32000000 in
theorem rowOfNode_v (n : Nd) (cs : List Value) (F : Nat → Prop) (w : World) (h : NdAt w F cs n) (hd : n.data.length ≤ 4096) (hm : n.names.length ≤ 32) (hn : ∀ e ∈ n.names, e.1.length ≤ 32) :
    Calls Tryd.prog 23 #[.agg cs.toArray] w fun e w' => RowRet (nodR n) w e w' := by
  have hmix : Tryd.prog.follows .mixedOrders = true := by kernel_rfl
  have HXL := Lib.hid (show cs.length = 6 from h.len)
  obtain ⟨dv, ev, e, hbv, ⟨A, c, rfl, hr, -⟩, hb1, hb2, hb3⟩ := h
  obtain ⟨Ad, cd, rfl, hrd, hnl⟩ := hbv.parts
  have Q0 := Lib.hid (show cs[0]? = some (.int .u32 (n.ino : Int)) by rw [e]; rfl)
  have Q1 := Lib.hid (show cs[1]? = some (.int .u32 (n.gen : Int)) by rw [e]; rfl)
  have Q2 := Lib.hid (show cs[2]? = some (.bool n.dir) by rw [e]; rfl)
  have Q3 := Lib.hid (show cs[3]? = some (.int .u64 (n.chg : Int)) by rw [e]; rfl)
  have Q4 := Lib.hid (show cs[4]? = some (.slice Ad n.data.length cd) by rw [e]; rfl)
  have Q5 := Lib.hid (show cs[5]? = some (.slice A n.names.length c) by rw [e]; rfl)
  have H0 := Lib.hid hb1
  have H1 := Lib.hid hb2
  have H3 := Lib.hid hb3
  have HR := Lib.hid hr
  have HRD := Lib.hid hrd
  have HNL := Lib.hid hnl
  have HD := Lib.hid hd
  have HM := Lib.hid hm
  have HN := Lib.hid hn
  have j1 : IntKind.u64.wrap (n.gen : Int) = n.gen := by rw [IntKind.wrap_u64]; omega
  have j2 : IntKind.u64.wrap (n.ino : Int) = n.ino := by rw [IntKind.wrap_u64]; omega
  have inl : (n.names.length : Int) ≤ 32 := by omega
  clear e hb1 hb2 hb3 hbv hr hrd hnl hd hm hn
  have HDB := Lib.hid (show dirN n.dir < 256 by unfold dirN; split <;> decide)
  obtain ⟨dn, hdn⟩ : ∃ dn, dn = dirN n.dir := ⟨_, rfl⟩
  have HDN := Lib.hid hdn
  rw [← hdn] at HDB
  obtain ⟨dd, hdd⟩ : ∃ dd, dd = n.dir := ⟨_, rfl⟩
  rw [← hdd] at Q2 hdn
  clear hdd
  cases dd
  · go_enter Tryd.func23, Tryd.ntmps23
    go_wp2_with (first
      | ((with_reducible show wpList _ _ _ _ _ w); refine wpList_boxS rfl 48 _ rfl cs rfl ?_; intro g1 w1 hk1 hb1 hg1; go_frame; have C1 := Lib.hid hk1; have B1 := Lib.hid hb1; clear hk1 hb1 hg1)
      | ((with_reducible show wpList _ _ _ _ _ w1); refine wpList_allocS rfl 41 rfl rowZ rowZero ?_; intro g2 w2 hk1 hb1 hg1; go_frame; have C2 := Lib.hid hk1; have C12 := Lib.hid (C1.out.below hb1 C1.out.lt); have B2 := Lib.hid (below_chain B1.out hb1); have G2 := Lib.hid (Nat.le_trans B1.out.size hg1); have q2 : w2.cell? ⟨g1, 2, none⟩ = some (.bool false) := C12.out.cell 2 (by simpa using Q2.out); clear hk1 hb1 hg1)
      | fail)
    clear q2
    have HRD2 := Lib.hid (HRD.out.below B2.out)
    refine wp_region_V [] (fun u => Below w2.heap.size w2 u) hmix ((Below.refl _ _).drew) ?_
    change wpAnyV _ _ _ _ _ _ _ _ _
    refine wpAnyV_take (i := 0) (v := .pointer (some ⟨g1, 1, none⟩)) 20 (kept_below _) rfl (by kernel_rfl) (by kernel_rfl) (fun _ _ _ h => h) (fun _ h => h) (DoesV.reads (by rfl) fun w9 hS => by go_simp) ?_
    try simp only [nrm, Act.put]
    refine wpAnyV_take (i := 1) (v := .int .u32 (n.gen : Int)) 20 (kept_below _) rfl (by kernel_rfl) (by kernel_rfl) (fun _ _ _ h => h) (fun _ h => h) (DoesV.reads (by rfl) fun w9 hS => by have q0 : w9.cell? ⟨g1, 1, none⟩ = some (.int .u32 (n.gen : Int)) := (C12.out.below hS C12.out.lt).cell 1 (by simpa using Q1.out); go_simp) ?_
    try simp only [nrm, Act.put]
    refine wpAnyV_take (i := 2) (v := .int .u64 (n.gen : Int)) 20 (kept_below _) rfl (by kernel_rfl) (by kernel_rfl) (fun _ _ _ h => h) (fun _ h => h) (DoesV.reads (by rfl) fun w9 hS => by go_simp) ?_
    try simp only [nrm, Act.put]
    refine wpAnyV_take (i := 4) (v := .int .u64 0) 20 (kept_below _) rfl (by kernel_rfl) (by kernel_rfl) (fun _ _ _ h => h) (fun _ h => h) (DoesV.reads (by rfl) fun w9 hS => by go_simp) ?_
    try simp only [nrm, Act.put]
    refine wpAnyV_take (i := 6) (v := .pointer (some ⟨g1, 3, none⟩)) 20 (kept_below _) rfl (by kernel_rfl) (by kernel_rfl) (fun _ _ _ h => h) (fun _ h => h) (DoesV.reads (by rfl) fun w9 hS => by go_simp) ?_
    try simp only [nrm, Act.put]
    refine wpAnyV_take (i := 7) (v := .int .u64 (n.chg : Int)) 20 (kept_below _) rfl (by kernel_rfl) (by kernel_rfl) (fun _ _ _ h => h) (fun _ h => h) (DoesV.reads (by rfl) fun w9 hS => by have q0 : w9.cell? ⟨g1, 3, none⟩ = some (.int .u64 (n.chg : Int)) := (C12.out.below hS C12.out.lt).cell 3 (by simpa using Q3.out); go_simp) ?_
    try simp only [nrm, Act.put]
    refine wpAnyV_take (i := 9) (v := .pointer (some ⟨g1, 4, none⟩)) 20 (kept_below _) rfl (by kernel_rfl) (by kernel_rfl) (fun _ _ _ h => h) (fun _ h => h) (DoesV.reads (by rfl) fun w9 hS => by go_simp) ?_
    try simp only [nrm, Act.put]
    refine wpAnyV_take (i := 10) (v := .slice Ad n.data.length cd) 20 (kept_below _) rfl (by kernel_rfl) (by kernel_rfl) (fun _ _ _ h => h) (fun _ h => h) (DoesV.reads (by rfl) fun w9 hS => by have q0 : w9.cell? ⟨g1, 4, none⟩ = some (.slice Ad n.data.length cd) := (C12.out.below hS C12.out.lt).cell 4 (by simpa using Q4.out); go_simp) ?_
    try simp only [nrm, Act.put]
    refine wpAnyV_only (i := 3) rfl (by kernel_rfl) rfl (fun u hS => wp_of_call (f := 46) (args := #[.int .u64 (n.gen : Int), .int .i64 4]) (by go_simp) (num4 n.gen H1.out u) fun e u' hu => ?_)
    try simp only [nrm, Act.put]
    obtain ⟨gn0, he, hr, hb⟩ := hu
    refine ⟨_, he, (fun u => (Below w2.heap.size w2 u) ∧ Rd u (some ⟨gn0, 0, none⟩) (beL (n.gen : Int) 4)), ⟨(kept_below _) _ _ hS hb, hr⟩, kept_and (kept_below _) (kept_rd _ _), fun _ _ h => h.1, ?_⟩
    clear hr hb he hS
    try simp only [nrm, Act.put]
    refine wpAnyV_only (i := 5) rfl (by kernel_rfl) rfl (fun u hS => wp_of_call (f := 46) (args := #[.int .u64 0, .int .i64 1]) (by go_simp) (num1 0 (by decide) u) fun e u' hu => ?_)
    try simp only [nrm, Act.put]
    obtain ⟨gn1, he, hr, hb⟩ := hu
    refine ⟨_, he, (fun u => ((Below w2.heap.size w2 u) ∧ Rd u (some ⟨gn0, 0, none⟩) (beL (n.gen : Int) 4)) ∧ Rd u (some ⟨gn1, 0, none⟩) (beL ((0 : Nat) : Int) 1)), ⟨(kept_and (kept_below _) (kept_rd _ _)) _ _ hS hb, hr⟩, kept_and (kept_and (kept_below _) (kept_rd _ _)) (kept_rd _ _), fun _ _ h => h.1, ?_⟩
    clear hr hb he hS
    try simp only [nrm, Act.put]
    refine wpAnyV_only (i := 8) rfl (by kernel_rfl) rfl (fun u hS => wp_of_call (f := 46) (args := #[.int .u64 (n.chg : Int), .int .i64 8]) (by go_simp) (num8 n.chg H3.out u) fun e u' hu => ?_)
    try simp only [nrm, Act.put]
    obtain ⟨gn2, he, hr, hb⟩ := hu
    refine ⟨_, he, (fun u => (((Below w2.heap.size w2 u) ∧ Rd u (some ⟨gn0, 0, none⟩) (beL (n.gen : Int) 4)) ∧ Rd u (some ⟨gn1, 0, none⟩) (beL ((0 : Nat) : Int) 1)) ∧ Rd u (some ⟨gn2, 0, none⟩) (beL (n.chg : Int) 8)), ⟨(kept_and (kept_and (kept_below _) (kept_rd _ _)) (kept_rd _ _)) _ _ hS hb, hr⟩, kept_and (kept_and (kept_and (kept_below _) (kept_rd _ _)) (kept_rd _ _)) (kept_rd _ _), fun _ _ h => h.1, ?_⟩
    clear hr hb he hS
    try simp only [nrm, Act.put]
    refine wpAnyV_only (i := 11) rfl (by kernel_rfl) rfl (fun ub hS => wp_of_run2 (run_parts4 rfl rfl rfl rfl rfl rfl rfl rfl rfl) ⟨(fun u => ((((Below w2.heap.size w2 u) ∧ Rd u (some ⟨gn0, 0, none⟩) (beL (n.gen : Int) 4)) ∧ Rd u (some ⟨gn1, 0, none⟩) (beL ((0 : Nat) : Int) 1)) ∧ Rd u (some ⟨gn2, 0, none⟩) (beL (n.chg : Int) 8)) ∧ Cs u ub.heap.size 25 #[.slice (some ⟨gn0, 0, none⟩) 4 4, .slice (some ⟨gn1, 0, none⟩) 1 1, .slice (some ⟨gn2, 0, none⟩) 8 8, .slice Ad n.data.length cd]), ⟨(kept_and (kept_and (kept_and (kept_below _) (kept_rd _ _)) (kept_rd _ _)) (kept_rd _ _)) _ _ hS ((Below.refl _ _).alloc (Nat.le_refl _) _), Cs.new _ _ _⟩, kept_and (kept_and (kept_and (kept_and (kept_below _) (kept_rd _ _)) (kept_rd _ _)) (kept_rd _ _)) (kept_cs _ _ _), fun _ _ h => h.1, ?_⟩)
    try simp only [nrm, Act.put]
    refine wpAnyV_only (i := 12) rfl (by kernel_rfl) rfl (fun u hS => wp_of_call (f := 45) (args := #[.slice (some ⟨ub.heap.size, 0, none⟩) 4 4]) (by go_simp) (Concat_n ub.heap.size [(some ⟨gn0, 0, none⟩, 4, beL (n.gen : Int) 4), (some ⟨gn1, 0, none⟩, 1, beL ((0 : Nat) : Int) 1), (some ⟨gn2, 0, none⟩, 8, beL (n.chg : Int) 8), (Ad, cd, n.data)] u (by simp) (by simp [flatP, beL_length]; try omega) (by simp [flatP, beL_length]; have := HD.out; omega) (PartAt.mk4 hS.2 (hS.1.1.1.2) (fun h => by cases h) (hS.1.1.2) (fun h => by cases h) (hS.1.2) (fun h => by cases h) (HRD2.out.below (hS.1.1.1.1)) (HNL.out))) fun e u' hu => ?_)
    try simp only [nrm, Act.put]
    obtain ⟨vz, he, hnv, hb⟩ := hu
    refine ⟨vz, he, fun z => ((fun u => ((((Below w2.heap.size w2 u) ∧ Rd u (some ⟨gn0, 0, none⟩) (beL (n.gen : Int) 4)) ∧ Rd u (some ⟨gn1, 0, none⟩) (beL ((0 : Nat) : Int) 1)) ∧ Rd u (some ⟨gn2, 0, none⟩) (beL (n.chg : Int) 8)) ∧ Cs u ub.heap.size 25 #[.slice (some ⟨gn0, 0, none⟩) 4 4, .slice (some ⟨gn1, 0, none⟩) 1 1, .slice (some ⟨gn2, 0, none⟩) 8 8, .slice Ad n.data.length cd])) z ∧ NewV z (w2.heap.size ≤ ·) vz (flatP [(some ⟨gn0, 0, none⟩, 4, beL (n.gen : Int) 4), (some ⟨gn1, 0, none⟩, 1, beL ((0 : Nat) : Int) 1), (some ⟨gn2, 0, none⟩, 8, beL (n.chg : Int) 8), (Ad, cd, n.data)]), ⟨(kept_and (kept_and (kept_and (kept_and (kept_below _) (kept_rd _ _)) (kept_rd _ _)) (kept_rd _ _)) (kept_cs _ _ _)) _ _ hS hb, hnv.mono fun k _ hk => Nat.le_trans (hS.1.1.1.1).size hk⟩, kept_and (kept_and (kept_and (kept_and (kept_and (kept_below _) (kept_rd _ _)) (kept_rd _ _)) (kept_rd _ _)) (kept_cs _ _ _)) (kept_nv _ _ _), fun _ _ h => h.1, ?_⟩
    clear hnv hb he hS
    try simp only [nrm, Act.put]
    refine wpAnyV_only (i := 13) rfl (by kernel_rfl) rfl (fun u hS => wp_of_run2 (v := vz) (by go_simp) ⟨_, hS, kept_and (kept_and (kept_and (kept_and (kept_and (kept_below _) (kept_rd _ _)) (kept_rd _ _)) (kept_rd _ _)) (kept_cs _ _ _)) (kept_nv _ _ _), fun _ _ h => h, ?_⟩)
    try simp only [nrm, Act.put]
    refine wpAnyV_done (by kernel_rfl) (fun w8 hz => ?_) _
    have BZ := Lib.hid hz.1.1.1.1.1
    have VZ := Lib.hid hz.2
    clear hz
    obtain ⟨Az, nz, cz, rfl⟩ := VZ.out.1.sl
    rw [show flatP _ = nodH n by (simp [flatP, nodH]; rw [← HDN.out, hdn]; rfl)] at VZ
    have B8 := Lib.hid (below_chain B2.out BZ.out)
    have C28 := Lib.hid (C2.out.below BZ.out C2.out.lt)
    have C18 := Lib.hid (C12.out.below BZ.out C12.out.lt)
    have HR8 := Lib.hid (HR.out.below B8.out)
    have q5 : w8.cell? ⟨g1, 5, none⟩ = some (.slice A n.names.length c) := C18.out.cell 5 (by simpa using Q5.out)
    go_wp2_with fail
    clear q5
    go_loopw [4, 25] (fun v4 j wr => ∃ k : Nat, j = .int .i64 k ∧ k ≤ n.names.length ∧ NewV wr (w2.heap.size ≤ ·) v4 (nodH n ++ (n.names.take k).flatMap entV) ∧ Below w8.heap.size w8 wr) (fun _ j _ => n.names.length - (RowKit.intOf j).toNat)
    case atStart => exact ⟨0, rfl, Nat.zero_le _, by rw [List.take_zero, List.flatMap_nil, List.append_nil]; exact VZ.out, Below.refl _ _⟩
    case round =>
      obtain ⟨k, rfl, hk, hv, hB⟩ := hrel
      have HV := Lib.hid hv
      have HB := Lib.hid hB
      by_cases hlt : k < n.names.length
      · obtain ⟨b3, off3, xs, rfl, ⟨rfl, hx32⟩, hat⟩ := (HR8.out.below hB).get k hlt
        have HAT3 := Lib.hid hat
        have HTS := Lib.hid (take_flat hlt)
        have HLE := Lib.hid (take_flat_le HN.out HM.out k)
        have HX32 := Lib.hid hx32
        have HXN := Lib.hid (HN.out _ (List.getElem_mem hlt))
        generalize n.names[k] = x at *
        obtain ⟨A4, n4, c4, rfl⟩ := hv.1.sl
        have hpt := hv.1.parts
        obtain ⟨A5, c5, e5, hr5, hn5⟩ := hpt
        injection e5 with e51 e52 e53
        subst e51 e52 e53
        have HR5 := Lib.hid hr5
        have HN5 := Lib.hid hn5
        have HLQ := Lib.hid (show (nodH n ++ (n.names.take k).flatMap entV).length ≤ 5400 by rw [List.length_append, nodH_len]; have h1 := HLE.out; have h2 := HD.out; omega)
        obtain ⟨lv, hlv⟩ : ∃ lv, lv = nodH n ++ (n.names.take k).flatMap entV := ⟨_, rfl⟩
        rw [← hlv] at HV HR5 HN5 HLQ
        have HLV := Lib.hid hlv
        rw [← hlv]
        have ixl : (x.1.length : Int) ≤ 32 := by have := HXN.out; omega
        have j4 : IntKind.u64.wrap (x.1.length : Int) = x.1.length := by rw [IntKind.wrap_u64]; omega
        have j5 : IntKind.u64.wrap (x.2 : Int) = x.2 := by have := HX32.out; rw [IntKind.wrap_u64]; omega
        have hsz : (⟨x.1.toArray⟩ : ByteArray).size = x.1.length := by simp [ByteArray.size]
        clear hv hB hat hx32 hr5 hn5 hlv
        go_wp2_with (first
          | ((with_reducible show wpList _ _ _ _ _ wr); refine wpList_load_agg rfl 80 _ rfl b3 (off3 + k * 2) rfl [sv x.1, .int .u32 (x.2 : Int)] HAT3.out _ Tryd.underlying80 rfl infoEnB ?_; go_frame)
          | ((with_reducible show wpList _ _ _ _ _ wr); refine wpList_allocS rfl 80 rfl [sv [], .int .u32 0] entZeB ?_; intro g6 w6 hk1 hb1 hg1; go_frame; have C6 := Lib.hid hk1; have B6 := Lib.hid hb1; have G6 := Lib.hid hg1; clear hk1 hb1 hg1)
          | ((with_reducible show wpList _ _ _ _ _ w6); refine wpList_storeS rfl 80 _ _ rfl g6 rfl [sv x.1, .int .u32 (x.2 : Int)] [sv [], .int .u32 0] rfl C6.out rfl (by intro v hv; simp at hv; rcases hv with rfl | rfl <;> rfl) infoEnB ?_; intro w7 hk2 ht2; go_frame; have B7 := Lib.hid (show Below wr.heap.size wr w7 from below_turn B6.out ht2 B6.out.size G6.out); have C7 := Lib.hid hk2; clear hk2 ht2)
          | fail)
        have HR7 := Lib.hid (HR5.out.below B7.out)
        refine wp_region_V [] (fun u => Below w7.heap.size w7 u) hmix ((Below.refl _ _).drew) ?_
        change wpAnyV _ _ _ _ _ _ _ _ _
        refine wpAnyV_take (i := 0) (v := .slice A4 lv.length c4) 24 (kept_below _) rfl (by kernel_rfl) (by kernel_rfl) (fun _ _ _ h => h) (fun _ h => h) (DoesV.reads (by rfl) fun w9 hS => by go_simp) ?_
        try simp only [nrm, Act.put]
        refine wpAnyV_take (i := 1) (v := .pointer (some ⟨g6, 0, none⟩)) 24 (kept_below _) rfl (by kernel_rfl) (by kernel_rfl) (fun _ _ _ h => h) (fun _ h => h) (DoesV.reads (by rfl) fun w9 hS => by go_simp) ?_
        try simp only [nrm, Act.put]
        refine wpAnyV_take (i := 2) (v := sv x.1) 24 (kept_below _) rfl (by kernel_rfl) (by kernel_rfl) (fun _ _ _ h => h) (fun _ h => h) (DoesV.reads (by rfl) fun w9 hS => by have q0 : w9.cell? ⟨g6, 0, none⟩ = some (sv x.1) := (C7.out.below hS C7.out.lt).cell 0 rfl; go_simp) ?_
        try simp only [nrm, Act.put]
        refine wpAnyV_take (i := 3) (v := .int .i64 (x.1.length : Int)) 24 (kept_below _) rfl (by kernel_rfl) (by kernel_rfl) (fun _ _ _ h => h) (fun _ h => h) (DoesV.reads (by rfl) fun w9 hS => by unfold sv; go_simp; (try simp [hsz])) ?_
        try simp only [nrm, Act.put]
        refine wpAnyV_take (i := 4) (v := .int .u64 (x.1.length : Int)) 24 (kept_below _) rfl (by kernel_rfl) (by kernel_rfl) (fun _ _ _ h => h) (fun _ h => h) (DoesV.reads (by rfl) fun w9 hS => by go_simp) ?_
        try simp only [nrm, Act.put]
        refine wpAnyV_take (i := 6) (v := .pointer (some ⟨g6, 0, none⟩)) 24 (kept_below _) rfl (by kernel_rfl) (by kernel_rfl) (fun _ _ _ h => h) (fun _ h => h) (DoesV.reads (by rfl) fun w9 hS => by go_simp) ?_
        try simp only [nrm, Act.put]
        refine wpAnyV_take (i := 7) (v := sv x.1) 24 (kept_below _) rfl (by kernel_rfl) (by kernel_rfl) (fun _ _ _ h => h) (fun _ h => h) (DoesV.reads (by rfl) fun w9 hS => by have q0 : w9.cell? ⟨g6, 0, none⟩ = some (sv x.1) := (C7.out.below hS C7.out.lt).cell 0 rfl; go_simp) ?_
        try simp only [nrm, Act.put]
        refine wpAnyV_take (i := 9) (v := .pointer (some ⟨g6, 1, none⟩)) 24 (kept_below _) rfl (by kernel_rfl) (by kernel_rfl) (fun _ _ _ h => h) (fun _ h => h) (DoesV.reads (by rfl) fun w9 hS => by go_simp) ?_
        try simp only [nrm, Act.put]
        refine wpAnyV_take (i := 10) (v := .int .u32 (x.2 : Int)) 24 (kept_below _) rfl (by kernel_rfl) (by kernel_rfl) (fun _ _ _ h => h) (fun _ h => h) (DoesV.reads (by rfl) fun w9 hS => by have q0 : w9.cell? ⟨g6, 1, none⟩ = some (.int .u32 (x.2 : Int)) := (C7.out.below hS C7.out.lt).cell 1 rfl; go_simp) ?_
        try simp only [nrm, Act.put]
        refine wpAnyV_take (i := 11) (v := .int .u64 (x.2 : Int)) 24 (kept_below _) rfl (by kernel_rfl) (by kernel_rfl) (fun _ _ _ h => h) (fun _ h => h) (DoesV.reads (by rfl) fun w9 hS => by go_simp) ?_
        try simp only [nrm, Act.put]
        refine wpAnyV_two (i := 5) (j := 8) rfl rfl (by kernel_rfl) rfl rfl (fun u hS => wp_of_call (f := 46) (args := #[.int .u64 (x.1.length : Int), .int .i64 1]) (by go_simp) (num1 x.1.length (by have := HXN.out; omega) u) fun e u' hu => ?_) (fun uc hS => ?_)
        · try simp only [nrm, Act.put]
          obtain ⟨ga, he, hr, hb⟩ := hu
          refine ⟨_, he, (fun u => (Below w7.heap.size w7 u) ∧ Rd u (some ⟨ga, 0, none⟩) (beL (x.1.length : Int) 1)), ⟨(kept_below _) _ _ hS hb, hr⟩, kept_and (kept_below _) (kept_rd _ _), fun _ _ h => h.1, ?_⟩
          clear hr hb he hS
          try simp only [nrm, Act.put]
          refine wpAnyV_two (i := 8) (j := 12) rfl rfl (by kernel_rfl) rfl rfl (fun uc hS => ?_) (fun u hS => wp_of_call (f := 46) (args := #[.int .u64 (x.2 : Int), .int .i64 4]) (by go_simp) (num4 x.2 HX32.out u) fun e u' hu => ?_)
          · obtain ⟨W, cc, hcv, hb, hbs⟩ := conv_sv x.1 (by have := HXN.out; omega) uc
            have hrd := hbs.rdX
            refine wp_of_run2 (v := .slice (some ⟨uc.heap.size, 0, none⟩) x.1.length cc) (w' := W) (by go_simp) ⟨(fun u => ((Below w7.heap.size w7 u) ∧ Rd u (some ⟨ga, 0, none⟩) (beL (x.1.length : Int) 1)) ∧ Rd u (some ⟨uc.heap.size, 0, none⟩) x.1), ⟨(kept_and (kept_below _) (kept_rd _ _)) _ _ hS hb, hrd⟩, kept_and (kept_and (kept_below _) (kept_rd _ _)) (kept_rd _ _), fun _ _ h => h.1, ?_⟩
            clear hcv hb hbs hrd hS
            try simp only [nrm, Act.put]
            refine wpAnyV_only (i := 12) rfl (by kernel_rfl) rfl (fun u hS => wp_of_call (f := 46) (args := #[.int .u64 (x.2 : Int), .int .i64 4]) (by go_simp) (num4 x.2 HX32.out u) fun e u' hu => ?_)
            try simp only [nrm, Act.put]
            obtain ⟨gb, he, hr, hb⟩ := hu
            refine ⟨_, he, (fun u => (((Below w7.heap.size w7 u) ∧ Rd u (some ⟨ga, 0, none⟩) (beL (x.1.length : Int) 1)) ∧ Rd u (some ⟨uc.heap.size, 0, none⟩) x.1) ∧ Rd u (some ⟨gb, 0, none⟩) (beL (x.2 : Int) 4)), ⟨(kept_and (kept_and (kept_below _) (kept_rd _ _)) (kept_rd _ _)) _ _ hS hb, hr⟩, kept_and (kept_and (kept_and (kept_below _) (kept_rd _ _)) (kept_rd _ _)) (kept_rd _ _), fun _ _ h => h.1, ?_⟩
            clear hr hb he hS
            try simp only [nrm, Act.put]
            refine wpAnyV_only (i := 13) rfl (by kernel_rfl) rfl (fun ub hS => wp_of_run2 (run_parts4 rfl rfl rfl rfl rfl rfl rfl rfl rfl) ⟨(fun u => ((((Below w7.heap.size w7 u) ∧ Rd u (some ⟨ga, 0, none⟩) (beL (x.1.length : Int) 1)) ∧ Rd u (some ⟨uc.heap.size, 0, none⟩) x.1) ∧ Rd u (some ⟨gb, 0, none⟩) (beL (x.2 : Int) 4)) ∧ Cs u ub.heap.size 25 #[.slice A4 lv.length c4, .slice (some ⟨ga, 0, none⟩) 1 1, .slice (some ⟨uc.heap.size, 0, none⟩) x.1.length cc, .slice (some ⟨gb, 0, none⟩) 4 4]), ⟨(kept_and (kept_and (kept_and (kept_below _) (kept_rd _ _)) (kept_rd _ _)) (kept_rd _ _)) _ _ hS ((Below.refl _ _).alloc (Nat.le_refl _) _), Cs.new _ _ _⟩, kept_and (kept_and (kept_and (kept_and (kept_below _) (kept_rd _ _)) (kept_rd _ _)) (kept_rd _ _)) (kept_cs _ _ _), fun _ _ h => h.1, ?_⟩)
            try simp only [nrm, Act.put]
            refine wpAnyV_only (i := 14) rfl (by kernel_rfl) rfl (fun u hS => wp_of_call (f := 45) (args := #[.slice (some ⟨ub.heap.size, 0, none⟩) 4 4]) (by go_simp) (Concat_n ub.heap.size [(A4, c4, lv), (some ⟨ga, 0, none⟩, 1, beL (x.1.length : Int) 1), (some ⟨uc.heap.size, 0, none⟩, cc, x.1), (some ⟨gb, 0, none⟩, 4, beL (x.2 : Int) 4)] u (by simp) (by simp [flatP, beL_length]; try omega) (by simp [flatP, beL_length]; have h1 := HLQ.out; have h2 := HXN.out; omega) (PartAt.mk4 hS.2 (HR7.out.below hS.1.1.1.1) HN5.out (hS.1.1.1.2) (fun h => by cases h) (hS.1.1.2) (fun h => by cases h) (hS.1.2) (fun h => by cases h))) fun e u' hu => ?_)
            try simp only [nrm, Act.put]
            obtain ⟨vz, he, hnv, hb⟩ := hu
            refine ⟨vz, he, fun z => (fun u => ((((Below w7.heap.size w7 u) ∧ Rd u (some ⟨ga, 0, none⟩) (beL (x.1.length : Int) 1)) ∧ Rd u (some ⟨uc.heap.size, 0, none⟩) x.1) ∧ Rd u (some ⟨gb, 0, none⟩) (beL (x.2 : Int) 4)) ∧ Cs u ub.heap.size 25 #[.slice A4 lv.length c4, .slice (some ⟨ga, 0, none⟩) 1 1, .slice (some ⟨uc.heap.size, 0, none⟩) x.1.length cc, .slice (some ⟨gb, 0, none⟩) 4 4]) z ∧ NewV z (w7.heap.size ≤ ·) vz (flatP [(A4, c4, lv), (some ⟨ga, 0, none⟩, 1, beL (x.1.length : Int) 1), (some ⟨uc.heap.size, 0, none⟩, cc, x.1), (some ⟨gb, 0, none⟩, 4, beL (x.2 : Int) 4)]), ⟨(kept_and (kept_and (kept_and (kept_and (kept_below _) (kept_rd _ _)) (kept_rd _ _)) (kept_rd _ _)) (kept_cs _ _ _)) _ _ hS hb, hnv.mono fun k _ hk => Nat.le_trans (hS.1.1.1.1).size hk⟩, kept_and (kept_and (kept_and (kept_and (kept_and (kept_below _) (kept_rd _ _)) (kept_rd _ _)) (kept_rd _ _)) (kept_cs _ _ _)) (kept_nv _ _ _), fun _ _ h => h.1, ?_⟩
            clear hnv hb he hS
            try simp only [nrm, Act.put]
            refine wpAnyV_only (i := 15) rfl (by kernel_rfl) rfl (fun u hS => wp_of_run2 (v := vz) (by go_simp) ⟨_, hS, kept_and (kept_and (kept_and (kept_and (kept_and (kept_below _) (kept_rd _ _)) (kept_rd _ _)) (kept_rd _ _)) (kept_cs _ _ _)) (kept_nv _ _ _), fun _ _ h => h, ?_⟩)
            try simp only [nrm, Act.put]
            refine wpAnyV_done (by kernel_rfl) (fun w9 hz => ?_) _
            have BY := Lib.hid (below_chain HB.out (below_chain B7.out hz.1.1.1.1.1))
            have VY := Lib.hid hz.2
            clear hz
            rw [show flatP _ = nodH n ++ (n.names.take (k + 1)).flatMap entV by rw [HTS.out, ← List.append_assoc, ← HLV.out]; simp [flatP, entV]] at VY
            have VX := Lib.hid (VY.out.mono (G := (w2.heap.size ≤ ·)) fun k _ hk => by have h1 := BZ.out.size; have h2 := HB.out.size; have h3 := B7.out.size; omega)
            clear VY
            go_wp2_with fail
            go_roundw
            case rel => exact ⟨k + 1, by go_num, hlt, VX.out, BY.out⟩
            case measure => simp [RowKit.intOf]; omega
          · try simp only [nrm, Act.put]
            obtain ⟨gb, he, hr, hb⟩ := hu
            refine ⟨_, he, (fun u => ((Below w7.heap.size w7 u) ∧ Rd u (some ⟨ga, 0, none⟩) (beL (x.1.length : Int) 1)) ∧ Rd u (some ⟨gb, 0, none⟩) (beL (x.2 : Int) 4)), ⟨(kept_and (kept_below _) (kept_rd _ _)) _ _ hS hb, hr⟩, kept_and (kept_and (kept_below _) (kept_rd _ _)) (kept_rd _ _), fun _ _ h => h.1, ?_⟩
            clear hr hb he hS
            try simp only [nrm, Act.put]
            refine wpAnyV_only (i := 8) rfl (by kernel_rfl) rfl (fun uc hS => ?_)
            obtain ⟨W, cc, hcv, hb, hbs⟩ := conv_sv x.1 (by have := HXN.out; omega) uc
            have hrd := hbs.rdX
            refine wp_of_run2 (v := .slice (some ⟨uc.heap.size, 0, none⟩) x.1.length cc) (w' := W) (by go_simp) ⟨(fun u => (((Below w7.heap.size w7 u) ∧ Rd u (some ⟨ga, 0, none⟩) (beL (x.1.length : Int) 1)) ∧ Rd u (some ⟨gb, 0, none⟩) (beL (x.2 : Int) 4)) ∧ Rd u (some ⟨uc.heap.size, 0, none⟩) x.1), ⟨(kept_and (kept_and (kept_below _) (kept_rd _ _)) (kept_rd _ _)) _ _ hS hb, hrd⟩, kept_and (kept_and (kept_and (kept_below _) (kept_rd _ _)) (kept_rd _ _)) (kept_rd _ _), fun _ _ h => h.1, ?_⟩
            clear hcv hb hbs hrd hS
            try simp only [nrm, Act.put]
            refine wpAnyV_only (i := 13) rfl (by kernel_rfl) rfl (fun ub hS => wp_of_run2 (run_parts4 rfl rfl rfl rfl rfl rfl rfl rfl rfl) ⟨(fun u => ((((Below w7.heap.size w7 u) ∧ Rd u (some ⟨ga, 0, none⟩) (beL (x.1.length : Int) 1)) ∧ Rd u (some ⟨gb, 0, none⟩) (beL (x.2 : Int) 4)) ∧ Rd u (some ⟨uc.heap.size, 0, none⟩) x.1) ∧ Cs u ub.heap.size 25 #[.slice A4 lv.length c4, .slice (some ⟨ga, 0, none⟩) 1 1, .slice (some ⟨uc.heap.size, 0, none⟩) x.1.length cc, .slice (some ⟨gb, 0, none⟩) 4 4]), ⟨(kept_and (kept_and (kept_and (kept_below _) (kept_rd _ _)) (kept_rd _ _)) (kept_rd _ _)) _ _ hS ((Below.refl _ _).alloc (Nat.le_refl _) _), Cs.new _ _ _⟩, kept_and (kept_and (kept_and (kept_and (kept_below _) (kept_rd _ _)) (kept_rd _ _)) (kept_rd _ _)) (kept_cs _ _ _), fun _ _ h => h.1, ?_⟩)
            try simp only [nrm, Act.put]
            refine wpAnyV_only (i := 14) rfl (by kernel_rfl) rfl (fun u hS => wp_of_call (f := 45) (args := #[.slice (some ⟨ub.heap.size, 0, none⟩) 4 4]) (by go_simp) (Concat_n ub.heap.size [(A4, c4, lv), (some ⟨ga, 0, none⟩, 1, beL (x.1.length : Int) 1), (some ⟨uc.heap.size, 0, none⟩, cc, x.1), (some ⟨gb, 0, none⟩, 4, beL (x.2 : Int) 4)] u (by simp) (by simp [flatP, beL_length]; try omega) (by simp [flatP, beL_length]; have h1 := HLQ.out; have h2 := HXN.out; omega) (PartAt.mk4 hS.2 (HR7.out.below hS.1.1.1.1) HN5.out (hS.1.1.1.2) (fun h => by cases h) (hS.1.2) (fun h => by cases h) (hS.1.1.2) (fun h => by cases h))) fun e u' hu => ?_)
            try simp only [nrm, Act.put]
            obtain ⟨vz, he, hnv, hb⟩ := hu
            refine ⟨vz, he, fun z => (fun u => ((((Below w7.heap.size w7 u) ∧ Rd u (some ⟨ga, 0, none⟩) (beL (x.1.length : Int) 1)) ∧ Rd u (some ⟨gb, 0, none⟩) (beL (x.2 : Int) 4)) ∧ Rd u (some ⟨uc.heap.size, 0, none⟩) x.1) ∧ Cs u ub.heap.size 25 #[.slice A4 lv.length c4, .slice (some ⟨ga, 0, none⟩) 1 1, .slice (some ⟨uc.heap.size, 0, none⟩) x.1.length cc, .slice (some ⟨gb, 0, none⟩) 4 4]) z ∧ NewV z (w7.heap.size ≤ ·) vz (flatP [(A4, c4, lv), (some ⟨ga, 0, none⟩, 1, beL (x.1.length : Int) 1), (some ⟨uc.heap.size, 0, none⟩, cc, x.1), (some ⟨gb, 0, none⟩, 4, beL (x.2 : Int) 4)]), ⟨(kept_and (kept_and (kept_and (kept_and (kept_below _) (kept_rd _ _)) (kept_rd _ _)) (kept_rd _ _)) (kept_cs _ _ _)) _ _ hS hb, hnv.mono fun k _ hk => Nat.le_trans (hS.1.1.1.1).size hk⟩, kept_and (kept_and (kept_and (kept_and (kept_and (kept_below _) (kept_rd _ _)) (kept_rd _ _)) (kept_rd _ _)) (kept_cs _ _ _)) (kept_nv _ _ _), fun _ _ h => h.1, ?_⟩
            clear hnv hb he hS
            try simp only [nrm, Act.put]
            refine wpAnyV_only (i := 15) rfl (by kernel_rfl) rfl (fun u hS => wp_of_run2 (v := vz) (by go_simp) ⟨_, hS, kept_and (kept_and (kept_and (kept_and (kept_and (kept_below _) (kept_rd _ _)) (kept_rd _ _)) (kept_rd _ _)) (kept_cs _ _ _)) (kept_nv _ _ _), fun _ _ h => h, ?_⟩)
            try simp only [nrm, Act.put]
            refine wpAnyV_done (by kernel_rfl) (fun w9 hz => ?_) _
            have BY := Lib.hid (below_chain HB.out (below_chain B7.out hz.1.1.1.1.1))
            have VY := Lib.hid hz.2
            clear hz
            rw [show flatP _ = nodH n ++ (n.names.take (k + 1)).flatMap entV by rw [HTS.out, ← List.append_assoc, ← HLV.out]; simp [flatP, entV]] at VY
            have VX := Lib.hid (VY.out.mono (G := (w2.heap.size ≤ ·)) fun k _ hk => by have h1 := BZ.out.size; have h2 := HB.out.size; have h3 := B7.out.size; omega)
            clear VY
            go_wp2_with fail
            go_roundw
            case rel => exact ⟨k + 1, by go_num, hlt, VX.out, BY.out⟩
            case measure => simp [RowKit.intOf]; omega
        · obtain ⟨W, cc, hcv, hb, hbs⟩ := conv_sv x.1 (by have := HXN.out; omega) uc
          have hrd := hbs.rdX
          refine wp_of_run2 (v := .slice (some ⟨uc.heap.size, 0, none⟩) x.1.length cc) (w' := W) (by go_simp) ⟨(fun u => (Below w7.heap.size w7 u) ∧ Rd u (some ⟨uc.heap.size, 0, none⟩) x.1), ⟨(kept_below _) _ _ hS hb, hrd⟩, kept_and (kept_below _) (kept_rd _ _), fun _ _ h => h.1, ?_⟩
          clear hcv hb hbs hrd hS
          try simp only [nrm, Act.put]
          refine wpAnyV_only (i := 5) rfl (by kernel_rfl) rfl (fun u hS => wp_of_call (f := 46) (args := #[.int .u64 (x.1.length : Int), .int .i64 1]) (by go_simp) (num1 x.1.length (by have := HXN.out; omega) u) fun e u' hu => ?_)
          try simp only [nrm, Act.put]
          obtain ⟨ga, he, hr, hb⟩ := hu
          refine ⟨_, he, (fun u => ((Below w7.heap.size w7 u) ∧ Rd u (some ⟨uc.heap.size, 0, none⟩) x.1) ∧ Rd u (some ⟨ga, 0, none⟩) (beL (x.1.length : Int) 1)), ⟨(kept_and (kept_below _) (kept_rd _ _)) _ _ hS hb, hr⟩, kept_and (kept_and (kept_below _) (kept_rd _ _)) (kept_rd _ _), fun _ _ h => h.1, ?_⟩
          clear hr hb he hS
          try simp only [nrm, Act.put]
          refine wpAnyV_only (i := 12) rfl (by kernel_rfl) rfl (fun u hS => wp_of_call (f := 46) (args := #[.int .u64 (x.2 : Int), .int .i64 4]) (by go_simp) (num4 x.2 HX32.out u) fun e u' hu => ?_)
          try simp only [nrm, Act.put]
          obtain ⟨gb, he, hr, hb⟩ := hu
          refine ⟨_, he, (fun u => (((Below w7.heap.size w7 u) ∧ Rd u (some ⟨uc.heap.size, 0, none⟩) x.1) ∧ Rd u (some ⟨ga, 0, none⟩) (beL (x.1.length : Int) 1)) ∧ Rd u (some ⟨gb, 0, none⟩) (beL (x.2 : Int) 4)), ⟨(kept_and (kept_and (kept_below _) (kept_rd _ _)) (kept_rd _ _)) _ _ hS hb, hr⟩, kept_and (kept_and (kept_and (kept_below _) (kept_rd _ _)) (kept_rd _ _)) (kept_rd _ _), fun _ _ h => h.1, ?_⟩
          clear hr hb he hS
          try simp only [nrm, Act.put]
          refine wpAnyV_only (i := 13) rfl (by kernel_rfl) rfl (fun ub hS => wp_of_run2 (run_parts4 rfl rfl rfl rfl rfl rfl rfl rfl rfl) ⟨(fun u => ((((Below w7.heap.size w7 u) ∧ Rd u (some ⟨uc.heap.size, 0, none⟩) x.1) ∧ Rd u (some ⟨ga, 0, none⟩) (beL (x.1.length : Int) 1)) ∧ Rd u (some ⟨gb, 0, none⟩) (beL (x.2 : Int) 4)) ∧ Cs u ub.heap.size 25 #[.slice A4 lv.length c4, .slice (some ⟨ga, 0, none⟩) 1 1, .slice (some ⟨uc.heap.size, 0, none⟩) x.1.length cc, .slice (some ⟨gb, 0, none⟩) 4 4]), ⟨(kept_and (kept_and (kept_and (kept_below _) (kept_rd _ _)) (kept_rd _ _)) (kept_rd _ _)) _ _ hS ((Below.refl _ _).alloc (Nat.le_refl _) _), Cs.new _ _ _⟩, kept_and (kept_and (kept_and (kept_and (kept_below _) (kept_rd _ _)) (kept_rd _ _)) (kept_rd _ _)) (kept_cs _ _ _), fun _ _ h => h.1, ?_⟩)
          try simp only [nrm, Act.put]
          refine wpAnyV_only (i := 14) rfl (by kernel_rfl) rfl (fun u hS => wp_of_call (f := 45) (args := #[.slice (some ⟨ub.heap.size, 0, none⟩) 4 4]) (by go_simp) (Concat_n ub.heap.size [(A4, c4, lv), (some ⟨ga, 0, none⟩, 1, beL (x.1.length : Int) 1), (some ⟨uc.heap.size, 0, none⟩, cc, x.1), (some ⟨gb, 0, none⟩, 4, beL (x.2 : Int) 4)] u (by simp) (by simp [flatP, beL_length]; try omega) (by simp [flatP, beL_length]; have h1 := HLQ.out; have h2 := HXN.out; omega) (PartAt.mk4 hS.2 (HR7.out.below hS.1.1.1.1) HN5.out (hS.1.1.2) (fun h => by cases h) (hS.1.1.1.2) (fun h => by cases h) (hS.1.2) (fun h => by cases h))) fun e u' hu => ?_)
          try simp only [nrm, Act.put]
          obtain ⟨vz, he, hnv, hb⟩ := hu
          refine ⟨vz, he, fun z => (fun u => ((((Below w7.heap.size w7 u) ∧ Rd u (some ⟨uc.heap.size, 0, none⟩) x.1) ∧ Rd u (some ⟨ga, 0, none⟩) (beL (x.1.length : Int) 1)) ∧ Rd u (some ⟨gb, 0, none⟩) (beL (x.2 : Int) 4)) ∧ Cs u ub.heap.size 25 #[.slice A4 lv.length c4, .slice (some ⟨ga, 0, none⟩) 1 1, .slice (some ⟨uc.heap.size, 0, none⟩) x.1.length cc, .slice (some ⟨gb, 0, none⟩) 4 4]) z ∧ NewV z (w7.heap.size ≤ ·) vz (flatP [(A4, c4, lv), (some ⟨ga, 0, none⟩, 1, beL (x.1.length : Int) 1), (some ⟨uc.heap.size, 0, none⟩, cc, x.1), (some ⟨gb, 0, none⟩, 4, beL (x.2 : Int) 4)]), ⟨(kept_and (kept_and (kept_and (kept_and (kept_below _) (kept_rd _ _)) (kept_rd _ _)) (kept_rd _ _)) (kept_cs _ _ _)) _ _ hS hb, hnv.mono fun k _ hk => Nat.le_trans (hS.1.1.1.1).size hk⟩, kept_and (kept_and (kept_and (kept_and (kept_and (kept_below _) (kept_rd _ _)) (kept_rd _ _)) (kept_rd _ _)) (kept_cs _ _ _)) (kept_nv _ _ _), fun _ _ h => h.1, ?_⟩
          clear hnv hb he hS
          try simp only [nrm, Act.put]
          refine wpAnyV_only (i := 15) rfl (by kernel_rfl) rfl (fun u hS => wp_of_run2 (v := vz) (by go_simp) ⟨_, hS, kept_and (kept_and (kept_and (kept_and (kept_and (kept_below _) (kept_rd _ _)) (kept_rd _ _)) (kept_rd _ _)) (kept_cs _ _ _)) (kept_nv _ _ _), fun _ _ h => h, ?_⟩)
          try simp only [nrm, Act.put]
          refine wpAnyV_done (by kernel_rfl) (fun w9 hz => ?_) _
          have BY := Lib.hid (below_chain HB.out (below_chain B7.out hz.1.1.1.1.1))
          have VY := Lib.hid hz.2
          clear hz
          rw [show flatP _ = nodH n ++ (n.names.take (k + 1)).flatMap entV by rw [HTS.out, ← List.append_assoc, ← HLV.out]; simp [flatP, entV]] at VY
          have VX := Lib.hid (VY.out.mono (G := (w2.heap.size ≤ ·)) fun k _ hk => by have h1 := BZ.out.size; have h2 := HB.out.size; have h3 := B7.out.size; omega)
          clear VY
          go_wp2_with fail
          go_roundw
          case rel => exact ⟨k + 1, by go_num, hlt, VX.out, BY.out⟩
          case measure => simp [RowKit.intOf]; omega
      · obtain rfl : k = n.names.length := by omega
        obtain ⟨Az, nz, cz, rfl⟩ := hv.1.sl
        have VZr := Lib.hid (show NewV wr (w2.heap.size ≤ ·) (.slice Az nz cz) (nodV n) by rw [nodR_val]; exact hv)
        have Br := Lib.hid (below_chain B8.out hB)
        have C2r := Lib.hid (C28.out.below hB C28.out.lt)
        have C1r := Lib.hid (C18.out.below hB C18.out.lt)
        have q0 : wr.cell? ⟨g1, 0, none⟩ = some (.int .u32 (n.ino : Int)) := C1r.out.cell 0 (by simpa using Q0.out)
        clear hv hB
        go_wp2_with fail
        clear q0
        refine (num4 n.ino H0.out wr).mono ?_
        rintro e w9 ⟨gn, rfl, hr9, hb9⟩
        have R9 := Lib.hid hr9
        have B9 := Lib.hid hb9
        clear hr9 hb9
        go_wp2_with fail
        refine (key_v 110 (by decide) (some ⟨gn, 0, none⟩) 4 (beL (n.ino : Int) 4) w9 R9.out (fun h => by cases h) (by rw [beL_length]; decide)).mono ?_
        rintro e w10 ⟨rfl, hb10⟩
        have B10 := Lib.hid (below_chain Br.out (below_chain B9.out hb10))
        have C2a := Lib.hid (C2r.out.below (below_chain B9.out hb10) C2r.out.lt)
        have VZa := Lib.hid (VZr.out.below (below_chain B9.out hb10))
        clear hb10
        go_wp2_with (first
          | ((with_reducible show wpList _ _ _ _ _ w10); refine wpList_buildRw rfl _ _ rfl (110 :: beL (n.ino : Int) 4) Az nz cz rfl rfl ?_; go_frame)
          | ((with_reducible show wpList _ _ _ _ _ w10); refine wpList_storeS rfl 41 _ _ rfl g2 rfl [sv (110 :: beL (n.ino : Int) 4), .slice Az nz cz] rowZ rfl C2a.out rfl (by intro q hq; simp at hq; rcases hq with rfl | rfl; rfl; rfl) infoRow ?_; intro w11 hk2 ht2; go_frame; have C2z := Lib.hid hk2; have Tz := Lib.hid ht2; clear hk2 ht2)
          | fail)
        refine bodyPost_ret (results_agg (P := Tryd.prog) (p := 2) (ty := 41) rfl _ _ g2 0 [sv (110 :: beL (n.ino : Int) 4), .slice Az nz cz] rfl (At.whole C2z.out) _ Tryd.underlying41 rfl infoRow) rfl ?_
        refine ⟨.slice Az nz cz, rfl, ?_, B10.out.trans (Tz.out.below B10.out.size fun q e => e ▸ G2.out)⟩
        have hv := (VZa.out.turn Tz.out fun k hk e => by have := C2.out.lt; omega).mono (G := (w.heap.size ≤ ·)) fun k _ hk => by have := B2.out.size; omega
        rw [show nodV n = nodV n by rfl] at hv
        exact hv
  · go_enter Tryd.func23, Tryd.ntmps23
    go_wp2_with (first
      | ((with_reducible show wpList _ _ _ _ _ w); refine wpList_boxS rfl 48 _ rfl cs rfl ?_; intro g1 w1 hk1 hb1 hg1; go_frame; have C1 := Lib.hid hk1; have B1 := Lib.hid hb1; clear hk1 hb1 hg1)
      | ((with_reducible show wpList _ _ _ _ _ w1); refine wpList_allocS rfl 41 rfl rowZ rowZero ?_; intro g2 w2 hk1 hb1 hg1; go_frame; have C2 := Lib.hid hk1; have C12 := Lib.hid (C1.out.below hb1 C1.out.lt); have B2 := Lib.hid (below_chain B1.out hb1); have G2 := Lib.hid (Nat.le_trans B1.out.size hg1); have q2 : w2.cell? ⟨g1, 2, none⟩ = some (.bool true) := C12.out.cell 2 (by simpa using Q2.out); clear hk1 hb1 hg1)
      | fail)
    clear q2
    have HRD2 := Lib.hid (HRD.out.below B2.out)
    refine wp_region_V [] (fun u => Below w2.heap.size w2 u) hmix ((Below.refl _ _).drew) ?_
    change wpAnyV _ _ _ _ _ _ _ _ _
    refine wpAnyV_take (i := 0) (v := .pointer (some ⟨g1, 1, none⟩)) 20 (kept_below _) rfl (by kernel_rfl) (by kernel_rfl) (fun _ _ _ h => h) (fun _ h => h) (DoesV.reads (by rfl) fun w9 hS => by go_simp) ?_
    try simp only [nrm, Act.put]
    refine wpAnyV_take (i := 1) (v := .int .u32 (n.gen : Int)) 20 (kept_below _) rfl (by kernel_rfl) (by kernel_rfl) (fun _ _ _ h => h) (fun _ h => h) (DoesV.reads (by rfl) fun w9 hS => by have q0 : w9.cell? ⟨g1, 1, none⟩ = some (.int .u32 (n.gen : Int)) := (C12.out.below hS C12.out.lt).cell 1 (by simpa using Q1.out); go_simp) ?_
    try simp only [nrm, Act.put]
    refine wpAnyV_take (i := 2) (v := .int .u64 (n.gen : Int)) 20 (kept_below _) rfl (by kernel_rfl) (by kernel_rfl) (fun _ _ _ h => h) (fun _ h => h) (DoesV.reads (by rfl) fun w9 hS => by go_simp) ?_
    try simp only [nrm, Act.put]
    refine wpAnyV_take (i := 4) (v := .int .u64 1) 20 (kept_below _) rfl (by kernel_rfl) (by kernel_rfl) (fun _ _ _ h => h) (fun _ h => h) (DoesV.reads (by rfl) fun w9 hS => by go_simp) ?_
    try simp only [nrm, Act.put]
    refine wpAnyV_take (i := 6) (v := .pointer (some ⟨g1, 3, none⟩)) 20 (kept_below _) rfl (by kernel_rfl) (by kernel_rfl) (fun _ _ _ h => h) (fun _ h => h) (DoesV.reads (by rfl) fun w9 hS => by go_simp) ?_
    try simp only [nrm, Act.put]
    refine wpAnyV_take (i := 7) (v := .int .u64 (n.chg : Int)) 20 (kept_below _) rfl (by kernel_rfl) (by kernel_rfl) (fun _ _ _ h => h) (fun _ h => h) (DoesV.reads (by rfl) fun w9 hS => by have q0 : w9.cell? ⟨g1, 3, none⟩ = some (.int .u64 (n.chg : Int)) := (C12.out.below hS C12.out.lt).cell 3 (by simpa using Q3.out); go_simp) ?_
    try simp only [nrm, Act.put]
    refine wpAnyV_take (i := 9) (v := .pointer (some ⟨g1, 4, none⟩)) 20 (kept_below _) rfl (by kernel_rfl) (by kernel_rfl) (fun _ _ _ h => h) (fun _ h => h) (DoesV.reads (by rfl) fun w9 hS => by go_simp) ?_
    try simp only [nrm, Act.put]
    refine wpAnyV_take (i := 10) (v := .slice Ad n.data.length cd) 20 (kept_below _) rfl (by kernel_rfl) (by kernel_rfl) (fun _ _ _ h => h) (fun _ h => h) (DoesV.reads (by rfl) fun w9 hS => by have q0 : w9.cell? ⟨g1, 4, none⟩ = some (.slice Ad n.data.length cd) := (C12.out.below hS C12.out.lt).cell 4 (by simpa using Q4.out); go_simp) ?_
    try simp only [nrm, Act.put]
    refine wpAnyV_only (i := 3) rfl (by kernel_rfl) rfl (fun u hS => wp_of_call (f := 46) (args := #[.int .u64 (n.gen : Int), .int .i64 4]) (by go_simp) (num4 n.gen H1.out u) fun e u' hu => ?_)
    try simp only [nrm, Act.put]
    obtain ⟨gn0, he, hr, hb⟩ := hu
    refine ⟨_, he, (fun u => (Below w2.heap.size w2 u) ∧ Rd u (some ⟨gn0, 0, none⟩) (beL (n.gen : Int) 4)), ⟨(kept_below _) _ _ hS hb, hr⟩, kept_and (kept_below _) (kept_rd _ _), fun _ _ h => h.1, ?_⟩
    clear hr hb he hS
    try simp only [nrm, Act.put]
    refine wpAnyV_only (i := 5) rfl (by kernel_rfl) rfl (fun u hS => wp_of_call (f := 46) (args := #[.int .u64 1, .int .i64 1]) (by go_simp) (num1 1 (by decide) u) fun e u' hu => ?_)
    try simp only [nrm, Act.put]
    obtain ⟨gn1, he, hr, hb⟩ := hu
    refine ⟨_, he, (fun u => ((Below w2.heap.size w2 u) ∧ Rd u (some ⟨gn0, 0, none⟩) (beL (n.gen : Int) 4)) ∧ Rd u (some ⟨gn1, 0, none⟩) (beL ((1 : Nat) : Int) 1)), ⟨(kept_and (kept_below _) (kept_rd _ _)) _ _ hS hb, hr⟩, kept_and (kept_and (kept_below _) (kept_rd _ _)) (kept_rd _ _), fun _ _ h => h.1, ?_⟩
    clear hr hb he hS
    try simp only [nrm, Act.put]
    refine wpAnyV_only (i := 8) rfl (by kernel_rfl) rfl (fun u hS => wp_of_call (f := 46) (args := #[.int .u64 (n.chg : Int), .int .i64 8]) (by go_simp) (num8 n.chg H3.out u) fun e u' hu => ?_)
    try simp only [nrm, Act.put]
    obtain ⟨gn2, he, hr, hb⟩ := hu
    refine ⟨_, he, (fun u => (((Below w2.heap.size w2 u) ∧ Rd u (some ⟨gn0, 0, none⟩) (beL (n.gen : Int) 4)) ∧ Rd u (some ⟨gn1, 0, none⟩) (beL ((1 : Nat) : Int) 1)) ∧ Rd u (some ⟨gn2, 0, none⟩) (beL (n.chg : Int) 8)), ⟨(kept_and (kept_and (kept_below _) (kept_rd _ _)) (kept_rd _ _)) _ _ hS hb, hr⟩, kept_and (kept_and (kept_and (kept_below _) (kept_rd _ _)) (kept_rd _ _)) (kept_rd _ _), fun _ _ h => h.1, ?_⟩
    clear hr hb he hS
    try simp only [nrm, Act.put]
    refine wpAnyV_only (i := 11) rfl (by kernel_rfl) rfl (fun ub hS => wp_of_run2 (run_parts4 rfl rfl rfl rfl rfl rfl rfl rfl rfl) ⟨(fun u => ((((Below w2.heap.size w2 u) ∧ Rd u (some ⟨gn0, 0, none⟩) (beL (n.gen : Int) 4)) ∧ Rd u (some ⟨gn1, 0, none⟩) (beL ((1 : Nat) : Int) 1)) ∧ Rd u (some ⟨gn2, 0, none⟩) (beL (n.chg : Int) 8)) ∧ Cs u ub.heap.size 25 #[.slice (some ⟨gn0, 0, none⟩) 4 4, .slice (some ⟨gn1, 0, none⟩) 1 1, .slice (some ⟨gn2, 0, none⟩) 8 8, .slice Ad n.data.length cd]), ⟨(kept_and (kept_and (kept_and (kept_below _) (kept_rd _ _)) (kept_rd _ _)) (kept_rd _ _)) _ _ hS ((Below.refl _ _).alloc (Nat.le_refl _) _), Cs.new _ _ _⟩, kept_and (kept_and (kept_and (kept_and (kept_below _) (kept_rd _ _)) (kept_rd _ _)) (kept_rd _ _)) (kept_cs _ _ _), fun _ _ h => h.1, ?_⟩)
    try simp only [nrm, Act.put]
    refine wpAnyV_only (i := 12) rfl (by kernel_rfl) rfl (fun u hS => wp_of_call (f := 45) (args := #[.slice (some ⟨ub.heap.size, 0, none⟩) 4 4]) (by go_simp) (Concat_n ub.heap.size [(some ⟨gn0, 0, none⟩, 4, beL (n.gen : Int) 4), (some ⟨gn1, 0, none⟩, 1, beL ((1 : Nat) : Int) 1), (some ⟨gn2, 0, none⟩, 8, beL (n.chg : Int) 8), (Ad, cd, n.data)] u (by simp) (by simp [flatP, beL_length]; try omega) (by simp [flatP, beL_length]; have := HD.out; omega) (PartAt.mk4 hS.2 (hS.1.1.1.2) (fun h => by cases h) (hS.1.1.2) (fun h => by cases h) (hS.1.2) (fun h => by cases h) (HRD2.out.below (hS.1.1.1.1)) (HNL.out))) fun e u' hu => ?_)
    try simp only [nrm, Act.put]
    obtain ⟨vz, he, hnv, hb⟩ := hu
    refine ⟨vz, he, fun z => ((fun u => ((((Below w2.heap.size w2 u) ∧ Rd u (some ⟨gn0, 0, none⟩) (beL (n.gen : Int) 4)) ∧ Rd u (some ⟨gn1, 0, none⟩) (beL ((1 : Nat) : Int) 1)) ∧ Rd u (some ⟨gn2, 0, none⟩) (beL (n.chg : Int) 8)) ∧ Cs u ub.heap.size 25 #[.slice (some ⟨gn0, 0, none⟩) 4 4, .slice (some ⟨gn1, 0, none⟩) 1 1, .slice (some ⟨gn2, 0, none⟩) 8 8, .slice Ad n.data.length cd])) z ∧ NewV z (w2.heap.size ≤ ·) vz (flatP [(some ⟨gn0, 0, none⟩, 4, beL (n.gen : Int) 4), (some ⟨gn1, 0, none⟩, 1, beL ((1 : Nat) : Int) 1), (some ⟨gn2, 0, none⟩, 8, beL (n.chg : Int) 8), (Ad, cd, n.data)]), ⟨(kept_and (kept_and (kept_and (kept_and (kept_below _) (kept_rd _ _)) (kept_rd _ _)) (kept_rd _ _)) (kept_cs _ _ _)) _ _ hS hb, hnv.mono fun k _ hk => Nat.le_trans (hS.1.1.1.1).size hk⟩, kept_and (kept_and (kept_and (kept_and (kept_and (kept_below _) (kept_rd _ _)) (kept_rd _ _)) (kept_rd _ _)) (kept_cs _ _ _)) (kept_nv _ _ _), fun _ _ h => h.1, ?_⟩
    clear hnv hb he hS
    try simp only [nrm, Act.put]
    refine wpAnyV_only (i := 13) rfl (by kernel_rfl) rfl (fun u hS => wp_of_run2 (v := vz) (by go_simp) ⟨_, hS, kept_and (kept_and (kept_and (kept_and (kept_and (kept_below _) (kept_rd _ _)) (kept_rd _ _)) (kept_rd _ _)) (kept_cs _ _ _)) (kept_nv _ _ _), fun _ _ h => h, ?_⟩)
    try simp only [nrm, Act.put]
    refine wpAnyV_done (by kernel_rfl) (fun w8 hz => ?_) _
    have BZ := Lib.hid hz.1.1.1.1.1
    have VZ := Lib.hid hz.2
    clear hz
    obtain ⟨Az, nz, cz, rfl⟩ := VZ.out.1.sl
    rw [show flatP _ = nodH n by (simp [flatP, nodH]; rw [← HDN.out, hdn]; rfl)] at VZ
    have B8 := Lib.hid (below_chain B2.out BZ.out)
    have C28 := Lib.hid (C2.out.below BZ.out C2.out.lt)
    have C18 := Lib.hid (C12.out.below BZ.out C12.out.lt)
    have HR8 := Lib.hid (HR.out.below B8.out)
    have q5 : w8.cell? ⟨g1, 5, none⟩ = some (.slice A n.names.length c) := C18.out.cell 5 (by simpa using Q5.out)
    go_wp2_with fail
    clear q5
    go_loopw [4, 25] (fun v4 j wr => ∃ k : Nat, j = .int .i64 k ∧ k ≤ n.names.length ∧ NewV wr (w2.heap.size ≤ ·) v4 (nodH n ++ (n.names.take k).flatMap entV) ∧ Below w8.heap.size w8 wr) (fun _ j _ => n.names.length - (RowKit.intOf j).toNat)
    case atStart => exact ⟨0, rfl, Nat.zero_le _, by rw [List.take_zero, List.flatMap_nil, List.append_nil]; exact VZ.out, Below.refl _ _⟩
    case round =>
      obtain ⟨k, rfl, hk, hv, hB⟩ := hrel
      have HV := Lib.hid hv
      have HB := Lib.hid hB
      by_cases hlt : k < n.names.length
      · obtain ⟨b3, off3, xs, rfl, ⟨rfl, hx32⟩, hat⟩ := (HR8.out.below hB).get k hlt
        have HAT3 := Lib.hid hat
        have HTS := Lib.hid (take_flat hlt)
        have HLE := Lib.hid (take_flat_le HN.out HM.out k)
        have HX32 := Lib.hid hx32
        have HXN := Lib.hid (HN.out _ (List.getElem_mem hlt))
        generalize n.names[k] = x at *
        obtain ⟨A4, n4, c4, rfl⟩ := hv.1.sl
        have hpt := hv.1.parts
        obtain ⟨A5, c5, e5, hr5, hn5⟩ := hpt
        injection e5 with e51 e52 e53
        subst e51 e52 e53
        have HR5 := Lib.hid hr5
        have HN5 := Lib.hid hn5
        have HLQ := Lib.hid (show (nodH n ++ (n.names.take k).flatMap entV).length ≤ 5400 by rw [List.length_append, nodH_len]; have h1 := HLE.out; have h2 := HD.out; omega)
        obtain ⟨lv, hlv⟩ : ∃ lv, lv = nodH n ++ (n.names.take k).flatMap entV := ⟨_, rfl⟩
        rw [← hlv] at HV HR5 HN5 HLQ
        have HLV := Lib.hid hlv
        rw [← hlv]
        have ixl : (x.1.length : Int) ≤ 32 := by have := HXN.out; omega
        have j4 : IntKind.u64.wrap (x.1.length : Int) = x.1.length := by rw [IntKind.wrap_u64]; omega
        have j5 : IntKind.u64.wrap (x.2 : Int) = x.2 := by have := HX32.out; rw [IntKind.wrap_u64]; omega
        have hsz : (⟨x.1.toArray⟩ : ByteArray).size = x.1.length := by simp [ByteArray.size]
        clear hv hB hat hx32 hr5 hn5 hlv
        go_wp2_with (first
          | ((with_reducible show wpList _ _ _ _ _ wr); refine wpList_load_agg rfl 80 _ rfl b3 (off3 + k * 2) rfl [sv x.1, .int .u32 (x.2 : Int)] HAT3.out _ Tryd.underlying80 rfl infoEnB ?_; go_frame)
          | ((with_reducible show wpList _ _ _ _ _ wr); refine wpList_allocS rfl 80 rfl [sv [], .int .u32 0] entZeB ?_; intro g6 w6 hk1 hb1 hg1; go_frame; have C6 := Lib.hid hk1; have B6 := Lib.hid hb1; have G6 := Lib.hid hg1; clear hk1 hb1 hg1)
          | ((with_reducible show wpList _ _ _ _ _ w6); refine wpList_storeS rfl 80 _ _ rfl g6 rfl [sv x.1, .int .u32 (x.2 : Int)] [sv [], .int .u32 0] rfl C6.out rfl (by intro v hv; simp at hv; rcases hv with rfl | rfl <;> rfl) infoEnB ?_; intro w7 hk2 ht2; go_frame; have B7 := Lib.hid (show Below wr.heap.size wr w7 from below_turn B6.out ht2 B6.out.size G6.out); have C7 := Lib.hid hk2; clear hk2 ht2)
          | fail)
        have HR7 := Lib.hid (HR5.out.below B7.out)
        refine wp_region_V [] (fun u => Below w7.heap.size w7 u) hmix ((Below.refl _ _).drew) ?_
        change wpAnyV _ _ _ _ _ _ _ _ _
        refine wpAnyV_take (i := 0) (v := .slice A4 lv.length c4) 24 (kept_below _) rfl (by kernel_rfl) (by kernel_rfl) (fun _ _ _ h => h) (fun _ h => h) (DoesV.reads (by rfl) fun w9 hS => by go_simp) ?_
        try simp only [nrm, Act.put]
        refine wpAnyV_take (i := 1) (v := .pointer (some ⟨g6, 0, none⟩)) 24 (kept_below _) rfl (by kernel_rfl) (by kernel_rfl) (fun _ _ _ h => h) (fun _ h => h) (DoesV.reads (by rfl) fun w9 hS => by go_simp) ?_
        try simp only [nrm, Act.put]
        refine wpAnyV_take (i := 2) (v := sv x.1) 24 (kept_below _) rfl (by kernel_rfl) (by kernel_rfl) (fun _ _ _ h => h) (fun _ h => h) (DoesV.reads (by rfl) fun w9 hS => by have q0 : w9.cell? ⟨g6, 0, none⟩ = some (sv x.1) := (C7.out.below hS C7.out.lt).cell 0 rfl; go_simp) ?_
        try simp only [nrm, Act.put]
        refine wpAnyV_take (i := 3) (v := .int .i64 (x.1.length : Int)) 24 (kept_below _) rfl (by kernel_rfl) (by kernel_rfl) (fun _ _ _ h => h) (fun _ h => h) (DoesV.reads (by rfl) fun w9 hS => by unfold sv; go_simp; (try simp [hsz])) ?_
        try simp only [nrm, Act.put]
        refine wpAnyV_take (i := 4) (v := .int .u64 (x.1.length : Int)) 24 (kept_below _) rfl (by kernel_rfl) (by kernel_rfl) (fun _ _ _ h => h) (fun _ h => h) (DoesV.reads (by rfl) fun w9 hS => by go_simp) ?_
        try simp only [nrm, Act.put]
        refine wpAnyV_take (i := 6) (v := .pointer (some ⟨g6, 0, none⟩)) 24 (kept_below _) rfl (by kernel_rfl) (by kernel_rfl) (fun _ _ _ h => h) (fun _ h => h) (DoesV.reads (by rfl) fun w9 hS => by go_simp) ?_
        try simp only [nrm, Act.put]
        refine wpAnyV_take (i := 7) (v := sv x.1) 24 (kept_below _) rfl (by kernel_rfl) (by kernel_rfl) (fun _ _ _ h => h) (fun _ h => h) (DoesV.reads (by rfl) fun w9 hS => by have q0 : w9.cell? ⟨g6, 0, none⟩ = some (sv x.1) := (C7.out.below hS C7.out.lt).cell 0 rfl; go_simp) ?_
        try simp only [nrm, Act.put]
        refine wpAnyV_take (i := 9) (v := .pointer (some ⟨g6, 1, none⟩)) 24 (kept_below _) rfl (by kernel_rfl) (by kernel_rfl) (fun _ _ _ h => h) (fun _ h => h) (DoesV.reads (by rfl) fun w9 hS => by go_simp) ?_
        try simp only [nrm, Act.put]
        refine wpAnyV_take (i := 10) (v := .int .u32 (x.2 : Int)) 24 (kept_below _) rfl (by kernel_rfl) (by kernel_rfl) (fun _ _ _ h => h) (fun _ h => h) (DoesV.reads (by rfl) fun w9 hS => by have q0 : w9.cell? ⟨g6, 1, none⟩ = some (.int .u32 (x.2 : Int)) := (C7.out.below hS C7.out.lt).cell 1 rfl; go_simp) ?_
        try simp only [nrm, Act.put]
        refine wpAnyV_take (i := 11) (v := .int .u64 (x.2 : Int)) 24 (kept_below _) rfl (by kernel_rfl) (by kernel_rfl) (fun _ _ _ h => h) (fun _ h => h) (DoesV.reads (by rfl) fun w9 hS => by go_simp) ?_
        try simp only [nrm, Act.put]
        refine wpAnyV_two (i := 5) (j := 8) rfl rfl (by kernel_rfl) rfl rfl (fun u hS => wp_of_call (f := 46) (args := #[.int .u64 (x.1.length : Int), .int .i64 1]) (by go_simp) (num1 x.1.length (by have := HXN.out; omega) u) fun e u' hu => ?_) (fun uc hS => ?_)
        · try simp only [nrm, Act.put]
          obtain ⟨ga, he, hr, hb⟩ := hu
          refine ⟨_, he, (fun u => (Below w7.heap.size w7 u) ∧ Rd u (some ⟨ga, 0, none⟩) (beL (x.1.length : Int) 1)), ⟨(kept_below _) _ _ hS hb, hr⟩, kept_and (kept_below _) (kept_rd _ _), fun _ _ h => h.1, ?_⟩
          clear hr hb he hS
          try simp only [nrm, Act.put]
          refine wpAnyV_two (i := 8) (j := 12) rfl rfl (by kernel_rfl) rfl rfl (fun uc hS => ?_) (fun u hS => wp_of_call (f := 46) (args := #[.int .u64 (x.2 : Int), .int .i64 4]) (by go_simp) (num4 x.2 HX32.out u) fun e u' hu => ?_)
          · obtain ⟨W, cc, hcv, hb, hbs⟩ := conv_sv x.1 (by have := HXN.out; omega) uc
            have hrd := hbs.rdX
            refine wp_of_run2 (v := .slice (some ⟨uc.heap.size, 0, none⟩) x.1.length cc) (w' := W) (by go_simp) ⟨(fun u => ((Below w7.heap.size w7 u) ∧ Rd u (some ⟨ga, 0, none⟩) (beL (x.1.length : Int) 1)) ∧ Rd u (some ⟨uc.heap.size, 0, none⟩) x.1), ⟨(kept_and (kept_below _) (kept_rd _ _)) _ _ hS hb, hrd⟩, kept_and (kept_and (kept_below _) (kept_rd _ _)) (kept_rd _ _), fun _ _ h => h.1, ?_⟩
            clear hcv hb hbs hrd hS
            try simp only [nrm, Act.put]
            refine wpAnyV_only (i := 12) rfl (by kernel_rfl) rfl (fun u hS => wp_of_call (f := 46) (args := #[.int .u64 (x.2 : Int), .int .i64 4]) (by go_simp) (num4 x.2 HX32.out u) fun e u' hu => ?_)
            try simp only [nrm, Act.put]
            obtain ⟨gb, he, hr, hb⟩ := hu
            refine ⟨_, he, (fun u => (((Below w7.heap.size w7 u) ∧ Rd u (some ⟨ga, 0, none⟩) (beL (x.1.length : Int) 1)) ∧ Rd u (some ⟨uc.heap.size, 0, none⟩) x.1) ∧ Rd u (some ⟨gb, 0, none⟩) (beL (x.2 : Int) 4)), ⟨(kept_and (kept_and (kept_below _) (kept_rd _ _)) (kept_rd _ _)) _ _ hS hb, hr⟩, kept_and (kept_and (kept_and (kept_below _) (kept_rd _ _)) (kept_rd _ _)) (kept_rd _ _), fun _ _ h => h.1, ?_⟩
            clear hr hb he hS
            try simp only [nrm, Act.put]
            refine wpAnyV_only (i := 13) rfl (by kernel_rfl) rfl (fun ub hS => wp_of_run2 (run_parts4 rfl rfl rfl rfl rfl rfl rfl rfl rfl) ⟨(fun u => ((((Below w7.heap.size w7 u) ∧ Rd u (some ⟨ga, 0, none⟩) (beL (x.1.length : Int) 1)) ∧ Rd u (some ⟨uc.heap.size, 0, none⟩) x.1) ∧ Rd u (some ⟨gb, 0, none⟩) (beL (x.2 : Int) 4)) ∧ Cs u ub.heap.size 25 #[.slice A4 lv.length c4, .slice (some ⟨ga, 0, none⟩) 1 1, .slice (some ⟨uc.heap.size, 0, none⟩) x.1.length cc, .slice (some ⟨gb, 0, none⟩) 4 4]), ⟨(kept_and (kept_and (kept_and (kept_below _) (kept_rd _ _)) (kept_rd _ _)) (kept_rd _ _)) _ _ hS ((Below.refl _ _).alloc (Nat.le_refl _) _), Cs.new _ _ _⟩, kept_and (kept_and (kept_and (kept_and (kept_below _) (kept_rd _ _)) (kept_rd _ _)) (kept_rd _ _)) (kept_cs _ _ _), fun _ _ h => h.1, ?_⟩)
            try simp only [nrm, Act.put]
            refine wpAnyV_only (i := 14) rfl (by kernel_rfl) rfl (fun u hS => wp_of_call (f := 45) (args := #[.slice (some ⟨ub.heap.size, 0, none⟩) 4 4]) (by go_simp) (Concat_n ub.heap.size [(A4, c4, lv), (some ⟨ga, 0, none⟩, 1, beL (x.1.length : Int) 1), (some ⟨uc.heap.size, 0, none⟩, cc, x.1), (some ⟨gb, 0, none⟩, 4, beL (x.2 : Int) 4)] u (by simp) (by simp [flatP, beL_length]; try omega) (by simp [flatP, beL_length]; have h1 := HLQ.out; have h2 := HXN.out; omega) (PartAt.mk4 hS.2 (HR7.out.below hS.1.1.1.1) HN5.out (hS.1.1.1.2) (fun h => by cases h) (hS.1.1.2) (fun h => by cases h) (hS.1.2) (fun h => by cases h))) fun e u' hu => ?_)
            try simp only [nrm, Act.put]
            obtain ⟨vz, he, hnv, hb⟩ := hu
            refine ⟨vz, he, fun z => (fun u => ((((Below w7.heap.size w7 u) ∧ Rd u (some ⟨ga, 0, none⟩) (beL (x.1.length : Int) 1)) ∧ Rd u (some ⟨uc.heap.size, 0, none⟩) x.1) ∧ Rd u (some ⟨gb, 0, none⟩) (beL (x.2 : Int) 4)) ∧ Cs u ub.heap.size 25 #[.slice A4 lv.length c4, .slice (some ⟨ga, 0, none⟩) 1 1, .slice (some ⟨uc.heap.size, 0, none⟩) x.1.length cc, .slice (some ⟨gb, 0, none⟩) 4 4]) z ∧ NewV z (w7.heap.size ≤ ·) vz (flatP [(A4, c4, lv), (some ⟨ga, 0, none⟩, 1, beL (x.1.length : Int) 1), (some ⟨uc.heap.size, 0, none⟩, cc, x.1), (some ⟨gb, 0, none⟩, 4, beL (x.2 : Int) 4)]), ⟨(kept_and (kept_and (kept_and (kept_and (kept_below _) (kept_rd _ _)) (kept_rd _ _)) (kept_rd _ _)) (kept_cs _ _ _)) _ _ hS hb, hnv.mono fun k _ hk => Nat.le_trans (hS.1.1.1.1).size hk⟩, kept_and (kept_and (kept_and (kept_and (kept_and (kept_below _) (kept_rd _ _)) (kept_rd _ _)) (kept_rd _ _)) (kept_cs _ _ _)) (kept_nv _ _ _), fun _ _ h => h.1, ?_⟩
            clear hnv hb he hS
            try simp only [nrm, Act.put]
            refine wpAnyV_only (i := 15) rfl (by kernel_rfl) rfl (fun u hS => wp_of_run2 (v := vz) (by go_simp) ⟨_, hS, kept_and (kept_and (kept_and (kept_and (kept_and (kept_below _) (kept_rd _ _)) (kept_rd _ _)) (kept_rd _ _)) (kept_cs _ _ _)) (kept_nv _ _ _), fun _ _ h => h, ?_⟩)
            try simp only [nrm, Act.put]
            refine wpAnyV_done (by kernel_rfl) (fun w9 hz => ?_) _
            have BY := Lib.hid (below_chain HB.out (below_chain B7.out hz.1.1.1.1.1))
            have VY := Lib.hid hz.2
            clear hz
            rw [show flatP _ = nodH n ++ (n.names.take (k + 1)).flatMap entV by rw [HTS.out, ← List.append_assoc, ← HLV.out]; simp [flatP, entV]] at VY
            have VX := Lib.hid (VY.out.mono (G := (w2.heap.size ≤ ·)) fun k _ hk => by have h1 := BZ.out.size; have h2 := HB.out.size; have h3 := B7.out.size; omega)
            clear VY
            go_wp2_with fail
            go_roundw
            case rel => exact ⟨k + 1, by go_num, hlt, VX.out, BY.out⟩
            case measure => simp [RowKit.intOf]; omega
          · try simp only [nrm, Act.put]
            obtain ⟨gb, he, hr, hb⟩ := hu
            refine ⟨_, he, (fun u => ((Below w7.heap.size w7 u) ∧ Rd u (some ⟨ga, 0, none⟩) (beL (x.1.length : Int) 1)) ∧ Rd u (some ⟨gb, 0, none⟩) (beL (x.2 : Int) 4)), ⟨(kept_and (kept_below _) (kept_rd _ _)) _ _ hS hb, hr⟩, kept_and (kept_and (kept_below _) (kept_rd _ _)) (kept_rd _ _), fun _ _ h => h.1, ?_⟩
            clear hr hb he hS
            try simp only [nrm, Act.put]
            refine wpAnyV_only (i := 8) rfl (by kernel_rfl) rfl (fun uc hS => ?_)
            obtain ⟨W, cc, hcv, hb, hbs⟩ := conv_sv x.1 (by have := HXN.out; omega) uc
            have hrd := hbs.rdX
            refine wp_of_run2 (v := .slice (some ⟨uc.heap.size, 0, none⟩) x.1.length cc) (w' := W) (by go_simp) ⟨(fun u => (((Below w7.heap.size w7 u) ∧ Rd u (some ⟨ga, 0, none⟩) (beL (x.1.length : Int) 1)) ∧ Rd u (some ⟨gb, 0, none⟩) (beL (x.2 : Int) 4)) ∧ Rd u (some ⟨uc.heap.size, 0, none⟩) x.1), ⟨(kept_and (kept_and (kept_below _) (kept_rd _ _)) (kept_rd _ _)) _ _ hS hb, hrd⟩, kept_and (kept_and (kept_and (kept_below _) (kept_rd _ _)) (kept_rd _ _)) (kept_rd _ _), fun _ _ h => h.1, ?_⟩
            clear hcv hb hbs hrd hS
            try simp only [nrm, Act.put]
            refine wpAnyV_only (i := 13) rfl (by kernel_rfl) rfl (fun ub hS => wp_of_run2 (run_parts4 rfl rfl rfl rfl rfl rfl rfl rfl rfl) ⟨(fun u => ((((Below w7.heap.size w7 u) ∧ Rd u (some ⟨ga, 0, none⟩) (beL (x.1.length : Int) 1)) ∧ Rd u (some ⟨gb, 0, none⟩) (beL (x.2 : Int) 4)) ∧ Rd u (some ⟨uc.heap.size, 0, none⟩) x.1) ∧ Cs u ub.heap.size 25 #[.slice A4 lv.length c4, .slice (some ⟨ga, 0, none⟩) 1 1, .slice (some ⟨uc.heap.size, 0, none⟩) x.1.length cc, .slice (some ⟨gb, 0, none⟩) 4 4]), ⟨(kept_and (kept_and (kept_and (kept_below _) (kept_rd _ _)) (kept_rd _ _)) (kept_rd _ _)) _ _ hS ((Below.refl _ _).alloc (Nat.le_refl _) _), Cs.new _ _ _⟩, kept_and (kept_and (kept_and (kept_and (kept_below _) (kept_rd _ _)) (kept_rd _ _)) (kept_rd _ _)) (kept_cs _ _ _), fun _ _ h => h.1, ?_⟩)
            try simp only [nrm, Act.put]
            refine wpAnyV_only (i := 14) rfl (by kernel_rfl) rfl (fun u hS => wp_of_call (f := 45) (args := #[.slice (some ⟨ub.heap.size, 0, none⟩) 4 4]) (by go_simp) (Concat_n ub.heap.size [(A4, c4, lv), (some ⟨ga, 0, none⟩, 1, beL (x.1.length : Int) 1), (some ⟨uc.heap.size, 0, none⟩, cc, x.1), (some ⟨gb, 0, none⟩, 4, beL (x.2 : Int) 4)] u (by simp) (by simp [flatP, beL_length]; try omega) (by simp [flatP, beL_length]; have h1 := HLQ.out; have h2 := HXN.out; omega) (PartAt.mk4 hS.2 (HR7.out.below hS.1.1.1.1) HN5.out (hS.1.1.1.2) (fun h => by cases h) (hS.1.2) (fun h => by cases h) (hS.1.1.2) (fun h => by cases h))) fun e u' hu => ?_)
            try simp only [nrm, Act.put]
            obtain ⟨vz, he, hnv, hb⟩ := hu
            refine ⟨vz, he, fun z => (fun u => ((((Below w7.heap.size w7 u) ∧ Rd u (some ⟨ga, 0, none⟩) (beL (x.1.length : Int) 1)) ∧ Rd u (some ⟨gb, 0, none⟩) (beL (x.2 : Int) 4)) ∧ Rd u (some ⟨uc.heap.size, 0, none⟩) x.1) ∧ Cs u ub.heap.size 25 #[.slice A4 lv.length c4, .slice (some ⟨ga, 0, none⟩) 1 1, .slice (some ⟨uc.heap.size, 0, none⟩) x.1.length cc, .slice (some ⟨gb, 0, none⟩) 4 4]) z ∧ NewV z (w7.heap.size ≤ ·) vz (flatP [(A4, c4, lv), (some ⟨ga, 0, none⟩, 1, beL (x.1.length : Int) 1), (some ⟨uc.heap.size, 0, none⟩, cc, x.1), (some ⟨gb, 0, none⟩, 4, beL (x.2 : Int) 4)]), ⟨(kept_and (kept_and (kept_and (kept_and (kept_below _) (kept_rd _ _)) (kept_rd _ _)) (kept_rd _ _)) (kept_cs _ _ _)) _ _ hS hb, hnv.mono fun k _ hk => Nat.le_trans (hS.1.1.1.1).size hk⟩, kept_and (kept_and (kept_and (kept_and (kept_and (kept_below _) (kept_rd _ _)) (kept_rd _ _)) (kept_rd _ _)) (kept_cs _ _ _)) (kept_nv _ _ _), fun _ _ h => h.1, ?_⟩
            clear hnv hb he hS
            try simp only [nrm, Act.put]
            refine wpAnyV_only (i := 15) rfl (by kernel_rfl) rfl (fun u hS => wp_of_run2 (v := vz) (by go_simp) ⟨_, hS, kept_and (kept_and (kept_and (kept_and (kept_and (kept_below _) (kept_rd _ _)) (kept_rd _ _)) (kept_rd _ _)) (kept_cs _ _ _)) (kept_nv _ _ _), fun _ _ h => h, ?_⟩)
            try simp only [nrm, Act.put]
            refine wpAnyV_done (by kernel_rfl) (fun w9 hz => ?_) _
            have BY := Lib.hid (below_chain HB.out (below_chain B7.out hz.1.1.1.1.1))
            have VY := Lib.hid hz.2
            clear hz
            rw [show flatP _ = nodH n ++ (n.names.take (k + 1)).flatMap entV by rw [HTS.out, ← List.append_assoc, ← HLV.out]; simp [flatP, entV]] at VY
            have VX := Lib.hid (VY.out.mono (G := (w2.heap.size ≤ ·)) fun k _ hk => by have h1 := BZ.out.size; have h2 := HB.out.size; have h3 := B7.out.size; omega)
            clear VY
            go_wp2_with fail
            go_roundw
            case rel => exact ⟨k + 1, by go_num, hlt, VX.out, BY.out⟩
            case measure => simp [RowKit.intOf]; omega
        · obtain ⟨W, cc, hcv, hb, hbs⟩ := conv_sv x.1 (by have := HXN.out; omega) uc
          have hrd := hbs.rdX
          refine wp_of_run2 (v := .slice (some ⟨uc.heap.size, 0, none⟩) x.1.length cc) (w' := W) (by go_simp) ⟨(fun u => (Below w7.heap.size w7 u) ∧ Rd u (some ⟨uc.heap.size, 0, none⟩) x.1), ⟨(kept_below _) _ _ hS hb, hrd⟩, kept_and (kept_below _) (kept_rd _ _), fun _ _ h => h.1, ?_⟩
          clear hcv hb hbs hrd hS
          try simp only [nrm, Act.put]
          refine wpAnyV_only (i := 5) rfl (by kernel_rfl) rfl (fun u hS => wp_of_call (f := 46) (args := #[.int .u64 (x.1.length : Int), .int .i64 1]) (by go_simp) (num1 x.1.length (by have := HXN.out; omega) u) fun e u' hu => ?_)
          try simp only [nrm, Act.put]
          obtain ⟨ga, he, hr, hb⟩ := hu
          refine ⟨_, he, (fun u => ((Below w7.heap.size w7 u) ∧ Rd u (some ⟨uc.heap.size, 0, none⟩) x.1) ∧ Rd u (some ⟨ga, 0, none⟩) (beL (x.1.length : Int) 1)), ⟨(kept_and (kept_below _) (kept_rd _ _)) _ _ hS hb, hr⟩, kept_and (kept_and (kept_below _) (kept_rd _ _)) (kept_rd _ _), fun _ _ h => h.1, ?_⟩
          clear hr hb he hS
          try simp only [nrm, Act.put]
          refine wpAnyV_only (i := 12) rfl (by kernel_rfl) rfl (fun u hS => wp_of_call (f := 46) (args := #[.int .u64 (x.2 : Int), .int .i64 4]) (by go_simp) (num4 x.2 HX32.out u) fun e u' hu => ?_)
          try simp only [nrm, Act.put]
          obtain ⟨gb, he, hr, hb⟩ := hu
          refine ⟨_, he, (fun u => (((Below w7.heap.size w7 u) ∧ Rd u (some ⟨uc.heap.size, 0, none⟩) x.1) ∧ Rd u (some ⟨ga, 0, none⟩) (beL (x.1.length : Int) 1)) ∧ Rd u (some ⟨gb, 0, none⟩) (beL (x.2 : Int) 4)), ⟨(kept_and (kept_and (kept_below _) (kept_rd _ _)) (kept_rd _ _)) _ _ hS hb, hr⟩, kept_and (kept_and (kept_and (kept_below _) (kept_rd _ _)) (kept_rd _ _)) (kept_rd _ _), fun _ _ h => h.1, ?_⟩
          clear hr hb he hS
          try simp only [nrm, Act.put]
          refine wpAnyV_only (i := 13) rfl (by kernel_rfl) rfl (fun ub hS => wp_of_run2 (run_parts4 rfl rfl rfl rfl rfl rfl rfl rfl rfl) ⟨(fun u => ((((Below w7.heap.size w7 u) ∧ Rd u (some ⟨uc.heap.size, 0, none⟩) x.1) ∧ Rd u (some ⟨ga, 0, none⟩) (beL (x.1.length : Int) 1)) ∧ Rd u (some ⟨gb, 0, none⟩) (beL (x.2 : Int) 4)) ∧ Cs u ub.heap.size 25 #[.slice A4 lv.length c4, .slice (some ⟨ga, 0, none⟩) 1 1, .slice (some ⟨uc.heap.size, 0, none⟩) x.1.length cc, .slice (some ⟨gb, 0, none⟩) 4 4]), ⟨(kept_and (kept_and (kept_and (kept_below _) (kept_rd _ _)) (kept_rd _ _)) (kept_rd _ _)) _ _ hS ((Below.refl _ _).alloc (Nat.le_refl _) _), Cs.new _ _ _⟩, kept_and (kept_and (kept_and (kept_and (kept_below _) (kept_rd _ _)) (kept_rd _ _)) (kept_rd _ _)) (kept_cs _ _ _), fun _ _ h => h.1, ?_⟩)
          try simp only [nrm, Act.put]
          refine wpAnyV_only (i := 14) rfl (by kernel_rfl) rfl (fun u hS => wp_of_call (f := 45) (args := #[.slice (some ⟨ub.heap.size, 0, none⟩) 4 4]) (by go_simp) (Concat_n ub.heap.size [(A4, c4, lv), (some ⟨ga, 0, none⟩, 1, beL (x.1.length : Int) 1), (some ⟨uc.heap.size, 0, none⟩, cc, x.1), (some ⟨gb, 0, none⟩, 4, beL (x.2 : Int) 4)] u (by simp) (by simp [flatP, beL_length]; try omega) (by simp [flatP, beL_length]; have h1 := HLQ.out; have h2 := HXN.out; omega) (PartAt.mk4 hS.2 (HR7.out.below hS.1.1.1.1) HN5.out (hS.1.1.2) (fun h => by cases h) (hS.1.1.1.2) (fun h => by cases h) (hS.1.2) (fun h => by cases h))) fun e u' hu => ?_)
          try simp only [nrm, Act.put]
          obtain ⟨vz, he, hnv, hb⟩ := hu
          refine ⟨vz, he, fun z => (fun u => ((((Below w7.heap.size w7 u) ∧ Rd u (some ⟨uc.heap.size, 0, none⟩) x.1) ∧ Rd u (some ⟨ga, 0, none⟩) (beL (x.1.length : Int) 1)) ∧ Rd u (some ⟨gb, 0, none⟩) (beL (x.2 : Int) 4)) ∧ Cs u ub.heap.size 25 #[.slice A4 lv.length c4, .slice (some ⟨ga, 0, none⟩) 1 1, .slice (some ⟨uc.heap.size, 0, none⟩) x.1.length cc, .slice (some ⟨gb, 0, none⟩) 4 4]) z ∧ NewV z (w7.heap.size ≤ ·) vz (flatP [(A4, c4, lv), (some ⟨ga, 0, none⟩, 1, beL (x.1.length : Int) 1), (some ⟨uc.heap.size, 0, none⟩, cc, x.1), (some ⟨gb, 0, none⟩, 4, beL (x.2 : Int) 4)]), ⟨(kept_and (kept_and (kept_and (kept_and (kept_below _) (kept_rd _ _)) (kept_rd _ _)) (kept_rd _ _)) (kept_cs _ _ _)) _ _ hS hb, hnv.mono fun k _ hk => Nat.le_trans (hS.1.1.1.1).size hk⟩, kept_and (kept_and (kept_and (kept_and (kept_and (kept_below _) (kept_rd _ _)) (kept_rd _ _)) (kept_rd _ _)) (kept_cs _ _ _)) (kept_nv _ _ _), fun _ _ h => h.1, ?_⟩
          clear hnv hb he hS
          try simp only [nrm, Act.put]
          refine wpAnyV_only (i := 15) rfl (by kernel_rfl) rfl (fun u hS => wp_of_run2 (v := vz) (by go_simp) ⟨_, hS, kept_and (kept_and (kept_and (kept_and (kept_and (kept_below _) (kept_rd _ _)) (kept_rd _ _)) (kept_rd _ _)) (kept_cs _ _ _)) (kept_nv _ _ _), fun _ _ h => h, ?_⟩)
          try simp only [nrm, Act.put]
          refine wpAnyV_done (by kernel_rfl) (fun w9 hz => ?_) _
          have BY := Lib.hid (below_chain HB.out (below_chain B7.out hz.1.1.1.1.1))
          have VY := Lib.hid hz.2
          clear hz
          rw [show flatP _ = nodH n ++ (n.names.take (k + 1)).flatMap entV by rw [HTS.out, ← List.append_assoc, ← HLV.out]; simp [flatP, entV]] at VY
          have VX := Lib.hid (VY.out.mono (G := (w2.heap.size ≤ ·)) fun k _ hk => by have h1 := BZ.out.size; have h2 := HB.out.size; have h3 := B7.out.size; omega)
          clear VY
          go_wp2_with fail
          go_roundw
          case rel => exact ⟨k + 1, by go_num, hlt, VX.out, BY.out⟩
          case measure => simp [RowKit.intOf]; omega
      · obtain rfl : k = n.names.length := by omega
        obtain ⟨Az, nz, cz, rfl⟩ := hv.1.sl
        have VZr := Lib.hid (show NewV wr (w2.heap.size ≤ ·) (.slice Az nz cz) (nodV n) by rw [nodR_val]; exact hv)
        have Br := Lib.hid (below_chain B8.out hB)
        have C2r := Lib.hid (C28.out.below hB C28.out.lt)
        have C1r := Lib.hid (C18.out.below hB C18.out.lt)
        have q0 : wr.cell? ⟨g1, 0, none⟩ = some (.int .u32 (n.ino : Int)) := C1r.out.cell 0 (by simpa using Q0.out)
        clear hv hB
        go_wp2_with fail
        clear q0
        refine (num4 n.ino H0.out wr).mono ?_
        rintro e w9 ⟨gn, rfl, hr9, hb9⟩
        have R9 := Lib.hid hr9
        have B9 := Lib.hid hb9
        clear hr9 hb9
        go_wp2_with fail
        refine (key_v 110 (by decide) (some ⟨gn, 0, none⟩) 4 (beL (n.ino : Int) 4) w9 R9.out (fun h => by cases h) (by rw [beL_length]; decide)).mono ?_
        rintro e w10 ⟨rfl, hb10⟩
        have B10 := Lib.hid (below_chain Br.out (below_chain B9.out hb10))
        have C2a := Lib.hid (C2r.out.below (below_chain B9.out hb10) C2r.out.lt)
        have VZa := Lib.hid (VZr.out.below (below_chain B9.out hb10))
        clear hb10
        go_wp2_with (first
          | ((with_reducible show wpList _ _ _ _ _ w10); refine wpList_buildRw rfl _ _ rfl (110 :: beL (n.ino : Int) 4) Az nz cz rfl rfl ?_; go_frame)
          | ((with_reducible show wpList _ _ _ _ _ w10); refine wpList_storeS rfl 41 _ _ rfl g2 rfl [sv (110 :: beL (n.ino : Int) 4), .slice Az nz cz] rowZ rfl C2a.out rfl (by intro q hq; simp at hq; rcases hq with rfl | rfl; rfl; rfl) infoRow ?_; intro w11 hk2 ht2; go_frame; have C2z := Lib.hid hk2; have Tz := Lib.hid ht2; clear hk2 ht2)
          | fail)
        refine bodyPost_ret (results_agg (P := Tryd.prog) (p := 2) (ty := 41) rfl _ _ g2 0 [sv (110 :: beL (n.ino : Int) 4), .slice Az nz cz] rfl (At.whole C2z.out) _ Tryd.underlying41 rfl infoRow) rfl ?_
        refine ⟨.slice Az nz cz, rfl, ?_, B10.out.trans (Tz.out.below B10.out.size fun q e => e ▸ G2.out)⟩
        have hv := (VZa.out.turn Tz.out fun k hk e => by have := C2.out.lt; omega).mono (G := (w.heap.size ≤ ·)) fun k _ hk => by have := B2.out.size; omega
        rw [show nodV n = nodV n by rfl] at hv
        exact hv
end Go.Proofs.YtdhlejhflkfoaaaDoor
