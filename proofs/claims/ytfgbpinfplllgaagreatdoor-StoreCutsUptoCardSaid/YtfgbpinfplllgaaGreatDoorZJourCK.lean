/- SWEPT -/
import Derived.Test.YtfgbpinfplllgaaGreatDoorZJourAK
import Derived.Test.YtfgbpinfplllgaaGreatDoorZJourBK
set_option linter.unusedVariables false
set_option linter.unusedSimpArgs false
open List (getElem_toArray getElem_cons_succ getElem_cons_zero setIfInBounds_toArray set_cons_succ set_cons_zero)
open Go.Lib (hid)
namespace Go.Proofs.YtfgbpinfplllgaaGreatDoor
open Go.RowKit Go.Shelf
set_option maxRecDepth 100000
theorem kept_own (B : Nat) (F : Nat → Prop) (v : Value) (ls : List (List UInt8)) : Kept (fun u => OwnR u B F v ls) := fun u u' h hb => h.below hb
theorem kept_turn (W : World) (G : Nat → Prop) : Kept (Turn W · G) := fun u u' h hb => h.trans (Turn.of_below hb G) fun _ _ h => h
theorem wp_buildBs {w : World} {o : Oper} {a : Act} {Q : Exit → Act → World → Prop} {K : Act → World → Prop} (x : Operand) (ho : o.op = .buildSlice 53 1 #[(0, x)]) (A : Option Addr) (n c : Nat) (hx : a.eval x = .slice A n c)
    (hK : ∀ g w', Cs w' g 60 #[.slice A n c] → Below w.heap.size w w' → w.heap.size ≤ g → K (a.put o.dst (.slice (some ⟨g, 0, none⟩) 1 1)) w') : o.wp Tryz.prog a w K Q := by
  refine wp_of_run2 (v := .slice (some ⟨w.heap.size, 0, none⟩) 1 1) (w' := w.alloc (.cells #[.slice A n c] 60)) ?_ (hK _ _ (Cs.new _ _ _) ((Below.refl _ _).alloc (Nat.le_refl _) _) (Nat.le_refl _))
  unfold execOp
  simp only [ho, hx, List.map_toArray, List.map_cons, List.map_nil]
  go_simp
def tookJ (j : JS) (l : List UInt8) : JS := ⟨j.frm, j.batches ++ [l], j.used + manyL l, j.first, j.next + (manyL l : Int)⟩
set_option maxHeartbeats 4000000 in
theorem took_v {w : World} {jb d : Nat} {v : Value} {j : JS} {F : Nat → Prop} {A : Option Addr} {c : Nat} {l : List UInt8} (h : JAt w jb d v j F) (hr : Rd w A l) (hA : A = none → l = [] ∧ c = 0) (hl : l.length ≤ 524288) (hF : ∀ k, w.heap.size ≤ k → F k)
    (hu : j.used + manyL l ≤ 8192) (hn : j.next + (manyL l : Int) ≤ 2147483649) :
    Calls Tryz.prog 69 #[.pointer (some ⟨jb, 0, none⟩), .slice A l.length c] w fun e w' => e = .returned (.tuple #[]) ∧ ∃ v', JAt w' jb d v' (tookJ j l) F ∧ Turn w w' (fun k => k = jb ∨ F k) := by
  obtain ⟨hc, hown, hout, ⟨f1, f2, f3⟩, n1, n2, n3, n4⟩ := h
  obtain ⟨frm, bts, used, first, next⟩ := j
  dsimp only at hc hown hout f1 f2 f3 n1 n2 n3 n4 hu hn
  obtain ⟨Av, cv, rfl, hform⟩ := hown.form
  change Cs w jb 123 #[.pointer (some ⟨d, 0, none⟩), .int .i64 (frm : Int), .slice Av bts.length cv, .int .i64 (used : Int), .int .u32 first, .int .u64 next] at hc
  have hmix : Tryz.prog.follows .mixedOrders = true := by kernel_rfl
  have hmany : 1 ≤ manyL l := by rw [many_is]; omega
  have hcnt := fun u => count_any A l.length c u (by simp only [maxLen]; omega)
  rw [← many_is] at hcnt
  have hcl := fun u (hr : Rd u A l) => Clone_any l A c u (by omega) hr hA
  have c2 := hc.cell 2 rfl
  have c3 := hc.cell 3 rfl
  have c5 := hc.cell 5 rfl
  have HC := hid hc
  have HO := hid hown
  have HR := hid hr
  have HCT := hid hcnt
  have HCL := hid hcl
  have HFF := hid hF
  have HOUT := hid hout
  have HFM := hid hform
  clear hown hr hcnt hcl hF hout hform
  generalize hm : manyL l = m at *
  have HM := hid hm
  clear hm
  go_enter Tryz.func69, Tryz.ntmps69
  go_wp2_with fail
  refine wp_region_V [9, 13] (Below w.heap.size w) hmix ((Below.refl _ _).drew) ?_
  change wpAnyV _ _ _ _ _ _ _ _ _
  refine wpAnyV_pure (i := 0) (v := .pointer (some ⟨jb, 0, none⟩)) (kept_below w) rfl (by kernel_rfl) (by kernel_rfl) (fun _ _ _ h => h) (DR fun w9 hS => by go_simp) ?_
  try simp only [getElem_toArray, getElem_cons_succ, getElem_cons_zero, Act.put, setIfInBounds_toArray, set_cons_succ, set_cons_zero]
  refine wpW (i := 1) (v := .pointer (some ⟨jb, 0, none⟩)) (kept_below w) rfl (DR fun w9 hS => by go_simp) ?_
  try simp only [getElem_toArray, getElem_cons_succ, getElem_cons_zero, Act.put, setIfInBounds_toArray, set_cons_succ, set_cons_zero]
  refine wpW (i := 2) (v := .pointer (some ⟨jb, 0, none⟩)) (kept_below w) rfl (DR fun w9 hS => by go_simp) ?_
  try simp only [getElem_toArray, getElem_cons_succ, getElem_cons_zero, Act.put, setIfInBounds_toArray, set_cons_succ, set_cons_zero]
  refine wpW (i := 3) (v := .pointer (some ⟨jb, 2, none⟩)) (kept_below w) rfl (DR fun w9 hS => by go_simp) ?_
  try simp only [getElem_toArray, getElem_cons_succ, getElem_cons_zero, Act.put, setIfInBounds_toArray, set_cons_succ, set_cons_zero]
  refine wpW (i := 4) (v := .pointer (some ⟨jb, 2, none⟩)) (kept_below w) rfl (DR fun w9 hS => by go_simp) ?_
  try simp only [getElem_toArray, getElem_cons_succ, getElem_cons_zero, Act.put, setIfInBounds_toArray, set_cons_succ, set_cons_zero]
  refine wpW (i := 5) (v := .slice Av bts.length cv) (kept_below w) rfl (DR fun w9 hS => by have q0 := cell_below hS c2; go_simp) ?_
  try simp only [getElem_toArray, getElem_cons_succ, getElem_cons_zero, Act.put, setIfInBounds_toArray, set_cons_succ, set_cons_zero]
  refine wpW (i := 6) (v := .slice A l.length c) (kept_below w) rfl (DR fun w9 hS => by go_simp) ?_
  try simp only [getElem_toArray, getElem_cons_succ, getElem_cons_zero, Act.put, setIfInBounds_toArray, set_cons_succ, set_cons_zero]
  refine wpAnyV_only (i := 7) rfl (by kernel_rfl) rfl (fun u hS => wp_of_call (by go_simp) (HCL.out u (HR.out.below hS)) fun e u' ⟨v1, he, hv1, hb⟩ => ⟨v1, he, fun u => Below w.heap.size w u ∧ BsV u (w.heap.size ≤ ·) v1 l, ⟨below_chain hS hb, hv1.mono fun k _ hk => Nat.le_trans hS.size hk⟩, kept_and (kept_below w) (kept_bs _ _ _), fun _ u h => h.1, ?_⟩)
  try simp only [getElem_toArray, getElem_cons_succ, getElem_cons_zero, Act.put, setIfInBounds_toArray, set_cons_succ, set_cons_zero]
  obtain ⟨A1, c1, rfl, -⟩ := hv1
  refine wpAnyV_only (i := 8) rfl (by kernel_rfl) rfl (fun u hS => wp_buildBs _ rfl A1 l.length c1 rfl fun g8 u' hk hb hg => ⟨fun u => Below w.heap.size w u ∧ BsV u (w.heap.size ≤ ·) (.slice A1 l.length c1) l ∧ Cs u g8 60 #[.slice A1 l.length c1], ⟨below_chain hS.1 hb, hS.2.below hb, hk⟩, kept_and (kept_below w) (kept_and (kept_bs _ _ _) (kept_cs _ _ _)), fun _ u h => ⟨h.1, h.2.1⟩, ?_⟩)
  try simp only [getElem_toArray, getElem_cons_succ, getElem_cons_zero, Act.put, setIfInBounds_toArray, set_cons_succ, set_cons_zero]
  refine wpAnyV_only (i := 9) rfl (by kernel_rfl) rfl (fun u hS => wp_append_b1 _ _ rfl 0 F (.slice Av bts.length cv) bts rfl (HO.out.below hS.1) g8 1 rfl (.slice A1 l.length c1) l (hS.2.1.mono fun k _ hk => ⟨HFF.out k hk, fun e => by have := (HO.out.lt k e).2; omega⟩) (hS.2.2.cell 0 rfl) (by omega) (Nat.zero_le _) (HFF.out _ hS.1.size) fun v2 u' ho hg => ⟨fun u => Turn w u F ∧ OwnR u 0 F v2 (bts ++ [l]), ⟨(Turn.of_below hS.1 F).trans (Turn.of_grown hg) fun k _ e => HO.out.sub k e, ho⟩, (kept_and (kept_turn _ _) (kept_own _ _ _ _)), fun h => absurd (by simp) h, ?_⟩)
  try simp only [getElem_toArray, getElem_cons_succ, getElem_cons_zero, Act.put, setIfInBounds_toArray, set_cons_succ, set_cons_zero]
  obtain ⟨A2, c2', rfl, hform2⟩ := ho.form
  refine wpAnyV_pure (i := 10) (v := .pointer (some ⟨jb, 0, none⟩)) (kept_and (kept_turn _ _) (kept_own _ _ _ _)) rfl (by kernel_rfl) (by kernel_rfl) (fun _ _ _ h => h) (DR fun w9 hS => by go_simp) ?_
  try simp only [getElem_toArray, getElem_cons_succ, getElem_cons_zero, Act.put, setIfInBounds_toArray, set_cons_succ, set_cons_zero]
  refine wpAnyV_pure (i := 11) (v := .pointer (some ⟨jb, 2, none⟩)) (kept_and (kept_turn _ _) (kept_own _ _ _ _)) rfl (by kernel_rfl) (by kernel_rfl) (fun _ _ _ h => h) (DR fun w9 hS => by go_simp) ?_
  try simp only [getElem_toArray, getElem_cons_succ, getElem_cons_zero, Act.put, setIfInBounds_toArray, set_cons_succ, set_cons_zero]
  refine wpAnyV_pure (i := 12) (v := .pointer (some ⟨jb, 2, none⟩)) (kept_and (kept_turn _ _) (kept_own _ _ _ _)) rfl (by kernel_rfl) (by kernel_rfl) (fun _ _ _ h => h) (DR fun w9 hS => by go_simp) ?_
  try simp only [getElem_toArray, getElem_cons_succ, getElem_cons_zero, Act.put, setIfInBounds_toArray, set_cons_succ, set_cons_zero]
  refine wpAnyV_only (i := 13) rfl (by kernel_rfl) rfl (fun u hS => wp_store1 53 _ _ rfl jb 2 rfl (.slice A2 (bts ++ [l]).length c2') rfl rfl (by kernel_rfl) 123 _ (HC.out.turn hS.1 HOUT.out) (by simp) fun u' hk ht => ⟨fun u => Turn w u (fun k => k = jb ∨ F k) ∧ OwnR u 0 F (.slice A2 (bts ++ [l]).length c2') (bts ++ [l]) ∧ Cs u jb 123 #[.pointer (some ⟨d, 0, none⟩), .int .i64 (frm : Int), .slice A2 (bts ++ [l]).length c2', .int .i64 (used : Int), .int .u32 first, .int .u64 next], ⟨(hS.1.mono (G := fun k => k = jb ∨ F k) fun _ _ h => .inr h).trans ht fun k _ e => .inl e, hS.2.turn ht fun k hk e => HOUT.out (e ▸ hk), by simpa using hk⟩, (kept_and (kept_turn _ _) (kept_and (kept_own _ _ _ _) (kept_cs _ _ _))), fun h => absurd (by simp) h, ?_⟩)
  try simp only [getElem_toArray, getElem_cons_succ, getElem_cons_zero, Act.put, setIfInBounds_toArray, set_cons_succ, set_cons_zero]
  refine wpAnyV_done (by kernel_rfl) (fun y hu => ?_) _
  have HU := hid hu
  clear hu
  go_wp2_with fail
  refine wp_region_V [11] (fun u => Turn w u (fun k => k = jb ∨ F k) ∧ OwnR u 0 F (.slice A2 (bts ++ [l]).length c2') (bts ++ [l]) ∧ Cs u jb 123 #[.pointer (some ⟨d, 0, none⟩), .int .i64 (frm : Int), .slice A2 (bts ++ [l]).length c2', .int .i64 (used : Int), .int .u32 first, .int .u64 next]) hmix (⟨HU.out.1.trans (Turn.drew _ _) fun _ _ h => h, HU.out.2.1.turn (Turn.drew _ (fun _ => False)) (fun _ _ h => h), HU.out.2.2⟩) ?_
  change wpAnyV _ _ _ _ _ _ _ _ _
  refine wpW (i := 0) (v := .pointer (some ⟨jb, 0, none⟩)) (kept_and (kept_turn _ _) (kept_and (kept_own _ _ _ _) (kept_cs _ _ _))) rfl (DR fun w9 hS => by go_simp) ?_
  try simp only [getElem_toArray, getElem_cons_succ, getElem_cons_zero, Act.put, setIfInBounds_toArray, set_cons_succ, set_cons_zero]
  refine wpW (i := 1) (v := .pointer (some ⟨jb, 0, none⟩)) (kept_and (kept_turn _ _) (kept_and (kept_own _ _ _ _) (kept_cs _ _ _))) rfl (DR fun w9 hS => by go_simp) ?_
  try simp only [getElem_toArray, getElem_cons_succ, getElem_cons_zero, Act.put, setIfInBounds_toArray, set_cons_succ, set_cons_zero]
  refine wpW (i := 2) (v := .pointer (some ⟨jb, 2, none⟩)) (kept_and (kept_turn _ _) (kept_and (kept_own _ _ _ _) (kept_cs _ _ _))) rfl (DR fun w9 hS => by go_simp) ?_
  try simp only [getElem_toArray, getElem_cons_succ, getElem_cons_zero, Act.put, setIfInBounds_toArray, set_cons_succ, set_cons_zero]
  refine wpW (i := 3) (v := .pointer (some ⟨jb, 3, none⟩)) (kept_and (kept_turn _ _) (kept_and (kept_own _ _ _ _) (kept_cs _ _ _))) rfl (DR fun w9 hS => by go_simp) ?_
  try simp only [getElem_toArray, getElem_cons_succ, getElem_cons_zero, Act.put, setIfInBounds_toArray, set_cons_succ, set_cons_zero]
  refine wpW (i := 4) (v := .int .i64 (used : Int)) (kept_and (kept_turn _ _) (kept_and (kept_own _ _ _ _) (kept_cs _ _ _))) rfl (DR fun w9 hS => by have q0 := hS.2.2.cell 3 rfl; go_simp) ?_
  try simp only [getElem_toArray, getElem_cons_succ, getElem_cons_zero, Act.put, setIfInBounds_toArray, set_cons_succ, set_cons_zero]
  refine wpW (i := 5) (v := .slice A l.length c) (kept_and (kept_turn _ _) (kept_and (kept_own _ _ _ _) (kept_cs _ _ _))) rfl (DR fun w9 hS => by go_simp) ?_
  try simp only [getElem_toArray, getElem_cons_succ, getElem_cons_zero, Act.put, setIfInBounds_toArray, set_cons_succ, set_cons_zero]
  refine wpW (i := 6) (v := .int .i64 (m : Int)) (kept_and (kept_turn _ _) (kept_and (kept_own _ _ _ _) (kept_cs _ _ _))) rfl (DoesV.calls 105 #[.slice A l.length c] (by rfl) (fun w9 hS => by go_simp) (fun w9 hS => (HCT.out w9).mono fun e u ⟨h1, h2⟩ => ⟨h1, h2 ▸ Below.refl _ _⟩)) ?_
  try simp only [getElem_toArray, getElem_cons_succ, getElem_cons_zero, Act.put, setIfInBounds_toArray, set_cons_succ, set_cons_zero]
  refine wpW (i := 7) (v := .int .i64 ((used + m : Nat) : Int)) (kept_and (kept_turn _ _) (kept_and (kept_own _ _ _ _) (kept_cs _ _ _))) rfl (DR fun w9 hS => by go_simp; simp (disch := omega) only [IntWalk.i64_in, IntWalk.u32_in, IntWalk.u64_in, Int.natCast_add]) ?_
  try simp only [getElem_toArray, getElem_cons_succ, getElem_cons_zero, Act.put, setIfInBounds_toArray, set_cons_succ, set_cons_zero]
  refine wpW (i := 8) (v := .pointer (some ⟨jb, 0, none⟩)) (kept_and (kept_turn _ _) (kept_and (kept_own _ _ _ _) (kept_cs _ _ _))) rfl (DR fun w9 hS => by go_simp) ?_
  try simp only [getElem_toArray, getElem_cons_succ, getElem_cons_zero, Act.put, setIfInBounds_toArray, set_cons_succ, set_cons_zero]
  refine wpW (i := 9) (v := .pointer (some ⟨jb, 2, none⟩)) (kept_and (kept_turn _ _) (kept_and (kept_own _ _ _ _) (kept_cs _ _ _))) rfl (DR fun w9 hS => by go_simp) ?_
  try simp only [getElem_toArray, getElem_cons_succ, getElem_cons_zero, Act.put, setIfInBounds_toArray, set_cons_succ, set_cons_zero]
  refine wpW (i := 10) (v := .pointer (some ⟨jb, 3, none⟩)) (kept_and (kept_turn _ _) (kept_and (kept_own _ _ _ _) (kept_cs _ _ _))) rfl (DR fun w9 hS => by go_simp) ?_
  try simp only [getElem_toArray, getElem_cons_succ, getElem_cons_zero, Act.put, setIfInBounds_toArray, set_cons_succ, set_cons_zero]
  refine wpAnyV_only (i := 11) rfl (by kernel_rfl) rfl (fun u hS => wp_store1 3 _ _ rfl jb 3 rfl (.int .i64 ((used + m : Nat) : Int)) rfl rfl (by kernel_rfl) 123 _ (hS.2.2) (by simp) fun u' hk ht => ⟨fun u => Turn w u (fun k => k = jb ∨ F k) ∧ OwnR u 0 F (.slice A2 (bts ++ [l]).length c2') (bts ++ [l]) ∧ Cs u jb 123 #[.pointer (some ⟨d, 0, none⟩), .int .i64 (frm : Int), .slice A2 (bts ++ [l]).length c2', .int .i64 ((used + m : Nat) : Int), .int .u32 first, .int .u64 next], ⟨hS.1.trans ht fun k _ e => .inl e, hS.2.1.turn ht fun k hk e => HOUT.out (e ▸ hk), by simpa using hk⟩, (kept_and (kept_turn _ _) (kept_and (kept_own _ _ _ _) (kept_cs _ _ _))), fun h => absurd (by simp) h, ?_⟩)
  try simp only [getElem_toArray, getElem_cons_succ, getElem_cons_zero, Act.put, setIfInBounds_toArray, set_cons_succ, set_cons_zero]
  refine wpAnyV_done (by kernel_rfl) (fun y1 hu => ?_) _
  have HU1 := hid hu
  clear hu HU
  go_wp2_with fail
  refine wp_region_V [10] (fun u => Turn w u (fun k => k = jb ∨ F k) ∧ OwnR u 0 F (.slice A2 (bts ++ [l]).length c2') (bts ++ [l]) ∧ Cs u jb 123 #[.pointer (some ⟨d, 0, none⟩), .int .i64 (frm : Int), .slice A2 (bts ++ [l]).length c2', .int .i64 ((used + m : Nat) : Int), .int .u32 first, .int .u64 next]) hmix (⟨HU1.out.1.trans (Turn.drew _ _) fun _ _ h => h, HU1.out.2.1.turn (Turn.drew _ (fun _ => False)) (fun _ _ h => h), HU1.out.2.2⟩) ?_
  change wpAnyV _ _ _ _ _ _ _ _ _
  refine wpW (i := 0) (v := .pointer (some ⟨jb, 0, none⟩)) (kept_and (kept_turn _ _) (kept_and (kept_own _ _ _ _) (kept_cs _ _ _))) rfl (DR fun w9 hS => by go_simp) ?_
  try simp only [getElem_toArray, getElem_cons_succ, getElem_cons_zero, Act.put, setIfInBounds_toArray, set_cons_succ, set_cons_zero]
  refine wpW (i := 1) (v := .pointer (some ⟨jb, 0, none⟩)) (kept_and (kept_turn _ _) (kept_and (kept_own _ _ _ _) (kept_cs _ _ _))) rfl (DR fun w9 hS => by go_simp) ?_
  try simp only [getElem_toArray, getElem_cons_succ, getElem_cons_zero, Act.put, setIfInBounds_toArray, set_cons_succ, set_cons_zero]
  refine wpW (i := 2) (v := .pointer (some ⟨jb, 5, none⟩)) (kept_and (kept_turn _ _) (kept_and (kept_own _ _ _ _) (kept_cs _ _ _))) rfl (DR fun w9 hS => by go_simp) ?_
  try simp only [getElem_toArray, getElem_cons_succ, getElem_cons_zero, Act.put, setIfInBounds_toArray, set_cons_succ, set_cons_zero]
  refine wpW (i := 3) (v := .int .u64 next) (kept_and (kept_turn _ _) (kept_and (kept_own _ _ _ _) (kept_cs _ _ _))) rfl (DR fun w9 hS => by have q0 := hS.2.2.cell 5 rfl; go_simp) ?_
  try simp only [getElem_toArray, getElem_cons_succ, getElem_cons_zero, Act.put, setIfInBounds_toArray, set_cons_succ, set_cons_zero]
  refine wpW (i := 4) (v := .slice A l.length c) (kept_and (kept_turn _ _) (kept_and (kept_own _ _ _ _) (kept_cs _ _ _))) rfl (DR fun w9 hS => by go_simp) ?_
  try simp only [getElem_toArray, getElem_cons_succ, getElem_cons_zero, Act.put, setIfInBounds_toArray, set_cons_succ, set_cons_zero]
  refine wpW (i := 5) (v := .int .i64 (m : Int)) (kept_and (kept_turn _ _) (kept_and (kept_own _ _ _ _) (kept_cs _ _ _))) rfl (DoesV.calls 105 #[.slice A l.length c] (by rfl) (fun w9 hS => by go_simp) (fun w9 hS => (HCT.out w9).mono fun e u ⟨h1, h2⟩ => ⟨h1, h2 ▸ Below.refl _ _⟩)) ?_
  try simp only [getElem_toArray, getElem_cons_succ, getElem_cons_zero, Act.put, setIfInBounds_toArray, set_cons_succ, set_cons_zero]
  refine wpW (i := 6) (v := .int .u64 (m : Int)) (kept_and (kept_turn _ _) (kept_and (kept_own _ _ _ _) (kept_cs _ _ _))) rfl (DR fun w9 hS => by go_simp; simp (disch := omega) only [IntWalk.i64_in, IntWalk.u32_in, IntWalk.u64_in]) ?_
  try simp only [getElem_toArray, getElem_cons_succ, getElem_cons_zero, Act.put, setIfInBounds_toArray, set_cons_succ, set_cons_zero]
  refine wpW (i := 7) (v := .int .u64 (next + (m : Int))) (kept_and (kept_turn _ _) (kept_and (kept_own _ _ _ _) (kept_cs _ _ _))) rfl (DR fun w9 hS => by go_simp; simp (disch := omega) only [IntWalk.i64_in, IntWalk.u32_in, IntWalk.u64_in]) ?_
  try simp only [getElem_toArray, getElem_cons_succ, getElem_cons_zero, Act.put, setIfInBounds_toArray, set_cons_succ, set_cons_zero]
  refine wpW (i := 8) (v := .pointer (some ⟨jb, 0, none⟩)) (kept_and (kept_turn _ _) (kept_and (kept_own _ _ _ _) (kept_cs _ _ _))) rfl (DR fun w9 hS => by go_simp) ?_
  try simp only [getElem_toArray, getElem_cons_succ, getElem_cons_zero, Act.put, setIfInBounds_toArray, set_cons_succ, set_cons_zero]
  refine wpW (i := 9) (v := .pointer (some ⟨jb, 5, none⟩)) (kept_and (kept_turn _ _) (kept_and (kept_own _ _ _ _) (kept_cs _ _ _))) rfl (DR fun w9 hS => by go_simp) ?_
  try simp only [getElem_toArray, getElem_cons_succ, getElem_cons_zero, Act.put, setIfInBounds_toArray, set_cons_succ, set_cons_zero]
  refine wpAnyV_only (i := 10) rfl (by kernel_rfl) rfl (fun u hS => wp_store1 103 _ _ rfl jb 5 rfl (.int .u64 (next + (m : Int))) rfl rfl (by kernel_rfl) 123 _ (hS.2.2) (by simp) fun u' hk ht => ⟨fun u => Turn w u (fun k => k = jb ∨ F k) ∧ OwnR u 0 F (.slice A2 (bts ++ [l]).length c2') (bts ++ [l]) ∧ Cs u jb 123 #[.pointer (some ⟨d, 0, none⟩), .int .i64 (frm : Int), .slice A2 (bts ++ [l]).length c2', .int .i64 ((used + m : Nat) : Int), .int .u32 first, .int .u64 (next + (m : Int))], ⟨hS.1.trans ht fun k _ e => .inl e, hS.2.1.turn ht fun k hk e => HOUT.out (e ▸ hk), by simpa using hk⟩, (kept_and (kept_turn _ _) (kept_and (kept_own _ _ _ _) (kept_cs _ _ _))), fun h => absurd (by simp) h, ?_⟩)
  try simp only [getElem_toArray, getElem_cons_succ, getElem_cons_zero, Act.put, setIfInBounds_toArray, set_cons_succ, set_cons_zero]
  refine wpAnyV_done (by kernel_rfl) (fun y2 hu => ?_) _
  have HU2 := hid hu
  clear hu HU1
  go_wp2_with fail
  go_end0
  have hfin := HU2.out.2.2
  rw [← HM.out] at hfin
  refine ⟨rfl, _, ⟨hfin, HU2.out.2.1, HOUT.out, ⟨?_, ?_, f3⟩, n1, n2, ?_, ?_⟩, HU2.out.1⟩
  · show (bts ++ [l]).length ≤ used + manyL l
    rw [List.length_append, HM.out]
    simp only [List.length_singleton]
    omega
  · show used + manyL l ≤ 8192
    rw [HM.out]
    exact hu
  · show 0 < next + (manyL l : Int)
    omega
  · show next + (manyL l : Int) ≤ 2147483649
    rw [HM.out]
    exact hn
end Go.Proofs.YtfgbpinfplllgaaGreatDoor
namespace Go.Proofs.YtfgbpinfplllgaaGreatDoor
open Go.RowKit Go.Shelf
set_option maxRecDepth 100000
def fitsE (N : Int) (len : Nat) (many : Int) (room : Int) : Int := if 524288 < len then 3 else if 2147483648 < N + many - 1 then 3 else if room < many then 10 else 0
set_option maxHeartbeats 4000000 in
theorem fits_v {w : World} {jb : Nat} {N : Int} {A : Option Addr} {c : Nat} (l : List UInt8) {room : Int} (cn : w.cell? ⟨jb, 5, none⟩ = some (.int .u64 N)) (hl : l.length ≤ maxLen) (hN : 0 < N ∧ N ≤ 2147483649) (hr : 0 ≤ room ∧ room ≤ 1000000) :
    Calls Tryz.prog 63 #[.pointer (some ⟨jb, 0, none⟩), .slice A l.length c, .int .i64 room] w fun e w' => e = .returned (.int .i64 (fitsE N l.length (manyL l) room)) ∧ Below w.heap.size w w' := by
  have hmix : Tryz.prog.follows .mixedOrders = true := by kernel_rfl
  have hcnt := fun u => count_any A l.length c u hl
  rw [← many_is] at hcnt
  have hmb : manyL l ≤ l.length + 1 ∧ 1 ≤ manyL l := by rw [many_is]; omega
  have hml : l.length ≤ 9223372036854775807 := hl
  generalize manyL l = m at *
  generalize l.length = n at *
  unfold fitsE
  have HCT := hid hcnt
  clear hcnt hl
  by_cases hb : 524288 < n
  · have HBIG := hid hb
    have hb' : ((524288 : Int) < (n : Int)) := by omega
    rw [if_pos hb]
    go_enter Tryz.func63, Tryz.ntmps63
    go_wp2_with fail
    refine wp_region_V [] (Below w.heap.size w) hmix ((Below.refl _ _).drew) ?_
    change wpAnyV _ _ _ _ _ _ _ _ _
    refine wpW (i := 0) (v := .slice A n c) (kept_below w) rfl (DR fun w9 hS => by go_simp) ?_
    try simp only [getElem_toArray, getElem_cons_succ, getElem_cons_zero, Act.put, setIfInBounds_toArray, set_cons_succ, set_cons_zero]
    refine wpW (i := 1) (v := .int .i64 (n : Int)) (kept_below w) rfl (DR fun w9 hS => by go_simp) ?_
    try simp only [getElem_toArray, getElem_cons_succ, getElem_cons_zero, Act.put, setIfInBounds_toArray, set_cons_succ, set_cons_zero]
    refine wpW (i := 2) (v := .bool true) (kept_below w) rfl (DR fun w9 hS => by go_simp) ?_
    try simp only [getElem_toArray, getElem_cons_succ, getElem_cons_zero, Act.put, setIfInBounds_toArray, set_cons_succ, set_cons_zero]
    refine wpW (i := 3) (v := .bool true) (kept_below w) rfl (DR fun w9 hS => by go_simp) ?_
    try simp only [getElem_toArray, getElem_cons_succ, getElem_cons_zero, Act.put, setIfInBounds_toArray, set_cons_succ, set_cons_zero]
    refine wpW (i := 4) (v := undef) (kept_below w) rfl (DoesV.off (by rfl)) ?_
    try simp only [getElem_toArray, getElem_cons_succ, getElem_cons_zero, Act.put, setIfInBounds_toArray, set_cons_succ, set_cons_zero]
    refine wpW (i := 5) (v := undef) (kept_below w) rfl (DoesV.off (by rfl)) ?_
    try simp only [getElem_toArray, getElem_cons_succ, getElem_cons_zero, Act.put, setIfInBounds_toArray, set_cons_succ, set_cons_zero]
    refine wpW (i := 6) (v := undef) (kept_below w) rfl (DoesV.off (by rfl)) ?_
    try simp only [getElem_toArray, getElem_cons_succ, getElem_cons_zero, Act.put, setIfInBounds_toArray, set_cons_succ, set_cons_zero]
    refine wpW (i := 7) (v := undef) (kept_below w) rfl (DoesV.off (by rfl)) ?_
    try simp only [getElem_toArray, getElem_cons_succ, getElem_cons_zero, Act.put, setIfInBounds_toArray, set_cons_succ, set_cons_zero]
    refine wpW (i := 8) (v := undef) (kept_below w) rfl (DoesV.off (by rfl)) ?_
    try simp only [getElem_toArray, getElem_cons_succ, getElem_cons_zero, Act.put, setIfInBounds_toArray, set_cons_succ, set_cons_zero]
    refine wpW (i := 9) (v := undef) (kept_below w) rfl (DoesV.off (by rfl)) ?_
    try simp only [getElem_toArray, getElem_cons_succ, getElem_cons_zero, Act.put, setIfInBounds_toArray, set_cons_succ, set_cons_zero]
    refine wpW (i := 10) (v := undef) (kept_below w) rfl (DoesV.off (by rfl)) ?_
    try simp only [getElem_toArray, getElem_cons_succ, getElem_cons_zero, Act.put, setIfInBounds_toArray, set_cons_succ, set_cons_zero]
    refine wpW (i := 11) (v := undef) (kept_below w) rfl (DoesV.off (by rfl)) ?_
    try simp only [getElem_toArray, getElem_cons_succ, getElem_cons_zero, Act.put, setIfInBounds_toArray, set_cons_succ, set_cons_zero]
    refine wpW (i := 12) (v := undef) (kept_below w) rfl (DoesV.off (by rfl)) ?_
    try simp only [getElem_toArray, getElem_cons_succ, getElem_cons_zero, Act.put, setIfInBounds_toArray, set_cons_succ, set_cons_zero]
    refine wpW (i := 13) (v := undef) (kept_below w) rfl (DoesV.off (by rfl)) ?_
    try simp only [getElem_toArray, getElem_cons_succ, getElem_cons_zero, Act.put, setIfInBounds_toArray, set_cons_succ, set_cons_zero]
    refine wpW (i := 14) (v := .bool true) (kept_below w) rfl (DR fun w9 hS => by go_simp) ?_
    try simp only [getElem_toArray, getElem_cons_succ, getElem_cons_zero, Act.put, setIfInBounds_toArray, set_cons_succ, set_cons_zero]
    refine wpAnyV_done (by kernel_rfl) (fun y hu => ?_) _
    go_wp2_with fail
    go_ret
    exact ⟨rfl, hu⟩
  · have hb' : ¬ ((524288 : Int) < (n : Int)) := by omega
    rw [if_neg hb]
    by_cases ho : 2147483648 < N + (m : Int) - 1
    · rw [if_pos ho]
      go_enter Tryz.func63, Tryz.ntmps63
      go_wp2_with fail
      refine wp_region_V [] (Below w.heap.size w) hmix ((Below.refl _ _).drew) ?_
      change wpAnyV _ _ _ _ _ _ _ _ _
      refine wpW (i := 0) (v := .slice A n c) (kept_below w) rfl (DR fun w9 hS => by go_simp) ?_
      try simp only [getElem_toArray, getElem_cons_succ, getElem_cons_zero, Act.put, setIfInBounds_toArray, set_cons_succ, set_cons_zero]
      refine wpW (i := 1) (v := .int .i64 (n : Int)) (kept_below w) rfl (DR fun w9 hS => by go_simp) ?_
      try simp only [getElem_toArray, getElem_cons_succ, getElem_cons_zero, Act.put, setIfInBounds_toArray, set_cons_succ, set_cons_zero]
      refine wpW (i := 2) (v := .bool false) (kept_below w) rfl (DR fun w9 hS => by go_simp) ?_
      try simp only [getElem_toArray, getElem_cons_succ, getElem_cons_zero, Act.put, setIfInBounds_toArray, set_cons_succ, set_cons_zero]
      refine wpW (i := 3) (v := .bool false) (kept_below w) rfl (DR fun w9 hS => by go_simp) ?_
      try simp only [getElem_toArray, getElem_cons_succ, getElem_cons_zero, Act.put, setIfInBounds_toArray, set_cons_succ, set_cons_zero]
      refine wpW (i := 4) (v := .pointer (some ⟨jb, 0, none⟩)) (kept_below w) rfl (DR fun w9 hS => by go_simp) ?_
      try simp only [getElem_toArray, getElem_cons_succ, getElem_cons_zero, Act.put, setIfInBounds_toArray, set_cons_succ, set_cons_zero]
      refine wpW (i := 5) (v := .pointer (some ⟨jb, 0, none⟩)) (kept_below w) rfl (DR fun w9 hS => by go_simp) ?_
      try simp only [getElem_toArray, getElem_cons_succ, getElem_cons_zero, Act.put, setIfInBounds_toArray, set_cons_succ, set_cons_zero]
      refine wpW (i := 6) (v := .pointer (some ⟨jb, 5, none⟩)) (kept_below w) rfl (DR fun w9 hS => by go_simp) ?_
      try simp only [getElem_toArray, getElem_cons_succ, getElem_cons_zero, Act.put, setIfInBounds_toArray, set_cons_succ, set_cons_zero]
      refine wpW (i := 7) (v := .int .u64 N) (kept_below w) rfl (DR fun w9 hS => by have q0 := cell_below hS cn; go_simp) ?_
      try simp only [getElem_toArray, getElem_cons_succ, getElem_cons_zero, Act.put, setIfInBounds_toArray, set_cons_succ, set_cons_zero]
      refine wpW (i := 8) (v := .slice A n c) (kept_below w) rfl (DR fun w9 hS => by go_simp) ?_
      try simp only [getElem_toArray, getElem_cons_succ, getElem_cons_zero, Act.put, setIfInBounds_toArray, set_cons_succ, set_cons_zero]
      refine wpW (i := 9) (v := .int .i64 (m : Int)) (kept_below w) rfl (DoesV.calls 105 #[.slice A n c] (by rfl) (fun w9 hS => by go_simp) (fun w9 hS => (HCT.out w9).mono fun e u ⟨h1, h2⟩ => ⟨h1, h2 ▸ Below.refl _ _⟩)) ?_
      try simp only [getElem_toArray, getElem_cons_succ, getElem_cons_zero, Act.put, setIfInBounds_toArray, set_cons_succ, set_cons_zero]
      refine wpW (i := 10) (v := .int .u64 (m : Int)) (kept_below w) rfl (DR fun w9 hS => by go_simp; simp (disch := omega) only [IntWalk.i64_in, IntWalk.u32_in, IntWalk.u64_in]) ?_
      try simp only [getElem_toArray, getElem_cons_succ, getElem_cons_zero, Act.put, setIfInBounds_toArray, set_cons_succ, set_cons_zero]
      refine wpW (i := 11) (v := .int .u64 (N + (m : Int))) (kept_below w) rfl (DR fun w9 hS => by go_simp; simp (disch := omega) only [IntWalk.i64_in, IntWalk.u32_in, IntWalk.u64_in]) ?_
      try simp only [getElem_toArray, getElem_cons_succ, getElem_cons_zero, Act.put, setIfInBounds_toArray, set_cons_succ, set_cons_zero]
      refine wpW (i := 12) (v := .int .u64 (N + (m : Int) - 1)) (kept_below w) rfl (DR fun w9 hS => by go_simp; simp (disch := omega) only [IntWalk.i64_in, IntWalk.u32_in, IntWalk.u64_in]) ?_
      try simp only [getElem_toArray, getElem_cons_succ, getElem_cons_zero, Act.put, setIfInBounds_toArray, set_cons_succ, set_cons_zero]
      refine wpW (i := 13) (v := .bool true) (kept_below w) rfl (DR fun w9 hS => by go_simp) ?_
      try simp only [getElem_toArray, getElem_cons_succ, getElem_cons_zero, Act.put, setIfInBounds_toArray, set_cons_succ, set_cons_zero]
      refine wpW (i := 14) (v := .bool true) (kept_below w) rfl (DR fun w9 hS => by go_simp) ?_
      try simp only [getElem_toArray, getElem_cons_succ, getElem_cons_zero, Act.put, setIfInBounds_toArray, set_cons_succ, set_cons_zero]
      refine wpAnyV_done (by kernel_rfl) (fun y hu => ?_) _
      go_wp2_with fail
      go_ret
      exact ⟨rfl, hu⟩
    · rw [if_neg ho]
      have HO := hid ho
      by_cases hf : room < (m : Int)
      · rw [if_pos hf]
        go_enter Tryz.func63, Tryz.ntmps63
        go_wp2_with fail
        refine wp_region_V [] (Below w.heap.size w) hmix ((Below.refl _ _).drew) ?_
        change wpAnyV _ _ _ _ _ _ _ _ _
        refine wpW (i := 0) (v := .slice A n c) (kept_below w) rfl (DR fun w9 hS => by go_simp) ?_
        try simp only [getElem_toArray, getElem_cons_succ, getElem_cons_zero, Act.put, setIfInBounds_toArray, set_cons_succ, set_cons_zero]
        refine wpW (i := 1) (v := .int .i64 (n : Int)) (kept_below w) rfl (DR fun w9 hS => by go_simp) ?_
        try simp only [getElem_toArray, getElem_cons_succ, getElem_cons_zero, Act.put, setIfInBounds_toArray, set_cons_succ, set_cons_zero]
        refine wpW (i := 2) (v := .bool false) (kept_below w) rfl (DR fun w9 hS => by go_simp) ?_
        try simp only [getElem_toArray, getElem_cons_succ, getElem_cons_zero, Act.put, setIfInBounds_toArray, set_cons_succ, set_cons_zero]
        refine wpW (i := 3) (v := .bool false) (kept_below w) rfl (DR fun w9 hS => by go_simp) ?_
        try simp only [getElem_toArray, getElem_cons_succ, getElem_cons_zero, Act.put, setIfInBounds_toArray, set_cons_succ, set_cons_zero]
        refine wpW (i := 4) (v := .pointer (some ⟨jb, 0, none⟩)) (kept_below w) rfl (DR fun w9 hS => by go_simp) ?_
        try simp only [getElem_toArray, getElem_cons_succ, getElem_cons_zero, Act.put, setIfInBounds_toArray, set_cons_succ, set_cons_zero]
        refine wpW (i := 5) (v := .pointer (some ⟨jb, 0, none⟩)) (kept_below w) rfl (DR fun w9 hS => by go_simp) ?_
        try simp only [getElem_toArray, getElem_cons_succ, getElem_cons_zero, Act.put, setIfInBounds_toArray, set_cons_succ, set_cons_zero]
        refine wpW (i := 6) (v := .pointer (some ⟨jb, 5, none⟩)) (kept_below w) rfl (DR fun w9 hS => by go_simp) ?_
        try simp only [getElem_toArray, getElem_cons_succ, getElem_cons_zero, Act.put, setIfInBounds_toArray, set_cons_succ, set_cons_zero]
        refine wpW (i := 7) (v := .int .u64 N) (kept_below w) rfl (DR fun w9 hS => by have q0 := cell_below hS cn; go_simp) ?_
        try simp only [getElem_toArray, getElem_cons_succ, getElem_cons_zero, Act.put, setIfInBounds_toArray, set_cons_succ, set_cons_zero]
        refine wpW (i := 8) (v := .slice A n c) (kept_below w) rfl (DR fun w9 hS => by go_simp) ?_
        try simp only [getElem_toArray, getElem_cons_succ, getElem_cons_zero, Act.put, setIfInBounds_toArray, set_cons_succ, set_cons_zero]
        refine wpW (i := 9) (v := .int .i64 (m : Int)) (kept_below w) rfl (DoesV.calls 105 #[.slice A n c] (by rfl) (fun w9 hS => by go_simp) (fun w9 hS => (HCT.out w9).mono fun e u ⟨h1, h2⟩ => ⟨h1, h2 ▸ Below.refl _ _⟩)) ?_
        try simp only [getElem_toArray, getElem_cons_succ, getElem_cons_zero, Act.put, setIfInBounds_toArray, set_cons_succ, set_cons_zero]
        refine wpW (i := 10) (v := .int .u64 (m : Int)) (kept_below w) rfl (DR fun w9 hS => by go_simp; simp (disch := omega) only [IntWalk.i64_in, IntWalk.u32_in, IntWalk.u64_in]) ?_
        try simp only [getElem_toArray, getElem_cons_succ, getElem_cons_zero, Act.put, setIfInBounds_toArray, set_cons_succ, set_cons_zero]
        refine wpW (i := 11) (v := .int .u64 (N + (m : Int))) (kept_below w) rfl (DR fun w9 hS => by go_simp; simp (disch := omega) only [IntWalk.i64_in, IntWalk.u32_in, IntWalk.u64_in]) ?_
        try simp only [getElem_toArray, getElem_cons_succ, getElem_cons_zero, Act.put, setIfInBounds_toArray, set_cons_succ, set_cons_zero]
        refine wpW (i := 12) (v := .int .u64 (N + (m : Int) - 1)) (kept_below w) rfl (DR fun w9 hS => by go_simp; simp (disch := omega) only [IntWalk.i64_in, IntWalk.u32_in, IntWalk.u64_in]) ?_
        try simp only [getElem_toArray, getElem_cons_succ, getElem_cons_zero, Act.put, setIfInBounds_toArray, set_cons_succ, set_cons_zero]
        refine wpW (i := 13) (v := .bool false) (kept_below w) rfl (DR fun w9 hS => by go_simp) ?_
        try simp only [getElem_toArray, getElem_cons_succ, getElem_cons_zero, Act.put, setIfInBounds_toArray, set_cons_succ, set_cons_zero]
        refine wpW (i := 14) (v := .bool false) (kept_below w) rfl (DR fun w9 hS => by go_simp) ?_
        try simp only [getElem_toArray, getElem_cons_succ, getElem_cons_zero, Act.put, setIfInBounds_toArray, set_cons_succ, set_cons_zero]
        refine wpAnyV_done (by kernel_rfl) (fun y hu => ?_) _
        have HY := hid hu
        clear hu
        go_wp2_with fail
        refine (HCT.out _).mono ?_
        rintro e y' ⟨rfl, rfl⟩
        go_wp2_with fail
        go_ret
        exact ⟨rfl, HY.out⟩
      · rw [if_neg hf]
        go_enter Tryz.func63, Tryz.ntmps63
        go_wp2_with fail
        refine wp_region_V [] (Below w.heap.size w) hmix ((Below.refl _ _).drew) ?_
        change wpAnyV _ _ _ _ _ _ _ _ _
        refine wpW (i := 0) (v := .slice A n c) (kept_below w) rfl (DR fun w9 hS => by go_simp) ?_
        try simp only [getElem_toArray, getElem_cons_succ, getElem_cons_zero, Act.put, setIfInBounds_toArray, set_cons_succ, set_cons_zero]
        refine wpW (i := 1) (v := .int .i64 (n : Int)) (kept_below w) rfl (DR fun w9 hS => by go_simp) ?_
        try simp only [getElem_toArray, getElem_cons_succ, getElem_cons_zero, Act.put, setIfInBounds_toArray, set_cons_succ, set_cons_zero]
        refine wpW (i := 2) (v := .bool false) (kept_below w) rfl (DR fun w9 hS => by go_simp) ?_
        try simp only [getElem_toArray, getElem_cons_succ, getElem_cons_zero, Act.put, setIfInBounds_toArray, set_cons_succ, set_cons_zero]
        refine wpW (i := 3) (v := .bool false) (kept_below w) rfl (DR fun w9 hS => by go_simp) ?_
        try simp only [getElem_toArray, getElem_cons_succ, getElem_cons_zero, Act.put, setIfInBounds_toArray, set_cons_succ, set_cons_zero]
        refine wpW (i := 4) (v := .pointer (some ⟨jb, 0, none⟩)) (kept_below w) rfl (DR fun w9 hS => by go_simp) ?_
        try simp only [getElem_toArray, getElem_cons_succ, getElem_cons_zero, Act.put, setIfInBounds_toArray, set_cons_succ, set_cons_zero]
        refine wpW (i := 5) (v := .pointer (some ⟨jb, 0, none⟩)) (kept_below w) rfl (DR fun w9 hS => by go_simp) ?_
        try simp only [getElem_toArray, getElem_cons_succ, getElem_cons_zero, Act.put, setIfInBounds_toArray, set_cons_succ, set_cons_zero]
        refine wpW (i := 6) (v := .pointer (some ⟨jb, 5, none⟩)) (kept_below w) rfl (DR fun w9 hS => by go_simp) ?_
        try simp only [getElem_toArray, getElem_cons_succ, getElem_cons_zero, Act.put, setIfInBounds_toArray, set_cons_succ, set_cons_zero]
        refine wpW (i := 7) (v := .int .u64 N) (kept_below w) rfl (DR fun w9 hS => by have q0 := cell_below hS cn; go_simp) ?_
        try simp only [getElem_toArray, getElem_cons_succ, getElem_cons_zero, Act.put, setIfInBounds_toArray, set_cons_succ, set_cons_zero]
        refine wpW (i := 8) (v := .slice A n c) (kept_below w) rfl (DR fun w9 hS => by go_simp) ?_
        try simp only [getElem_toArray, getElem_cons_succ, getElem_cons_zero, Act.put, setIfInBounds_toArray, set_cons_succ, set_cons_zero]
        refine wpW (i := 9) (v := .int .i64 (m : Int)) (kept_below w) rfl (DoesV.calls 105 #[.slice A n c] (by rfl) (fun w9 hS => by go_simp) (fun w9 hS => (HCT.out w9).mono fun e u ⟨h1, h2⟩ => ⟨h1, h2 ▸ Below.refl _ _⟩)) ?_
        try simp only [getElem_toArray, getElem_cons_succ, getElem_cons_zero, Act.put, setIfInBounds_toArray, set_cons_succ, set_cons_zero]
        refine wpW (i := 10) (v := .int .u64 (m : Int)) (kept_below w) rfl (DR fun w9 hS => by go_simp; simp (disch := omega) only [IntWalk.i64_in, IntWalk.u32_in, IntWalk.u64_in]) ?_
        try simp only [getElem_toArray, getElem_cons_succ, getElem_cons_zero, Act.put, setIfInBounds_toArray, set_cons_succ, set_cons_zero]
        refine wpW (i := 11) (v := .int .u64 (N + (m : Int))) (kept_below w) rfl (DR fun w9 hS => by go_simp; simp (disch := omega) only [IntWalk.i64_in, IntWalk.u32_in, IntWalk.u64_in]) ?_
        try simp only [getElem_toArray, getElem_cons_succ, getElem_cons_zero, Act.put, setIfInBounds_toArray, set_cons_succ, set_cons_zero]
        refine wpW (i := 12) (v := .int .u64 (N + (m : Int) - 1)) (kept_below w) rfl (DR fun w9 hS => by go_simp; simp (disch := omega) only [IntWalk.i64_in, IntWalk.u32_in, IntWalk.u64_in]) ?_
        try simp only [getElem_toArray, getElem_cons_succ, getElem_cons_zero, Act.put, setIfInBounds_toArray, set_cons_succ, set_cons_zero]
        refine wpW (i := 13) (v := .bool false) (kept_below w) rfl (DR fun w9 hS => by go_simp) ?_
        try simp only [getElem_toArray, getElem_cons_succ, getElem_cons_zero, Act.put, setIfInBounds_toArray, set_cons_succ, set_cons_zero]
        refine wpW (i := 14) (v := .bool false) (kept_below w) rfl (DR fun w9 hS => by go_simp) ?_
        try simp only [getElem_toArray, getElem_cons_succ, getElem_cons_zero, Act.put, setIfInBounds_toArray, set_cons_succ, set_cons_zero]
        refine wpAnyV_done (by kernel_rfl) (fun y hu => ?_) _
        have HY := hid hu
        clear hu
        go_wp2_with fail
        refine (HCT.out _).mono ?_
        rintro e y' ⟨rfl, rfl⟩
        go_wp2_with fail
        go_ret
        exact ⟨rfl, HY.out⟩
def layR (s : DS) (N : Int) (l : List UInt8) (at' room : Int) : DS × Int := if s.dark then (s, 9) else if fitsE N l.length (manyL l) room ≠ 0 then (s, fitsE N l.length (manyL l) room) else wrs s at' (newBlks N (partsOf l))
theorem fits_zero {N : Int} {n : Nat} {m room : Int} (h : fitsE N n m room = 0) : n ≤ 524288 ∧ N + m - 1 ≤ 2147483648 ∧ m ≤ room := by
  unfold fitsE at h
  split at h
  · cases h
  · split at h
    · cases h
    · split at h
      · cases h
      · omega
theorem DiskV.within {w : World} {d : Nat} {s : DS} {F G : Nat → Prop} (h : DiskV w d s F) (hG : ∀ k, F k → k < w.heap.size → G k) : DiskV w d s G := by
  obtain ⟨p, h1, h2, h3⟩ := h
  exact ⟨p, h1, h2, fun k hk => hG k (h3 k hk) (foot_lt h2 k hk)⟩
set_option maxHeartbeats 4000000 in
theorem lay_v {w : World} {jb d : Nat} {N : Int} {s : DS} {F : Nat → Prop} {A : Option Addr} {c : Nat} (l : List UInt8) {at' room : Int} (hd : DiskV w d s F) (cd : w.cell? ⟨jb, 0, none⟩ = some (.pointer (some ⟨d, 0, none⟩))) (cn : w.cell? ⟨jb, 5, none⟩ = some (.int .u64 N)) (hjb : ¬ F jb)
    (hr : Rd w A l) (hA : A = none → l = [] ∧ c = 0) (hlc : l.length ≤ c) (hc : c ≤ maxLen) (hN : 0 < N ∧ N ≤ 2147483649) (hroom : 0 ≤ room ∧ room ≤ 20000) (hat : 0 ≤ at' ∧ at' ≤ 20000) (hs : s.steps + 30000 < 4611686018427387904) (hq : s.q.length + 30000 < 1099511627776) :
    Calls Tryz.prog 77 #[.pointer (some ⟨jb, 0, none⟩), .slice A l.length c, .int .i64 at', .int .i64 room] w fun e w' =>
      e = .returned (.int .i64 (layR s N l at' room).2) ∧ DiskV w' d (layR s N l at' room).1 (fun k => F k ∨ w.heap.size ≤ k) ∧ Turn w w' (fun k => F k ∨ w.heap.size ≤ k) := by
  have hfd := fun W (hb : Below w.heap.size w W) => refusedJ_v (hd.below hb)
  have hft := fun W (hb : Below w.heap.size w W) => fits_v (A := A) (c := c) l (room := room) (cell_below hb cn) (Nat.le_trans hlc hc) hN ⟨hroom.1, by omega⟩
  have HD := hid hd
  have HCD := hid cd
  have HCN := hid cn
  have HR := hid hr
  have HFT := hid hft
  have fin0 : ∀ W, Below w.heap.size w W → DiskV W d s (fun k => F k ∨ w.heap.size ≤ k) ∧ Turn w W (fun k => F k ∨ w.heap.size ≤ k) := fun W hb => ⟨(HD.out.below hb).within fun k hk _ => .inl hk, Turn.of_below hb _⟩
  have FIN0 := hid fin0
  have hlen : l.length ≤ maxLen := Nat.le_trans hlc hc
  have HLC := hid hlc
  have HL := hid (show manyL l ≤ l.length + 1 ∧ 1 ≤ manyL l by rw [many_is]; omega)
  clear hd cn hr hft fin0 hlen hlc hc
  unfold layR
  have hfd0 := hfd w (Below.refl _ _)
  have HFD := hid hfd
  clear hfd
  by_cases hk : s.dark = true
  · rw [if_pos hk]
    rw [if_pos hk] at hfd0
    have HK := hid hk
    clear hk
    go_enter Tryz.func77, Tryz.ntmps77
    go_wp2_with fail
    refine hfd0.mono ?_
    clear hfd0
    rintro e w' ⟨rfl, rfl⟩
    go_wp2_with fail
    go_ret
    exact ⟨rfl, FIN0.out _ (Below.refl _ _)⟩
  · rw [if_neg hk]
    rw [if_neg hk] at hfd0
    obtain ⟨fe, hfe⟩ : ∃ fe, fitsE N l.length (manyL l) room = fe := ⟨_, rfl⟩
    have hft := HFT.out
    rw [hfe] at hft ⊢
    have hft0 := hft w (Below.refl _ _)
    clear hft HFT
    by_cases h0 : fe = 0
    · subst h0
      rw [if_neg (by simp)]
      obtain ⟨z1, z2, z3⟩ := fits_zero hfe
      have HZ := hid hfe
      clear hfe
      have HK := hid hk
      clear hk
      go_enter Tryz.func77, Tryz.ntmps77
      go_wp2_with fail
      refine hfd0.mono ?_
      clear hfd0
      rintro e w' ⟨rfl, rfl⟩
      go_wp2_with fail
      refine hft0.mono ?_
      clear hft0
      rintro e w1 ⟨rfl, hb1⟩
      have hlay := callsIn_wide.1 (laying_in jb d at' N l A c w1 (cell_below hb1 cd) (cell_below hb1 HCN.out) (HR.out.below hb1) hA HLC.out z1 ⟨hN.1, by omega⟩ ⟨hat.1, by omega⟩)
      have HB1 := hid hb1
      clear hb1
      go_wp2_with fail
      refine hlay.mono ?_
      clear hlay
      rintro e w2 hlr
      obtain ⟨A', c', rfl, hc1, hc2, hst⟩ := hlr.at
      have hb2 := hlr.1
      clear hlr
      have hb := below_chain HB1.out hb2
      have hs2 := hst (fun k => (F k ∧ k < w.heap.size) ∨ w2.heap.size ≤ k) (fun h => h.elim (fun h => hjb h.1) fun h => by have := lt_of_cell (cell_below hb cd); exact Nat.not_le.2 this h) (fun k h => h.elim (fun h => .inl (Nat.lt_of_lt_of_le h.2 HB1.out.size)) .inr) (fun k h => .inr h)
      have hd2 : DiskV w2 d s (fun k => (F k ∧ k < w.heap.size) ∨ w2.heap.size ≤ k) := (HD.out.within (G := fun k => (F k ∧ k < w.heap.size) ∨ w2.heap.size ≤ k) fun k h1 h2 => .inl ⟨h1, h2⟩).below hb
      have hlg : (gsOf at' (newBlks N (partsOf l))).length = manyL l + 1 := by rw [gsOf_len, newBlks_len]; rfl
      have hdo := do_v (c := c') hd2 hs2 (gsOf_grows _ _) (by rw [hlg]; have := HL.out; omega) (by rw [hlg]; have := HL.out; omega)
      rw [hlg, run_wrs] at hdo
      have HB := hid hb
      clear hst hs2 hd2 hlg hb2 hb HB1
      go_wp2_with fail
      refine hdo.mono ?_
      clear hdo
      rintro e w3 ⟨rfl, hd3, ht3⟩
      have H3 := hid hd3
      have HT3 := hid ht3
      clear hd3 ht3
      go_wp2_with fail
      go_ret
      have hz : w.heap.size ≤ w2.heap.size := HB.out.size
      exact ⟨rfl, H3.out.within fun k h _ => h.elim (fun h => .inl h.1) fun h => .inr (Nat.le_trans hz h), (Turn.of_below HB.out _).trans (HT3.out.mono (G := fun k => F k ∨ w.heap.size ≤ k) fun k _ h => h.elim (fun h => .inl h.1) fun h => .inr (Nat.le_trans hz h)) fun _ _ h => h⟩
    · rw [if_pos h0]
      have e0 : (fe == 0) = false := by simpa using h0
      have e1 : (fe != 0) = true := by rw [bne, e0]; rfl
      have HZ := hid hfe
      have HK := hid hk
      have H0 := hid h0
      clear hfe hk h0
      go_enter Tryz.func77, Tryz.ntmps77
      go_wp2_with fail
      refine hfd0.mono ?_
      clear hfd0
      rintro e w' ⟨rfl, rfl⟩
      go_wp2_with fail
      refine hft0.mono ?_
      clear hft0
      rintro e w1 ⟨rfl, hb1⟩
      have HB1 := hid hb1
      clear hb1
      go_wp2_with fail
      go_ret
      exact ⟨rfl, FIN0.out _ HB1.out⟩
end Go.Proofs.YtfgbpinfplllgaaGreatDoor
namespace Go.Proofs.YtfgbpinfplllgaaGreatDoor
open Go.RowKit Go.Shelf
set_option maxRecDepth 100000
theorem JAt.turn {w w' : World} {jb d : Nat} {v : Value} {j : JS} {F G : Nat → Prop} (h : JAt w jb d v j F) (ht : Turn w w' G) (hG : ∀ k, F k → ¬ G k) (hjb : ¬ G jb) : JAt w' jb d v j F := ⟨h.cells.turn ht hjb, h.own.turn ht hG, h.out, h.few, h.nums⟩
theorem JAt.mono {w : World} {jb d : Nat} {v : Value} {j : JS} {F G : Nat → Prop} (h : JAt w jb d v j F) (hF : ∀ k, k < w.heap.size → F k → G k) (hjb : ¬ G jb) : JAt w jb d v j G := ⟨h.cells, h.own.mono hF, hjb, h.few, h.nums⟩
def OnJ (w : World) (jb d : Nat) (v : Value) (j : JS) (s : DS) (Hf : Nat) (F : Nat → Prop) : Prop :=
  ∃ FD FJ, DiskV w d s FD ∧ JAt w jb d v j FJ ∧ (∀ k, FD k → F k ∧ ¬ FJ k ∧ k ≠ jb ∧ k < w.heap.size) ∧ (∀ k, FJ k → F k ∧ k < w.heap.size) ∧ F jb ∧ s.blocks = 2 * Hf ∧ j.used ≤ Hf ∧ j.frm ≤ Hf
theorem OnJ.turn {w w' : World} {jb d : Nat} {v : Value} {j : JS} {s : DS} {Hf : Nat} {F G : Nat → Prop} (h : OnJ w jb d v j s Hf F) (ht : Turn w w' G) (hG : ∀ k, F k → ¬ G k) : OnJ w' jb d v j s Hf F := by
  obtain ⟨FD, FJ, h1, h2, h3, h4, h5, h6, h7, h8⟩ := h
  have hs := ht.size
  exact ⟨FD, FJ, h1.turn ht fun k hk => hG k (h3 k hk).1, h2.turn ht (fun k hk => hG k (h4 k hk).1) (hG _ h5), fun k hk => by have := h3 k hk; exact ⟨this.1, this.2.1, this.2.2.1, by omega⟩, fun k hk => by have := h4 k hk; exact ⟨this.1, by omega⟩, h5, h6, h7, h8⟩
theorem OnJ.below {w w' : World} {jb d : Nat} {v : Value} {j : JS} {s : DS} {Hf : Nat} {F : Nat → Prop} (h : OnJ w jb d v j s Hf F) (hb : Below w.heap.size w w') : OnJ w' jb d v j s Hf F := h.turn (Turn.of_below hb fun _ => False) fun _ _ h => h
theorem OnJ.lt {w : World} {jb d : Nat} {v : Value} {j : JS} {s : DS} {Hf : Nat} {F : Nat → Prop} (h : OnJ w jb d v j s Hf F) : jb < w.heap.size := by
  obtain ⟨FD, FJ, h1, h2, h3⟩ := h
  exact h2.cells.lt
theorem OnJ.mono {w : World} {jb d : Nat} {v : Value} {j : JS} {s : DS} {Hf : Nat} {F G : Nat → Prop} (h : OnJ w jb d v j s Hf F) (hG : ∀ k, k < w.heap.size → F k → G k) : OnJ w jb d v j s Hf G := by
  have hl := h.lt
  obtain ⟨FD, FJ, h1, h2, h3, h4, h5, h6⟩ := h
  exact ⟨FD, FJ, h1, h2, fun k hk => by have := h3 k hk; exact ⟨hG k this.2.2.2 this.1, this.2⟩, fun k hk => by have := h4 k hk; exact ⟨hG k this.2 this.1, this.2⟩, hG _ hl h5, h6⟩
theorem OnJ.disk {w : World} {jb d : Nat} {v : Value} {j : JS} {s : DS} {Hf : Nat} {F : Nat → Prop} (h : OnJ w jb d v j s Hf F) : DiskV w d s F := by
  obtain ⟨FD, FJ, h1, h2, h3, h4, h5, h6⟩ := h
  exact h1.within fun k hk _ => (h3 k hk).1
theorem OnJ.size {w : World} {jb d : Nat} {v : Value} {j : JS} {s : DS} {Hf : Nat} {F : Nat → Prop} (h : OnJ w jb d v j s Hf F) : Hf ≤ 8192 := by
  obtain ⟨FD, FJ, ⟨p, h1, h2, h3⟩, _, _, _, _, h6, _⟩ := h
  have := h2.hi
  omega
set_option maxHeartbeats 4000000 in
theorem Room_v {w : World} {jb d : Nat} {v : Value} {j : JS} {s : DS} {Hf : Nat} {F : Nat → Prop} (h : OnJ w jb d v j s Hf F) :
    Calls Tryz.prog 78 #[.pointer (some ⟨jb, 0, none⟩)] w fun e w' => e = .returned (.int .i64 ((Hf : Int) - (j.used : Int))) ∧ Below w.heap.size w w' := by
  have hHf := h.size
  obtain ⟨FD, FJ, h1, h2, h3, h4, h5, h6, h7, h8⟩ := h
  have hmix : Tryz.prog.follows .mixedOrders = true := by kernel_rfl
  have hc : Cs w jb 123 #[.pointer (some ⟨d, 0, none⟩), .int .i64 (j.frm : Int), v, .int .i64 (j.used : Int), .int .u32 j.first, .int .u64 j.next] := h2.cells
  have c0 := hc.cell 0 rfl
  have c3 := hc.cell 3 rfl
  have hn := isNoneJ_some jb d w c0
  have hhf := fun u (hb : Below w.heap.size w u) => half_v (h1.below hb) h6
  have HH := hid hhf
  clear hhf h1 h2 h3 h4 h5 h6 hc
  go_enter Tryz.func78, Tryz.ntmps78
  go_wp2_with fail
  refine hn.mono ?_
  rintro e w' ⟨rfl, rfl⟩
  go_wp2_with fail
  refine wp_region_V [] (Below w.heap.size w) hmix ((Below.refl _ _).drew) ?_
  change wpAnyV _ _ _ _ _ _ _ _ _
  refine wpW (i := 0) (v := .pointer (some ⟨jb, 0, none⟩)) (kept_below w) rfl (DR fun w9 hS => by go_simp) ?_
  try simp only [getElem_toArray, getElem_cons_succ, getElem_cons_zero, Act.put, setIfInBounds_toArray, set_cons_succ, set_cons_zero]
  refine wpW (i := 1) (v := .pointer (some ⟨jb, 0, none⟩)) (kept_below w) rfl (DR fun w9 hS => by go_simp) ?_
  try simp only [getElem_toArray, getElem_cons_succ, getElem_cons_zero, Act.put, setIfInBounds_toArray, set_cons_succ, set_cons_zero]
  refine wpW (i := 2) (v := .pointer (some ⟨jb, 0, none⟩)) (kept_below w) rfl (DR fun w9 hS => by go_simp) ?_
  try simp only [getElem_toArray, getElem_cons_succ, getElem_cons_zero, Act.put, setIfInBounds_toArray, set_cons_succ, set_cons_zero]
  refine wpW (i := 3) (v := .pointer (some ⟨d, 0, none⟩)) (kept_below w) rfl (DR fun w9 hS => by have q0 := cell_below hS c0; go_simp) ?_
  try simp only [getElem_toArray, getElem_cons_succ, getElem_cons_zero, Act.put, setIfInBounds_toArray, set_cons_succ, set_cons_zero]
  refine wpW (i := 4) (v := .int .i64 (Hf : Int)) (kept_below w) rfl (DoesV.calls 64 #[.pointer (some ⟨d, 0, none⟩)] (by rfl) (fun w9 hS => by go_simp) (fun w9 hS => (HH.out w9 hS).mono fun e u ⟨h1, h2⟩ => ⟨h1, h2 ▸ Below.refl _ _⟩)) ?_
  try simp only [getElem_toArray, getElem_cons_succ, getElem_cons_zero, Act.put, setIfInBounds_toArray, set_cons_succ, set_cons_zero]
  refine wpW (i := 5) (v := .pointer (some ⟨jb, 0, none⟩)) (kept_below w) rfl (DR fun w9 hS => by go_simp) ?_
  try simp only [getElem_toArray, getElem_cons_succ, getElem_cons_zero, Act.put, setIfInBounds_toArray, set_cons_succ, set_cons_zero]
  refine wpW (i := 6) (v := .pointer (some ⟨jb, 0, none⟩)) (kept_below w) rfl (DR fun w9 hS => by go_simp) ?_
  try simp only [getElem_toArray, getElem_cons_succ, getElem_cons_zero, Act.put, setIfInBounds_toArray, set_cons_succ, set_cons_zero]
  refine wpW (i := 7) (v := .pointer (some ⟨jb, 2, none⟩)) (kept_below w) rfl (DR fun w9 hS => by go_simp) ?_
  try simp only [getElem_toArray, getElem_cons_succ, getElem_cons_zero, Act.put, setIfInBounds_toArray, set_cons_succ, set_cons_zero]
  refine wpW (i := 8) (v := .pointer (some ⟨jb, 3, none⟩)) (kept_below w) rfl (DR fun w9 hS => by go_simp) ?_
  try simp only [getElem_toArray, getElem_cons_succ, getElem_cons_zero, Act.put, setIfInBounds_toArray, set_cons_succ, set_cons_zero]
  refine wpW (i := 9) (v := .int .i64 (j.used : Int)) (kept_below w) rfl (DR fun w9 hS => by have q0 := cell_below hS c3; go_simp) ?_
  try simp only [getElem_toArray, getElem_cons_succ, getElem_cons_zero, Act.put, setIfInBounds_toArray, set_cons_succ, set_cons_zero]
  refine wpW (i := 10) (v := .int .i64 ((Hf : Int) - (j.used : Int))) (kept_below w) rfl (DR fun w9 hS => by go_simp; simp (disch := omega) only [IntWalk.i64_in, IntWalk.u32_in, IntWalk.u64_in]) ?_
  try simp only [getElem_toArray, getElem_cons_succ, getElem_cons_zero, Act.put, setIfInBounds_toArray, set_cons_succ, set_cons_zero]
  refine wpW (i := 11) (v := .int .i64 ((Hf : Int) - (j.used : Int))) (kept_below w) rfl (DR fun w9 hS => by go_simp) ?_
  try simp only [getElem_toArray, getElem_cons_succ, getElem_cons_zero, Act.put, setIfInBounds_toArray, set_cons_succ, set_cons_zero]
  refine wpAnyV_done (by kernel_rfl) (fun y hu => ?_) _
  go_wp2_with fail
  go_ret
  exact ⟨rfl, hu⟩
def appR (s : DS) (j : JS) (Hf : Nat) (l : List UInt8) : DS × Int := layR s j.next l ((j.frm : Int) + (j.used : Int)) ((Hf : Int) - (j.used : Int))
def appJ (s : DS) (j : JS) (Hf : Nat) (l : List UInt8) : JS := if (appR s j Hf l).2 = 0 then tookJ j l else j
def repR (s : DS) (j : JS) (Hf : Nat) (l : List UInt8) : DS × Int := layR s j.next l ((Hf : Int) - (j.frm : Int)) (Hf : Int)
def repJ (s : DS) (j : JS) (Hf : Nat) (l : List UInt8) : JS := if (repR s j Hf l).2 = 0 then tookJ ⟨Hf - j.frm, [], 0, 0, j.next⟩ l else j
theorem wrs_blocks : ∀ (ls : List Blk) (s : DS) (n : Int), (wrs s n ls).1.blocks = s.blocks
  | [], s, n => by
    rw [wrs]
    unfold flushS
    split
    · rfl
    · split <;> rfl
  | l :: ls, s, n => by
    have hw : (writeS s n l).blocks = s.blocks := by
      unfold writeS
      split
      · rfl
      · split
        · split <;> rfl
        · rfl
    rw [wrs]
    split
    · rw [wrs_blocks ls, hw]
    · exact hw
theorem layR_blocks (s : DS) (N : Int) (l : List UInt8) (at' room : Int) : (layR s N l at' room).1.blocks = s.blocks := by
  unfold layR
  split
  · rfl
  · split
    · rfl
    · exact wrs_blocks _ _ _
theorem layR_ok {s : DS} {N : Int} {l : List UInt8} {at' room : Int} (h : (layR s N l at' room).2 = 0) : l.length ≤ 524288 ∧ N + (manyL l : Int) - 1 ≤ 2147483648 ∧ (manyL l : Int) ≤ room := by
  unfold layR at h
  split at h
  · cases h
  · split at h
    · rename_i h0
      exact absurd h h0
    · rename_i h0
      exact fits_zero (by simpa using h0)
theorem laid_on {w w1 : World} {jb d : Nat} {v : Value} {j : JS} {s1 : DS} {F FD FJ : Nat → Prop} (h2 : JAt w jb d v j FJ) (h3 : ∀ k, FD k → F k ∧ ¬ FJ k ∧ k ≠ jb ∧ k < w.heap.size) (h4 : ∀ k, FJ k → F k ∧ k < w.heap.size) (hF : ∀ k, w.heap.size ≤ k → F k)
    (hd : DiskV w1 d s1 (fun k => FD k ∨ w.heap.size ≤ k)) (ht : Turn w w1 (fun k => FD k ∨ w.heap.size ≤ k)) :
    DiskV w1 d s1 (fun k => (FD k ∨ w.heap.size ≤ k) ∧ k < w1.heap.size) ∧ JAt w1 jb d v j FJ ∧ (∀ k, ((FD k ∨ w.heap.size ≤ k) ∧ k < w1.heap.size) → F k ∧ ¬ FJ k ∧ k ≠ jb ∧ k < w1.heap.size) ∧ Turn w w1 F := by
  have hjl := h2.cells.lt
  refine ⟨hd.within fun k a b => ⟨a, b⟩, h2.turn ht (fun k hk hh => hh.elim (fun hh => (h3 k hh).2.1 hk) fun hh => by have := (h4 k hk).2; omega) (fun hh => hh.elim (fun hh => (h3 _ hh).2.2.1 rfl) fun hh => by omega), fun k ⟨hk, hl⟩ => ?_, ht.mono fun k _ hh => hh.elim (fun hh => (h3 k hh).1) (hF k)⟩
  rcases hk with hk | hk
  · exact ⟨(h3 k hk).1, (h3 k hk).2.1, (h3 k hk).2.2.1, hl⟩
  · exact ⟨hF k hk, fun hh => by have := (h4 k hh).2; omega, by omega, hl⟩
theorem took_on {w1 w2 : World} {jb d : Nat} {v : Value} {j : JS} {s1 : DS} {Hf : Nat} {F FD FJ : Nat → Prop} (hd : DiskV w1 d s1 FD) (h3 : ∀ k, FD k → F k ∧ ¬ FJ k ∧ k ≠ jb ∧ k < w1.heap.size) (h4 : ∀ k, FJ k → F k ∧ k < w1.heap.size) (h5 : F jb) (hjl : jb < w1.heap.size) (hF : ∀ k, w1.heap.size ≤ k → F k)
    (h2 : JAt w2 jb d v j (fun k => FJ k ∨ w1.heap.size ≤ k)) (ht : Turn w1 w2 (fun k => k = jb ∨ FJ k ∨ w1.heap.size ≤ k)) (hb : s1.blocks = 2 * Hf) (hu : j.used ≤ Hf) (hf : j.frm ≤ Hf) : OnJ w2 jb d v j s1 Hf F ∧ Turn w1 w2 F := by
  have hs := ht.size
  refine ⟨⟨FD, fun k => (FJ k ∨ w1.heap.size ≤ k) ∧ k < w2.heap.size, hd.turn ht fun k hk hh => ?_, h2.mono (fun k a b => ⟨b, a⟩) fun hh => h2.out hh.1, fun k hk => ?_, fun k hk => ⟨hk.1.elim (fun hh => (h4 k hh).1) (hF k), hk.2⟩, h5, hb, hu, hf⟩, ht.mono fun k _ hh => ?_⟩
  · have := h3 k hk
    rcases hh with hh | hh | hh
    · exact this.2.2.1 hh
    · exact this.2.1 hh
    · omega
  · have := h3 k hk
    exact ⟨this.1, fun hh => hh.1.elim this.2.1 fun hh => by omega, this.2.2.1, by omega⟩
  · rcases hh with rfl | hh | hh
    · exact h5
    · exact (h4 k hh).1
    · exact hF k hh
def DidJ (w : World) (jb d : Nat) (j : JS) (r : DS × Int) (Hf : Nat) (F : Nat → Prop) (e : Ending) (w' : World) : Prop := e = .returned (.int .i64 r.2) ∧ ∃ v', OnJ w' jb d v' j r.1 Hf F ∧ Turn w w' F
set_option maxHeartbeats 8000000 in
theorem Append_v {w : World} {jb d : Nat} {v : Value} {j : JS} {s : DS} {Hf : Nat} {F : Nat → Prop} {A : Option Addr} {c : Nat} (l : List UInt8) (h : OnJ w jb d v j s Hf F) (hF : ∀ k, w.heap.size ≤ k → F k) (hr : RdF w (fun k => ¬ F k) A l) (hA : A = none → l = [] ∧ c = 0) (hlc : l.length ≤ c) (hc : c ≤ maxLen)
    (hs : s.steps + 30000 < 4611686018427387904) (hq : s.q.length + 30000 < 1099511627776) :
    Calls Tryz.prog 26 #[.pointer (some ⟨jb, 0, none⟩), .slice A l.length c] w fun e w' => DidJ w jb d (appJ s j Hf l) (appR s j Hf l) Hf F e w' := by
  have hroom := fun u (hb : Below w.heap.size w u) => Room_v (h.below hb)
  have hHf := h.size
  have HOJ := hid h
  obtain ⟨FD, FJ, h1, h2, h3, h4, h5, h6, h7, h8⟩ := h
  have hjl := h2.cells.lt
  have hmix : Tryz.prog.follows .mixedOrders = true := by kernel_rfl
  have hcs : Cs w jb 123 #[.pointer (some ⟨d, 0, none⟩), .int .i64 (j.frm : Int), v, .int .i64 (j.used : Int), .int .u32 j.first, .int .u64 j.next] := h2.cells
  have c0 := hcs.cell 0 rfl
  have c1 := hcs.cell 1 rfl
  have c3 := hcs.cell 3 rfl
  have c5 := hcs.cell 5 rfl
  have hn := isNoneJ_some jb d w c0
  have hrd := hr.rd
  have hlay := fun u (hb : Below w.heap.size w u) => lay_v (jb := jb) (A := A) (c := c) l (at' := (j.frm : Int) + (j.used : Int)) (room := (Hf : Int) - (j.used : Int)) (h1.below hb) (cell_below hb c0) (cell_below hb c5) (fun hh => (h3 _ hh).2.2.1 rfl) (hrd.below hb) hA hlc hc ⟨h2.nums.2.2.1, h2.nums.2.2.2⟩ (by omega) (by omega) hs hq
  change ∀ u, Below w.heap.size w u → Calls _ _ _ u fun e w' => e = .returned (.int .i64 (appR s j Hf l).2) ∧ DiskV w' d (appR s j Hf l).1 _ ∧ _ at hlay
  have hRB := layR_blocks s j.next l ((j.frm : Int) + (j.used : Int)) ((Hf : Int) - (j.used : Int))
  change (appR s j Hf l).1.blocks = s.blocks at hRB
  have hRO : (appR s j Hf l).2 = 0 → _ := layR_ok
  have hAJ : appJ s j Hf l = if (appR s j Hf l).2 = 0 then tookJ j l else j := rfl
  generalize appJ s j Hf l = J at *
  generalize appR s j Hf l = R at *
  have HR := hid hr
  have HROOM := hid hroom
  have HLAY := hid hlay
  have HRO := hid hRO
  have HRB := hid hRB
  have HAJ := hid hAJ
  have H2 := hid h2
  have H3 := hid h3
  have H4 := hid h4
  have HFF := hid hF
  have HLC := hid (And.intro hlc hc)
  clear hr hrd hroom hlay hRO hRB hAJ h1 h2 h3 h4 hF hcs c5 hlc hc
  go_enter Tryz.func26, Tryz.ntmps26
  go_wp2_with fail
  refine hn.mono ?_
  clear hn
  rintro e w' ⟨rfl, rfl⟩
  go_wp2_with fail
  refine wp_region_V [14] (Below w.heap.size w) hmix ((Below.refl _ _).drew) ?_
  change wpAnyV _ _ _ _ _ _ _ _ _
  refine wpW (i := 0) (v := .pointer (some ⟨jb, 0, none⟩)) (kept_below w) rfl (DR fun w9 hS => by go_simp) ?_
  try simp only [getElem_toArray, getElem_cons_succ, getElem_cons_zero, Act.put, setIfInBounds_toArray, set_cons_succ, set_cons_zero]
  refine wpW (i := 1) (v := .slice A l.length c) (kept_below w) rfl (DR fun w9 hS => by go_simp) ?_
  try simp only [getElem_toArray, getElem_cons_succ, getElem_cons_zero, Act.put, setIfInBounds_toArray, set_cons_succ, set_cons_zero]
  refine wpW (i := 2) (v := .pointer (some ⟨jb, 0, none⟩)) (kept_below w) rfl (DR fun w9 hS => by go_simp) ?_
  try simp only [getElem_toArray, getElem_cons_succ, getElem_cons_zero, Act.put, setIfInBounds_toArray, set_cons_succ, set_cons_zero]
  refine wpW (i := 3) (v := .pointer (some ⟨jb, 0, none⟩)) (kept_below w) rfl (DR fun w9 hS => by go_simp) ?_
  try simp only [getElem_toArray, getElem_cons_succ, getElem_cons_zero, Act.put, setIfInBounds_toArray, set_cons_succ, set_cons_zero]
  refine wpW (i := 4) (v := .pointer (some ⟨jb, 1, none⟩)) (kept_below w) rfl (DR fun w9 hS => by go_simp) ?_
  try simp only [getElem_toArray, getElem_cons_succ, getElem_cons_zero, Act.put, setIfInBounds_toArray, set_cons_succ, set_cons_zero]
  refine wpW (i := 5) (v := .int .i64 (j.frm : Int)) (kept_below w) rfl (DR fun w9 hS => by have q0 := cell_below hS c1; go_simp) ?_
  try simp only [getElem_toArray, getElem_cons_succ, getElem_cons_zero, Act.put, setIfInBounds_toArray, set_cons_succ, set_cons_zero]
  refine wpW (i := 6) (v := .pointer (some ⟨jb, 0, none⟩)) (kept_below w) rfl (DR fun w9 hS => by go_simp) ?_
  try simp only [getElem_toArray, getElem_cons_succ, getElem_cons_zero, Act.put, setIfInBounds_toArray, set_cons_succ, set_cons_zero]
  refine wpW (i := 7) (v := .pointer (some ⟨jb, 0, none⟩)) (kept_below w) rfl (DR fun w9 hS => by go_simp) ?_
  try simp only [getElem_toArray, getElem_cons_succ, getElem_cons_zero, Act.put, setIfInBounds_toArray, set_cons_succ, set_cons_zero]
  refine wpW (i := 8) (v := .pointer (some ⟨jb, 2, none⟩)) (kept_below w) rfl (DR fun w9 hS => by go_simp) ?_
  try simp only [getElem_toArray, getElem_cons_succ, getElem_cons_zero, Act.put, setIfInBounds_toArray, set_cons_succ, set_cons_zero]
  refine wpW (i := 9) (v := .pointer (some ⟨jb, 3, none⟩)) (kept_below w) rfl (DR fun w9 hS => by go_simp) ?_
  try simp only [getElem_toArray, getElem_cons_succ, getElem_cons_zero, Act.put, setIfInBounds_toArray, set_cons_succ, set_cons_zero]
  refine wpW (i := 10) (v := .int .i64 (j.used : Int)) (kept_below w) rfl (DR fun w9 hS => by have q0 := cell_below hS c3; go_simp) ?_
  try simp only [getElem_toArray, getElem_cons_succ, getElem_cons_zero, Act.put, setIfInBounds_toArray, set_cons_succ, set_cons_zero]
  refine wpW (i := 11) (v := .int .i64 ((j.frm : Int) + (j.used : Int))) (kept_below w) rfl (DR fun w9 hS => by go_simp; simp (disch := omega) only [IntWalk.i64_in, IntWalk.u32_in, IntWalk.u64_in]) ?_
  try simp only [getElem_toArray, getElem_cons_succ, getElem_cons_zero, Act.put, setIfInBounds_toArray, set_cons_succ, set_cons_zero]
  refine wpW (i := 12) (v := .pointer (some ⟨jb, 0, none⟩)) (kept_below w) rfl (DR fun w9 hS => by go_simp) ?_
  try simp only [getElem_toArray, getElem_cons_succ, getElem_cons_zero, Act.put, setIfInBounds_toArray, set_cons_succ, set_cons_zero]
  refine wpW (i := 13) (v := .int .i64 ((Hf : Int) - (j.used : Int))) (kept_below w) rfl (DoesV.calls 78 #[.pointer (some ⟨jb, 0, none⟩)] (by rfl) (fun w9 hS => by go_simp) (fun w9 hS => HROOM.out w9 hS)) ?_
  try simp only [getElem_toArray, getElem_cons_succ, getElem_cons_zero, Act.put, setIfInBounds_toArray, set_cons_succ, set_cons_zero]
  refine wpAnyV_only (i := 14) rfl (by kernel_rfl) rfl (fun u hS => wp_of_call (by go_simp) (HLAY.out u hS) fun e u' ⟨he, hd, ht⟩ => ⟨_, he, fun x => DiskV x d R.1 (fun k => FD k ∨ w.heap.size ≤ k) ∧ Turn w x (fun k => FD k ∨ w.heap.size ≤ k), ⟨hd.within fun k hk _ => hk.imp (fun h => h) (fun h => Nat.le_trans hS.size h), (Turn.of_below hS _).trans (ht.mono (G := fun k => FD k ∨ w.heap.size ≤ k) fun k _ hk => hk.imp (fun h => h) (fun h => Nat.le_trans hS.size h)) fun _ _ h => h⟩, fun x x' hx hb => ⟨hx.1.below hb, hx.2.trans (Turn.of_below hb _) fun _ _ h => h⟩, fun h => absurd (by simp) h, ?_⟩)
  try simp only [getElem_toArray, getElem_cons_succ, getElem_cons_zero, Act.put, setIfInBounds_toArray, set_cons_succ, set_cons_zero]
  refine wpAnyV_pure (i := 15) (v := .int .i64 R.2) (fun x x' hx hb => ⟨hx.1.below hb, hx.2.trans (Turn.of_below hb _) fun _ _ h => h⟩) rfl (by kernel_rfl) (by kernel_rfl) (fun _ _ _ h => h) (DR fun w9 hS => by go_simp) ?_
  try simp only [getElem_toArray, getElem_cons_succ, getElem_cons_zero, Act.put, setIfInBounds_toArray, set_cons_succ, set_cons_zero]
  refine wpAnyV_done (by kernel_rfl) (fun y hu => ?_) _
  obtain ⟨hdy, hjy, h3y, hty⟩ := laid_on H2.out H3.out H4.out HFF.out hu.1 hu.2
  have HDY := hid hdy
  have HJY := hid hjy
  have H3Y := hid h3y
  have HTY := hid hty
  clear hu hdy hjy h3y hty
  obtain ⟨s1, er⟩ := R
  by_cases h0 : er = 0
  · subst h0
    have hro := HRO.out rfl
    have haj := HAJ.out
    rw [if_pos rfl] at haj
    subst haj
    have hsz := HTY.out.size
    have hrdy : Rd y A l := by
      rcases HR.out with h | ⟨b, off, e, hb, hcell⟩
      · exact .inl h
      · exact .inr ⟨b, off, e, fun i hi => (World.cell?_of_block (w := w) (HTY.out.block b (lt_of_cell (hcell i hi)) hb)).trans (hcell i hi)⟩
    have htk := took_v (c := c) (HJY.out.mono (G := fun k => FJ k ∨ y.heap.size ≤ k) (fun k _ h => .inl h) fun h => h.elim HJY.out.out fun h => by omega) hrdy hA hro.1 (fun k h => .inr h) (by omega) (by omega)
    have HHRO := hid hro
    clear hrdy hro
    go_wp2_with fail
    refine htk.mono ?_
    clear htk
    rintro e w2 ⟨rfl, v', hj2, ht2⟩
    have HON := hid (took_on HDY.out H3Y.out (fun k hk => ⟨(H4.out k hk).1, by have := (H4.out k hk).2; omega⟩) h5 (by omega) (fun k hk => HFF.out k (Nat.le_trans hsz hk)) hj2 ht2 (HRB.out.trans h6) (by have := HHRO.out.2.2; show j.used + manyL l ≤ Hf; omega) h8)
    clear hj2 ht2
    go_wp2_with fail
    go_ret
    exact ⟨rfl, v', HON.out.1, HTY.out.trans HON.out.2 fun _ _ h => h⟩
  · have haj := HAJ.out
    rw [if_neg h0] at haj
    subst haj
    have e0 : (er == 0) = false := by simpa using h0
    have e1 : (er != 0) = true := by rw [bne, e0]; rfl
    have H0 := hid h0
    clear h0
    go_wp2_with fail
    go_ret
    have hsz := HTY.out.size
    exact ⟨rfl, v, ⟨_, FJ, HDY.out, HJY.out, H3Y.out, fun k hk => ⟨(H4.out k hk).1, by have := (H4.out k hk).2; omega⟩, h5, HRB.out.trans h6, h7, h8⟩, HTY.out⟩
end Go.Proofs.YtfgbpinfplllgaaGreatDoor
namespace Go.Proofs.YtfgbpinfplllgaaGreatDoor
open Go.RowKit Go.Shelf
set_option maxRecDepth 100000
theorem wpList_storeF {P : Program} {w : World} {ops : Array Oper} {rest : List Oper} {o : Oper} {a : Act} {Q : Exit → Act → World → Prop} (hgd : o.guard = none) (t : TypeId) (x y : Operand) (ho : o.op = .store t x y) (g f : Nat) (hx : a.eval x = .pointer (some ⟨g, f, none⟩)) (cs : List Value) (hy : a.eval y = .agg cs.toArray) (t' : TypeId) (cur : Array Value)
    (hg : Cs w g t' cur) (hl : f + cs.length ≤ cur.size) (h1 : ∀ v ∈ cs, v.oneCell' = true) (hi : (P.info? t).map (·.size) = some cs.length)
    (hK : ∀ w', Cs w' g t' (over cur f cs) → Turn w w' (· = g) → wpList P ops Q rest (a.put o.dst undef) w') : wpList P ops Q (o :: rest) a w :=
  wpList_plain hgd fun K hh => wp_storeS t x y ho g f hx cs hy t' cur hg hl h1 hi fun w' hc ht => hh _ _ (hK w' hc ht)
set_option maxHeartbeats 8000000 in
theorem Replace_v {w : World} {jb d : Nat} {v : Value} {j : JS} {s : DS} {Hf : Nat} {F : Nat → Prop} {A : Option Addr} {c : Nat} (l : List UInt8) (h : OnJ w jb d v j s Hf F) (hF : ∀ k, w.heap.size ≤ k → F k) (hr : RdF w (fun k => ¬ F k) A l) (hA : A = none → l = [] ∧ c = 0) (hlc : l.length ≤ c) (hc : c ≤ maxLen)
    (hs : s.steps + 30000 < 4611686018427387904) (hq : s.q.length + 30000 < 1099511627776) :
    Calls Tryz.prog 162 #[.pointer (some ⟨jb, 0, none⟩), .slice A l.length c] w fun e w' => DidJ w jb d (repJ s j Hf l) (repR s j Hf l) Hf F e w' := by
  have hHf := h.size
  have HOJ := hid h
  obtain ⟨FD, FJ, h1, h2, h3, h4, h5, h6, h7, h8⟩ := h
  have hjl := h2.cells.lt
  have hmix : Tryz.prog.follows .mixedOrders = true := by kernel_rfl
  have hcs : Cs w jb 123 #[.pointer (some ⟨d, 0, none⟩), .int .i64 (j.frm : Int), v, .int .i64 (j.used : Int), .int .u32 j.first, .int .u64 j.next] := h2.cells
  have c0 := hcs.cell 0 rfl
  have c1 := hcs.cell 1 rfl
  have c5 := hcs.cell 5 rfl
  have hn := isNoneJ_some jb d w c0
  have hrd := hr.rd
  have hhf := fun u (hb : Below w.heap.size w u) => half_v (h1.below hb) h6
  have hlay := fun u (hb : Below w.heap.size w u) => lay_v (jb := jb) (A := A) (c := c) l (at' := (Hf : Int) - (j.frm : Int)) (room := (Hf : Int)) (h1.below hb) (cell_below hb c0) (cell_below hb c5) (fun hh => (h3 _ hh).2.2.1 rfl) (hrd.below hb) hA hlc hc ⟨h2.nums.2.2.1, h2.nums.2.2.2⟩ (by omega) (by omega) hs hq
  change ∀ u, Below w.heap.size w u → Calls _ _ _ u fun e w' => e = .returned (.int .i64 (repR s j Hf l).2) ∧ DiskV w' d (repR s j Hf l).1 _ ∧ _ at hlay
  have hRB := layR_blocks s j.next l ((Hf : Int) - (j.frm : Int)) (Hf : Int)
  change (repR s j Hf l).1.blocks = s.blocks at hRB
  have hRO : (repR s j Hf l).2 = 0 → _ := layR_ok
  have hAJ : repJ s j Hf l = if (repR s j Hf l).2 = 0 then tookJ ⟨Hf - j.frm, [], 0, 0, j.next⟩ l else j := rfl
  generalize repJ s j Hf l = J at *
  generalize repR s j Hf l = R at *
  have HR := hid hr
  have HHF := hid hhf
  have HLAY := hid hlay
  have HRO := hid hRO
  have HRB := hid hRB
  have HAJ := hid hAJ
  have H2 := hid h2
  have H3 := hid h3
  have H4 := hid h4
  have HFF := hid hF
  have HLC := hid (And.intro hlc hc)
  clear hr hrd hhf hlay hRO hRB hAJ h1 h2 h3 h4 hF hcs c5 hlc hc
  go_enter Tryz.func162, Tryz.ntmps162
  go_wp2_with fail
  refine hn.mono ?_
  clear hn
  rintro e w' ⟨rfl, rfl⟩
  go_wp2_with fail
  refine wp_region_V [] (Below w.heap.size w) hmix ((Below.refl _ _).drew) ?_
  change wpAnyV _ _ _ _ _ _ _ _ _
  refine wpW (i := 0) (v := .pointer (some ⟨jb, 0, none⟩)) (kept_below w) rfl (DR fun w9 hS => by go_simp) ?_
  try simp only [getElem_toArray, getElem_cons_succ, getElem_cons_zero, Act.put, setIfInBounds_toArray, set_cons_succ, set_cons_zero]
  refine wpW (i := 1) (v := .pointer (some ⟨jb, 0, none⟩)) (kept_below w) rfl (DR fun w9 hS => by go_simp) ?_
  try simp only [getElem_toArray, getElem_cons_succ, getElem_cons_zero, Act.put, setIfInBounds_toArray, set_cons_succ, set_cons_zero]
  refine wpW (i := 2) (v := .pointer (some ⟨jb, 0, none⟩)) (kept_below w) rfl (DR fun w9 hS => by go_simp) ?_
  try simp only [getElem_toArray, getElem_cons_succ, getElem_cons_zero, Act.put, setIfInBounds_toArray, set_cons_succ, set_cons_zero]
  refine wpW (i := 3) (v := .pointer (some ⟨d, 0, none⟩)) (kept_below w) rfl (DR fun w9 hS => by have q0 := cell_below hS c0; go_simp) ?_
  try simp only [getElem_toArray, getElem_cons_succ, getElem_cons_zero, Act.put, setIfInBounds_toArray, set_cons_succ, set_cons_zero]
  refine wpW (i := 4) (v := .int .i64 (Hf : Int)) (kept_below w) rfl (DoesV.calls 64 #[.pointer (some ⟨d, 0, none⟩)] (by rfl) (fun w9 hS => by go_simp) (fun w9 hS => (HHF.out w9 hS).mono fun e u ⟨h1, h2⟩ => ⟨h1, h2 ▸ Below.refl _ _⟩)) ?_
  try simp only [getElem_toArray, getElem_cons_succ, getElem_cons_zero, Act.put, setIfInBounds_toArray, set_cons_succ, set_cons_zero]
  refine wpW (i := 5) (v := .pointer (some ⟨jb, 0, none⟩)) (kept_below w) rfl (DR fun w9 hS => by go_simp) ?_
  try simp only [getElem_toArray, getElem_cons_succ, getElem_cons_zero, Act.put, setIfInBounds_toArray, set_cons_succ, set_cons_zero]
  refine wpW (i := 6) (v := .pointer (some ⟨jb, 0, none⟩)) (kept_below w) rfl (DR fun w9 hS => by go_simp) ?_
  try simp only [getElem_toArray, getElem_cons_succ, getElem_cons_zero, Act.put, setIfInBounds_toArray, set_cons_succ, set_cons_zero]
  refine wpW (i := 7) (v := .pointer (some ⟨jb, 1, none⟩)) (kept_below w) rfl (DR fun w9 hS => by go_simp) ?_
  try simp only [getElem_toArray, getElem_cons_succ, getElem_cons_zero, Act.put, setIfInBounds_toArray, set_cons_succ, set_cons_zero]
  refine wpW (i := 8) (v := .int .i64 (j.frm : Int)) (kept_below w) rfl (DR fun w9 hS => by have q0 := cell_below hS c1; go_simp) ?_
  try simp only [getElem_toArray, getElem_cons_succ, getElem_cons_zero, Act.put, setIfInBounds_toArray, set_cons_succ, set_cons_zero]
  refine wpW (i := 9) (v := .int .i64 ((Hf : Int) - (j.frm : Int))) (kept_below w) rfl (DR fun w9 hS => by go_simp; simp (disch := omega) only [IntWalk.i64_in, IntWalk.u32_in, IntWalk.u64_in]) ?_
  try simp only [getElem_toArray, getElem_cons_succ, getElem_cons_zero, Act.put, setIfInBounds_toArray, set_cons_succ, set_cons_zero]
  refine wpW (i := 10) (v := .int .i64 ((Hf : Int) - (j.frm : Int))) (kept_below w) rfl (DR fun w9 hS => by go_simp) ?_
  try simp only [getElem_toArray, getElem_cons_succ, getElem_cons_zero, Act.put, setIfInBounds_toArray, set_cons_succ, set_cons_zero]
  refine wpAnyV_done (by kernel_rfl) (fun y0 hb0 => ?_) _
  have q0 := cell_below hb0 c0
  have hhf0 := HHF.out y0 hb0
  have hlay0 := HLAY.out y0 hb0
  have HB0 := hid hb0
  clear hb0
  go_wp2_with fail
  refine hhf0.mono ?_
  clear hhf0
  rintro e u ⟨rfl, rfl⟩
  go_wp2_with fail
  refine hlay0.mono ?_
  clear hlay0
  rintro e y ⟨rfl, hd, ht⟩
  have hz0 := HB0.out.size
  obtain ⟨hdy, hjy, h3y, hty⟩ := laid_on H2.out H3.out H4.out HFF.out (hd.within (G := fun k => FD k ∨ w.heap.size ≤ k) fun k hk _ => hk.imp (fun h => h) (fun h => Nat.le_trans hz0 h)) ((Turn.of_below HB0.out _).trans (ht.mono (G := fun k => FD k ∨ w.heap.size ≤ k) fun k _ hk => hk.imp (fun h => h) (fun h => Nat.le_trans hz0 h)) fun _ _ h => h)
  have HDY := hid hdy
  have HJY := hid hjy
  have H3Y := hid h3y
  have HTY := hid hty
  clear hd ht hdy hjy h3y hty q0
  obtain ⟨s1, er⟩ := R
  by_cases h0 : er = 0
  · subst h0
    have hro := HRO.out rfl
    have haj := HAJ.out
    rw [if_pos rfl] at haj
    subst haj
    have hsz := HTY.out.size
    have HHRO := hid hro
    clear hro
    have HCY := hid (show Cs y jb 123 #[.pointer (some ⟨d, 0, none⟩), .int .i64 (j.frm : Int), v, .int .i64 (j.used : Int), .int .u32 j.first, .int .u64 j.next] from HJY.out.cells)
    go_wp2_with (first
      | ((with_reducible show wpList _ _ _ _ _ y); refine wpList_store1 rfl 3 _ _ rfl jb 1 rfl (.int .i64 ((Hf : Int) - (j.frm : Int))) rfl rfl (by kernel_rfl) 123 _ HCY.out (by simp) ?_; intro z1 hk1 ht1; have HK1 := hid hk1; have HT1 := hid ht1; clear hk1 ht1)
      | ((with_reducible show wpList _ _ _ _ _ z1); refine wpList_storeF rfl 121 _ _ rfl jb 2 rfl [.slice none 0 0, .int .i64 0, .int .u32 0] rfl 123 _ HK1.out (by simp) (by intro v hv; simp at hv; rcases hv with rfl | rfl | rfl <;> rfl) (by kernel_rfl) ?_; intro z2 hk2 ht2; have HK2 := hid hk2; have HT2 := hid ht2; clear hk2 ht2))
    have htz : Turn y z2 (· = jb) := HT1.out.trans HT2.out fun _ _ h => h
    have hzz := htz.size
    have hc2 : Cs z2 jb 123 (jcells d (.slice none 0 0) ⟨Hf - j.frm, [], 0, 0, j.next⟩).toArray := by
      have := HK2.out
      rw [show ((Hf : Int) - (j.frm : Int)) = ((Hf - j.frm : Nat) : Int) by omega] at this
      exact this
    have hjz : JAt z2 jb d (.slice none 0 0) ⟨Hf - j.frm, [], 0, 0, j.next⟩ (fun k => False ∨ z2.heap.size ≤ k) := ⟨hc2, OwnR.nil _ _ _, fun h => h.elim (fun h => h) fun h => by omega, ⟨Nat.le_refl _, Nat.zero_le _, by show Hf - j.frm ≤ 8192; omega⟩, Int.le_refl _, by show (0 : Int) ≤ 2147483648; decide, HJY.out.nums.2.2.1, HJY.out.nums.2.2.2⟩
    have hrdz : Rd z2 A l := by
      rcases HR.out with h | ⟨b, off, e, hb, hcell⟩
      · exact .inl h
      · exact .inr ⟨b, off, e, fun i hi => (World.cell?_of_block (w := y) (htz.block b (Nat.lt_of_lt_of_le (lt_of_cell (hcell i hi)) hsz) (fun e => hb (e ▸ h5)))).trans ((World.cell?_of_block (w := w) (HTY.out.block b (lt_of_cell (hcell i hi)) hb)).trans (hcell i hi))⟩
    have htk := took_v (c := c) hjz hrdz hA HHRO.out.1 (fun k h => .inr h) (by have := HHRO.out; show 0 + manyL l ≤ 8192; omega) (by have := HHRO.out; show j.next + (manyL l : Int) ≤ 2147483649; omega)
    clear hrdz hjz hc2
    refine htk.mono ?_
    clear htk
    rintro e w2 ⟨rfl, v', hj2, ht2⟩
    have HON := hid (took_on (Hf := Hf) (HDY.out.turn htz fun k hk e => (H3Y.out k hk).2.2.1 e) (fun k hk => by have := H3Y.out k hk; exact ⟨this.1, fun h => h, this.2.2.1, by omega⟩) (fun k hk => hk.elim) h5 (by omega) (fun k hk => HFF.out k (by omega)) hj2 ht2 (HRB.out.trans h6) (by have := HHRO.out.2.2; show 0 + manyL l ≤ Hf; omega) (Nat.sub_le _ _))
    have HTZ := hid htz
    clear hj2 ht2 htz
    go_wp2_with fail
    go_ret
    exact ⟨rfl, v', HON.out.1, (HTY.out.trans (HTZ.out.mono (G := F) fun k _ e => e ▸ h5) fun _ _ h => h).trans HON.out.2 fun _ _ h => h⟩
  · have haj := HAJ.out
    rw [if_neg h0] at haj
    subst haj
    have e0 : (er == 0) = false := by simpa using h0
    have e1 : (er != 0) = true := by rw [bne, e0]; rfl
    have H0 := hid h0
    clear h0
    go_wp2_with fail
    go_ret
    have hsz := HTY.out.size
    exact ⟨rfl, v, ⟨_, FJ, HDY.out, HJY.out, H3Y.out, fun k hk => ⟨(H4.out k hk).1, by have := (H4.out k hk).2; omega⟩, h5, HRB.out.trans h6, h7, h8⟩, HTY.out⟩
end Go.Proofs.YtfgbpinfplllgaaGreatDoor
namespace Go.Proofs.YtfgbpinfplllgaaGreatDoor
open Go.RowKit Go.Shelf
set_option maxRecDepth 100000
theorem wpList_append_new {w : World} {ops : Array Oper} {rest : List Oper} {o : Oper} {a : Act} {Q : Exit → Act → World → Prop} (hgd : o.guard = none) (s x : Operand) (ho : o.op = .call { callee := .builtin .append, args := #[s, x], argTypes := #[128, 128] })
    (g n : Nat) (xs : List Value) (hs : a.eval s = .slice (some ⟨g, 0, none⟩) n n) (hxs : xs.length = n) (hold : ∀ j u, xs[j]? = some u → w.cell? ⟨g, j, none⟩ = some u)
    (b m c : Nat) (news : List Value) (hx : a.eval x = .slice (some ⟨b, 0, none⟩) m c) (hl : news.length = m) (hnews : ∀ j u, news[j]? = some u → w.cell? ⟨b, j, none⟩ = some u) (hm : 1 ≤ m) (hb : n + m ≤ 1099511627776)
    (h : ∀ g' c' w', Below w.heap.size w w' → w.heap.size ≤ g' → (∀ j u, (xs ++ news)[j]? = some u → w'.cell? ⟨g', j, none⟩ = some u) → n + m ≤ c' → c' ≤ maxLen → wpList Tryz.prog ops Q rest (a.put o.dst (.slice (some ⟨g', 0, none⟩) (n + m) c')) w') : wpList Tryz.prog ops Q (o :: rest) a w := by
  obtain ⟨i0, hi, hz0, hz1, hz2⟩ := info_parts infoStep
  have hadd : ∀ (q j : Nat), (⟨q, 0, none⟩ : Addr).add j = ⟨q, j, none⟩ := fun q j => by unfold Addr.add; split <;> simp_all
  have hr := run_append_grow (P := Tryz.prog) w 128 o.type 126 i0 .nilFunc Tryz.underlying128 hi hz0 ⟨g, 0, none⟩ n n xs (by rw [hxs, hz1, Nat.mul_one]) (fun j u hu => by rw [hadd]; exact hold j u hu) ⟨b, 0, none⟩ m c news (by rw [hl, hz1, Nat.mul_one]) (fun j u hu => by rw [hadd]; exact hnews j u hu) (by omega) (by omega) (growslice_fits (by omega) (by rw [hz2]; omega))
  refine wpList_plain hgd fun K hK => ?_
  unfold Oper.wp execOp
  simp only [ho, resolve, invoke, builtin, Sem.run_bind, Sem.run_pure, Result.andThen_ok, List.map_toArray, List.map_cons, List.map_nil, hs, hx, hr]
  refine hK _ _ (h _ _ _ (((Below.refl _ w).drew).alloc (Nat.le_refl _) _) (Nat.le_refl _) (fun j u hu => ?_) (grownCap_ge _ _ _ _) (grownCap_le_maxLen _ _ _ _ (by simp only [maxLen]; omega)))
  refine (show Cs _ w.heap.size 126 _ from heap_alloc_new w.drew _).cell j ?_
  rw [← Array.getElem?_toList, Array.toList_append, Array.toList_append]
  have hj := (List.getElem?_eq_some_iff.1 hu).1
  rw [List.getElem?_append_left (by simpa using hj)]
  exact hu
theorem wiping_v (jb : Nat) (n : Int) (w : World) : Calls Tryz.prog 65 #[.pointer (some ⟨jb, 0, none⟩), .int .i64 n] w fun e w' => ∃ bj ba, e = .returned (.func (.func 106) #[] #[.pointer (some ⟨bj, 0, none⟩), .pointer (some ⟨ba, 0, none⟩)]) ∧
    Cs w' bj 54 #[.pointer (some ⟨jb, 0, none⟩)] ∧ Cs w' ba 3 #[.int .i64 n] ∧ w.heap.size ≤ bj ∧ w.heap.size ≤ ba ∧ Below w.heap.size w w' := by
  go_enter Tryz.func65, Tryz.ntmps65
  go_wp2
  go_ret
  have k1 := Cs.new w 54 #[.pointer (some ⟨jb, 0, none⟩)]
  have b1 := (Below.refl w.heap.size w).alloc (Nat.le_refl _) (.cells #[.pointer (some ⟨jb, 0, none⟩)] 54)
  have s1 : (w.alloc (.cells #[.pointer (some ⟨jb, 0, none⟩)] 54)).heap.size = w.heap.size + 1 := by simp
  generalize w.alloc (.cells #[.pointer (some ⟨jb, 0, none⟩)] 54) = w1 at *
  have k2 := Cs.new w1 3 #[.int .i64 n]
  have b2 := (Below.refl w1.heap.size w1).alloc (Nat.le_refl _) (.cells #[.int .i64 n] 3)
  rw [s1] at k2
  exact ⟨_, _, rfl, k1.below b2 k1.lt, k2, Nat.le_refl _, Nat.le_succ _, below_chain b1 b2⟩
theorem wipe_step {w : World} {bj ba jb d : Nat} {n : Int} {F : Nat → Prop} (hj : Cs w bj 54 #[.pointer (some ⟨jb, 0, none⟩)]) (ha : Cs w ba 3 #[.int .i64 n]) (cd : w.cell? ⟨jb, 0, none⟩ = some (.pointer (some ⟨d, 0, none⟩)))
    (hF : ∀ k, w.heap.size ≤ k → F k) (f1 : ¬ F bj) (f2 : ¬ F ba) (f3 : ¬ F jb) : StepOk w (.func (.func 106) #[] #[.pointer (some ⟨bj, 0, none⟩), .pointer (some ⟨ba, 0, none⟩)]) d F (wrG n zb) := by
  refine ⟨_, _, .inl rfl, enters_of Tryz.func106 (by kernel_rfl) rfl, fun W s ht hd hs hq => ?_⟩
  have tc : ∀ {p : Addr} {v : Value}, w.cell? p = some v → ¬ F p.block → W.cell? p = some v := fun hc hn => (World.cell?_of_block (w := w) (ht.block _ (lt_of_cell hc) hn)).trans hc
  exact wiping1_v (tc (hj.cell 0 rfl) f1) (tc (ha.cell 0 rfl) f2) (tc cd f3) hd (hF_up hF ht) hs hq
def makGs (s : DS) (Hf : Nat) (l : List UInt8) : List Doing := [wrG 0 zb, wrG (Hf : Int) zb, flG] ++ gsOf 0 (newBlks (nextToV s s.blocks + 1) (partsOf l))
def makR (s : DS) (Hf : Nat) (l : List UInt8) : DS × Int := if s.dark then (s, 9) else if fitsE (nextToV s s.blocks + 1) l.length (manyL l) (Hf : Int) ≠ 0 then (s, fitsE (nextToV s s.blocks + 1) l.length (manyL l) (Hf : Int)) else runG (makGs s Hf l) s
def makJ (s : DS) (l : List UInt8) : JS := tookJ ⟨0, [], 0, 0, nextToV s s.blocks + 1⟩ l
def MakeRet (d : Nat) (j : JS) (r : DS × Int) (Hf : Nat) (F : Nat → Prop) (w : World) (e : Ending) (w' : World) : Prop := Turn w w' F ∧
  ((r.2 ≠ 0 ∧ e = .returned (.tuple #[.pointer none, .int .i64 r.2]) ∧ DiskV w' d r.1 F) ∨ (r.2 = 0 ∧ ∃ jb v, e = .returned (.tuple #[.pointer (some ⟨jb, 0, none⟩), .int .i64 0]) ∧ w.heap.size ≤ jb ∧ OnJ w' jb d v j r.1 Hf F))
theorem makR_ok {s : DS} {Hf : Nat} {l : List UInt8} (h : (makR s Hf l).2 = 0) : l.length ≤ 524288 ∧ nextToV s s.blocks + 1 + (manyL l : Int) - 1 ≤ 2147483648 ∧ (manyL l : Int) ≤ (Hf : Int) := by
  unfold makR at h
  split at h
  · cases h
  · split at h
    · rename_i h0
      exact absurd h h0
    · rename_i h0
      exact fits_zero (by simpa using h0)
theorem runG_blocks : ∀ (gs : List Doing) (s : DS), (∀ g ∈ gs, ∀ t, (g t).1.blocks = t.blocks) → (runG gs s).1.blocks = s.blocks
  | [], s, _ => rfl
  | g :: gs, s, h => by
    rw [runG_cons]
    split
    · rw [runG_blocks gs _ fun g hg => h g (List.mem_cons_of_mem _ hg), h g List.mem_cons_self]
    · exact h g List.mem_cons_self s
theorem wrG_blocks (n : Int) (l : Blk) (t : DS) : (wrG n l t).1.blocks = t.blocks := by
  unfold wrG writeS
  dsimp only
  split
  · rfl
  · split
    · split <;> rfl
    · rfl
theorem flG_blocks (t : DS) : (flG t).1.blocks = t.blocks := by
  unfold flG flushS
  dsimp only
  split
  · rfl
  · split <;> rfl
theorem gsOf_blocks : ∀ (ls : List Blk) (n : Int), ∀ g ∈ gsOf n ls, ∀ t, (g t).1.blocks = t.blocks
  | [], n, g, h, t => by
    simp only [gsOf, List.mem_singleton] at h
    subst h
    exact flG_blocks t
  | l :: ls, n, g, h, t => by
    rcases List.mem_cons.1 (show g ∈ wrG n l :: gsOf (n + 1) ls from h) with rfl | h
    · exact wrG_blocks n l t
    · exact gsOf_blocks ls (n + 1) g h t
theorem mak_all {s : DS} {Hf : Nat} {l : List UInt8} (P : Doing → Prop) (h1 : ∀ n b, P (wrG n b)) (h2 : P flG) (h3 : ∀ g ∈ gsOf 0 (newBlks (nextToV s s.blocks + 1) (partsOf l)), P g) : ∀ g ∈ makGs s Hf l, P g := fun g hg => by
  rcases List.mem_append.1 hg with hg | hg
  · simp only [List.mem_cons, List.not_mem_nil, or_false] at hg
    rcases hg with rfl | rfl | rfl
    · exact h1 _ _
    · exact h1 _ _
    · exact h2
  · exact h3 g hg
theorem makR_blocks (s : DS) (Hf : Nat) (l : List UInt8) : (makR s Hf l).1.blocks = s.blocks := by
  unfold makR
  split
  · rfl
  · split
    · rfl
    · exact runG_blocks _ _ (mak_all (fun g => ∀ t, (g t).1.blocks = t.blocks) wrG_blocks flG_blocks (gsOf_blocks _ _))
theorem makGs_len (s : DS) (Hf : Nat) (l : List UInt8) : (makGs s Hf l).length = manyL l + 1 + 3 := by
  unfold makGs
  rw [List.length_append, gsOf_len, newBlks_len]
  show 3 + ((partsOf l).length + 1) = (partsOf l).length + 1 + 3
  omega
set_option maxHeartbeats 8000000 in
theorem Make_v {w : World} {d Hf : Nat} {s : DS} {F : Nat → Prop} {A : Option Addr} {c : Nat} (l : List UInt8) (h : DiskV w d s F) (hH : s.blocks = 2 * Hf) (hnx : nextToV s s.blocks + 1 ≤ 2147483649) (hF : ∀ k, w.heap.size ≤ k → F k) (hr : RdF w (fun k => ¬ F k) A l) (hA : A = none → l = [] ∧ c = 0) (hlc : l.length ≤ c) (hc : c ≤ maxLen)
    (hs : s.steps + 30000 < 4611686018427387904) (hq : s.q.length + 30000 < 1099511627776) :
    Calls Tryz.prog 24 #[.pointer (some ⟨d, 0, none⟩), .slice A l.length c] w fun e w' => MakeRet d (makJ s l) (makR s Hf l) Hf F w e w' := by
  have hH2 : Hf ≤ 8192 := by have := h.lo.2; omega
  have hnb := (nextToV_bd s s.blocks).1
  have hrf := refusedJ_v h
  have hnn := nextNumber_v h
  have hhf := fun W (hb : Below w.heap.size w W) => half_v (h.below hb) hH
  have hGL := makGs_len s Hf l
  have hGG : ∀ g ∈ makGs s Hf l, Grows g := mak_all Grows wrG_grow flG_grow (gsOf_grows _ _)
  have hRB := makR_blocks s Hf l
  have hRO : (makR s Hf l).2 = 0 → _ := makR_ok
  have hR : makR s Hf l = if s.dark then (s, 9) else if fitsE (nextToV s s.blocks + 1) l.length (manyL l) (Hf : Int) ≠ 0 then (s, fitsE (nextToV s s.blocks + 1) l.length (manyL l) (Hf : Int)) else runG (makGs s Hf l) s := rfl
  have hJ : makJ s l = tookJ ⟨0, [], 0, 0, nextToV s s.blocks + 1⟩ l := rfl
  have hG : makGs s Hf l = [wrG 0 zb, wrG (Hf : Int) zb, flG] ++ gsOf 0 (newBlks (nextToV s s.blocks + 1) (partsOf l)) := rfl
  generalize makR s Hf l = R at *
  generalize makJ s l = J at *
  generalize makGs s Hf l = gs at *
  have hN : 0 < nextToV s s.blocks + 1 := by omega
  generalize nextToV s s.blocks + 1 = N at *
  have hlm : l.length ≤ maxLen := Nat.le_trans hlc hc
  have H0 := hid h
  have HHF := hid hhf
  have HGG := hid (And.intro hGL hGG)
  have HG := hid hG
  have HRB := hid hRB
  have HRO := hid hRO
  have HJ := hid hJ
  have HRd := hid hr
  have HFF := hid hF
  have HH := hid hH
  have hhf0 := hhf w (Below.refl _ _)
  clear h hhf hGL hGG hG hRB hRO hJ hr hF hnb
  by_cases hk : s.dark = true
  · rw [if_pos hk] at hR hrf
    have HR := hid hR
    have HK := hid hk
    clear hk hR
    go_enter Tryz.func24, Tryz.ntmps24
    go_wp2_with fail
    refine hrf.mono ?_
    clear hrf
    rintro e w' ⟨rfl, rfl⟩
    go_wp2_with fail
    go_ret2
    rw [HR.out]
    exact ⟨Turn.refl _ _, .inl ⟨by simp, rfl, H0.out⟩⟩
  · rw [if_neg hk] at hR hrf
    obtain ⟨fe, hfe⟩ : ∃ fe, fitsE N l.length (manyL l) (Hf : Int) = fe := ⟨_, rfl⟩
    rw [hfe] at hR
    have HK := hid hk
    have HFE := hid hfe
    have HR := hid hR
    clear hk hfe hR
    go_enter Tryz.func24, Tryz.ntmps24
    go_wp2_with fail
    refine hrf.mono ?_
    clear hrf
    rintro e w' ⟨rfl, rfl⟩
    go_wp2_with fail
    refine hnn.mono ?_
    clear hnn
    rintro e w2 ⟨rfl, hb2⟩
    have B2 := hid hb2
    clear hb2
    go_wp2_with (first
      | ((with_reducible show wpList _ _ _ _ _ w2); refine wpList_boxS rfl 123 _ rfl [.pointer (some ⟨d, 0, none⟩), .int .i64 0, .slice none 0 0, .int .i64 0, .int .u32 0, .int .u64 N] rfl ?_; intro jb w3 hk hb hg; go_frame; have KJ := hid hk; have B3 := hid (below_chain B2.out hb); have GJ := hid (Nat.le_trans B2.out.size hg); clear hk hb hg))
    refine (HHF.out _ B3.out).mono ?_
    rintro e _ ⟨rfl, rfl⟩
    have hft := fits_v (A := A) (c := c) l (room := (Hf : Int)) (KJ.out.cell 5 rfl) hlm ⟨hN, hnx⟩ ⟨by omega, by omega⟩
    rw [HFE.out] at hft
    go_wp2_with fail
    refine hft.mono ?_
    clear hft
    rintro e w4 ⟨rfl, hb4⟩
    have B4 := hid (below_chain B3.out hb4)
    have KJ4 := hid (KJ.out.below hb4 KJ.out.lt)
    clear hb4 KJ
    have hgj := GJ.out
    by_cases h0 : fe = 0
    · subst h0
      have hR := HR.out
      rw [if_neg (by simp)] at hR
      have HR2 := hid hR
      obtain ⟨z1, z2, z3⟩ := fits_zero HFE.out
      have hm1 : 1 ≤ manyL l := by rw [many_is]; omega
      clear hR HR
      go_wp2_with fail
      refine (wiping_v jb 0 w4).mono ?_
      rintro e w5 ⟨bj1, ba1, rfl, hj1, ha1, g1, g2, hb5⟩
      have B5 := hid (below_chain B4.out hb5)
      have Z4 := hid hb5.size
      have KJ5 := hid (KJ4.out.below hb5 KJ4.out.lt)
      have KA1 := hid (And.intro hj1 ha1)
      have G1 := hid (And.intro (Nat.le_trans B4.out.size g1) (Nat.le_trans B4.out.size g2))
      clear hj1 ha1 g1 g2 hb5
      go_wp2_with fail
      refine (HHF.out _ B5.out).mono ?_
      rintro e _ ⟨rfl, rfl⟩
      go_wp2_with fail
      refine (wiping_v jb (Hf : Int) w5).mono ?_
      rintro e w6 ⟨bj2, ba2, rfl, hj2, ha2, g1, g2, hb6⟩
      have B6 := hid (below_chain B5.out hb6)
      have Z6 := hid hb6.size
      have KJ6 := hid (KJ5.out.below hb6 KJ5.out.lt)
      have KA1' := hid (And.intro (KA1.out.1.below hb6 KA1.out.1.lt) (KA1.out.2.below hb6 KA1.out.2.lt))
      have KA2 := hid (And.intro hj2 ha2)
      have G2 := hid (And.intro (Nat.le_trans B5.out.size g1) (Nat.le_trans B5.out.size g2))
      clear hj2 ha2 g1 g2 hb6
      have k7 := Cs.new w6 126 #[.func (.func 106) #[] #[.pointer (some ⟨bj1, 0, none⟩), .pointer (some ⟨ba1, 0, none⟩)], .func (.func 106) #[] #[.pointer (some ⟨bj2, 0, none⟩), .pointer (some ⟨ba2, 0, none⟩)], .func (.func 66) #[.pointer (some ⟨d, 0, none⟩)] #[]]
      have b7 := (Below.refl w6.heap.size w6).alloc (Nat.le_refl _) (.cells #[.func (.func 106) #[] #[.pointer (some ⟨bj1, 0, none⟩), .pointer (some ⟨ba1, 0, none⟩)], .func (.func 106) #[] #[.pointer (some ⟨bj2, 0, none⟩), .pointer (some ⟨ba2, 0, none⟩)], .func (.func 66) #[.pointer (some ⟨d, 0, none⟩)] #[]] 126)
      have K7 := hid k7
      have B7 := hid b7
      clear k7 b7
      have hlay := callsIn_wide.1 (laying_in jb d 0 N l A c _ (cell_below B7.out (KJ6.out.cell 0 rfl)) (cell_below B7.out (KJ6.out.cell 5 rfl)) ((HRd.out.rd.below B6.out).below B7.out) hA hlc z1 ⟨hN, by omega⟩ ⟨by omega, by omega⟩)
      have HLAY := hid hlay
      clear hlay
      have hjb4 := KJ4.out.lt
      have hz46 : w4.heap.size ≤ w6.heap.size := Nat.le_trans Z4.out Z6.out
      go_wp2_with fail
      refine HLAY.out.mono ?_
      clear HLAY
      rintro e w8 ⟨hb8, b8, c8, vs, rfl, hc1, hc2, gb1, gb2, hcells, hvl, hst⟩
      have K8 := hid (K7.out.below hb8 K7.out.lt)
      have B8 := hid (below_chain B7.out hb8)
      have s7 : (w6.alloc (.cells #[.func (.func 106) #[] #[.pointer (some ⟨bj1, 0, none⟩), .pointer (some ⟨ba1, 0, none⟩)], .func (.func 106) #[] #[.pointer (some ⟨bj2, 0, none⟩), .pointer (some ⟨ba2, 0, none⟩)], .func (.func 66) #[.pointer (some ⟨d, 0, none⟩)] #[]] 126)).heap.size = w6.heap.size + 1 := by simp
      have HST := hid hst
      have HCE := hid hcells
      have HVL := hid hvl
      have HGB := hid (And.intro gb1 gb2)
      have HC12 := hid (And.intro hc1 hc2)
      clear hb8 hst hcells hvl gb1 gb2 hc1 hc2
      go_wp2_with (first
        | (at_builtin; refine wpList_append_new rfl _ _ rfl w6.heap.size 3 [.func (.func 106) #[] #[.pointer (some ⟨bj1, 0, none⟩), .pointer (some ⟨ba1, 0, none⟩)], .func (.func 106) #[] #[.pointer (some ⟨bj2, 0, none⟩), .pointer (some ⟨ba2, 0, none⟩)], .func (.func 66) #[.pointer (some ⟨d, 0, none⟩)] #[]] rfl rfl (fun j u hu => K8.out.cell j (by rw [← Array.getElem?_toList]; exact hu)) b8 (manyL l + 1) c8 vs rfl HVL.out HCE.out (by omega) (by omega) ?_; intro g9 c9 w9 hb9 hg9 hcells9 hc91 hc92; have B9 := hid hb9; have G9 := hid hg9; have HC9 := hid hcells9; clear hb9 hg9 hcells9 hc91 hc92))
      have b69 := below_chain B8.out B9.out
      have bw9 := below_chain B6.out b69
      have z6 := B6.out.size
      have z68 : w6.heap.size + 1 ≤ w8.heap.size := by have := HGB.out; omega
      have z89 := B9.out.size
      have hg9 := G9.out
      have hg9l : g9 < w9.heap.size := lt_of_cell (HC9.out 0 _ rfl)
      have hG1 := G1.out
      have hG2 := G2.out
      have kj9 := KJ6.out.below b69 KJ6.out.lt
      have ka1 := KA1'.out.1.below b69 KA1'.out.1.lt
      have ka1' := KA1'.out.2.below b69 KA1'.out.2.lt
      have ka2 := KA2.out.1.below b69 KA2.out.1.lt
      have ka2' := KA2.out.2.below b69 KA2.out.2.lt
      have nf : ∀ k, w.heap.size ≤ k → k < w9.heap.size → ¬ ((F k ∧ k < w.heap.size) ∨ w9.heap.size ≤ k) := fun k a1 a2 a3 => by rcases a3 with a3 | a3 <;> omega
      have hjb9 : jb < w9.heap.size := by omega
      have hs0 : Steps w9 [.func (.func 106) #[] #[.pointer (some ⟨bj1, 0, none⟩), .pointer (some ⟨ba1, 0, none⟩)], .func (.func 106) #[] #[.pointer (some ⟨bj2, 0, none⟩), .pointer (some ⟨ba2, 0, none⟩)], .func (.func 66) #[.pointer (some ⟨d, 0, none⟩)] #[]] d (fun k => (F k ∧ k < w.heap.size) ∨ w9.heap.size ≤ k) [wrG 0 zb, wrG (Hf : Int) zb, flG] :=
        (((Steps.nil w9 d _).snoc (wipe_step ka1 ka1' (kj9.cell 0 rfl) (fun k hk => .inr hk) (nf _ hG1.1 ka1.lt) (nf _ hG1.2 ka1'.lt) (nf _ hgj hjb9))).snoc (wipe_step ka2 ka2' (kj9.cell 0 rfl) (fun k hk => .inr hk) (nf _ hG2.1 ka2.lt) (nf _ hG2.2 ka2'.lt) (nf _ hgj hjb9))).snoc (flush_step w9 d _ fun k hk => .inr hk)
      have hs1 := hs0.append (HST.out w9 (fun k => (F k ∧ k < w.heap.size) ∨ w9.heap.size ≤ k) B9.out (nf _ hgj hjb9) (fun k hk => hk.elim (fun hk => .inl (by simp; omega)) fun hk => .inr (by omega)) fun k hk => .inr hk)
      rw [← HG.out] at hs1
      have hd9 : DiskV w9 d s (fun k => (F k ∧ k < w.heap.size) ∨ w9.heap.size ≤ k) := (H0.out.within (G := fun k => (F k ∧ k < w.heap.size) ∨ w9.heap.size ≤ k) fun k a1 a2 => .inl ⟨a1, a2⟩).below bw9
      have hdo := do_v (c := c9) hd9 ⟨_, hs1, .inr ⟨g9, 0, rfl, nf _ (by omega) hg9l, fun j u hu => by rw [Nat.zero_add]; exact HC9.out j u hu⟩⟩ HGG.out.2 (by rw [HGG.out.1]; omega) (by rw [HGG.out.1]; omega)
      rw [HGG.out.1, show manyL l + 1 + 3 = 3 + (manyL l + 1) by omega, ← HR2.out] at hdo
      have BW9 := hid bw9
      have KJ9 := hid kj9
      have Z69 := hid (show w.heap.size ≤ w9.heap.size by omega)
      clear hs0 hs1 hd9 b69 bw9 nf kj9 ka1 ka1' ka2 ka2' HST HCE HC9
      refine hdo.mono ?_
      clear hdo
      rintro e w10 ⟨rfl, hd10, ht10⟩
      have hsz10 := ht10.size
      have D10 := hid hd10
      have T10 := hid ht10
      have TW := hid (show Turn w w10 F from (Turn.of_below BW9.out F).trans (ht10.mono (G := F) fun k _ hk => hk.elim (fun hk => hk.1) fun hk => HFF.out k (by omega)) fun _ _ h => h)
      clear hd10 ht10
      obtain ⟨s1, er⟩ := R
      by_cases h1 : er = 0
      · subst h1
        have hro := HRO.out rfl
        have hrd10 : Rd w10 A l := by
          rcases HRd.out with h | ⟨b, off, e, hb, hcell⟩
          · exact .inl h
          · exact .inr ⟨b, off, e, fun i hi => (World.cell?_of_block (w := w) (TW.out.block b (lt_of_cell (hcell i hi)) hb)).trans (hcell i hi)⟩
        have kj10 := KJ9.out.turn T10.out (fun hk => by rcases hk with hk | hk <;> omega)
        have hj10 : JAt w10 jb d (.slice none 0 0) ⟨0, [], 0, 0, N⟩ (fun k => False ∨ w10.heap.size ≤ k) := ⟨kj10, OwnR.nil _ _ _, fun h => h.elim (fun h => h) fun h => by omega, ⟨Nat.le_refl _, Nat.zero_le _, Nat.zero_le _⟩, Int.le_refl _, by show (0 : Int) ≤ 2147483648; decide, hN, hnx⟩
        have htk := took_v (c := c) hj10 hrd10 hA hro.1 (fun k h => .inr h) (by show 0 + manyL l ≤ 8192; omega) (by show N + (manyL l : Int) ≤ 2147483649; omega)
        have HRO' := hid hro
        clear hrd10 kj10 hj10 hro
        go_wp2_with fail
        refine htk.mono ?_
        clear htk
        rintro e w11 ⟨rfl, v', hj2, ht2⟩
        have HON := hid (took_on (F := F) (Hf := Hf) (D10.out.within (G := fun k => ((F k ∧ k < w.heap.size) ∨ w9.heap.size ≤ k) ∧ k < w10.heap.size) fun k a1 a2 => ⟨a1, a2⟩) (fun k hk => ⟨hk.1.elim (fun h => h.1) fun h => HFF.out k (by omega), fun h => h, fun h => by rcases hk.1 with h' | h' <;> omega, hk.2⟩) (fun k hk => hk.elim) (HFF.out jb hgj) (by omega) (fun k hk => HFF.out k (by omega)) hj2 ht2 (HRB.out.trans HH.out) (by have := HRO'.out.2.2; show 0 + manyL l ≤ Hf; omega) (Nat.zero_le _))
        clear hj2 ht2
        go_wp2_with fail
        go_ret2
        refine ⟨TW.out.trans HON.out.2 fun _ _ h => h, .inr ⟨rfl, jb, v', rfl, hgj, ?_⟩⟩
        rw [HJ.out]
        exact HON.out.1
      · have e0 : (er == 0) = false := by simpa using h1
        have e1 : (er != 0) = true := by rw [bne, e0]; rfl
        have H1 := hid h1
        clear h1
        go_wp2_with fail
        go_ret2
        exact ⟨TW.out, .inl ⟨H1.out, rfl, D10.out.within fun k hk _ => hk.elim (fun h => h.1) fun h => HFF.out k (by have := Z69.out; omega)⟩⟩
    · have e0 : (fe == 0) = false := by simpa using h0
      have e1 : (fe != 0) = true := by rw [bne, e0]; rfl
      have hR := HR.out
      rw [if_pos h0] at hR
      have HR2 := hid hR
      have H00 := hid h0
      clear hR HR h0
      go_wp2_with fail
      go_ret2
      rw [HR2.out]
      exact ⟨Turn.of_below B4.out _, .inl ⟨H00.out, rfl, H0.out.below B4.out⟩⟩
end Go.Proofs.YtfgbpinfplllgaaGreatDoor
