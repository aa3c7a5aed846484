/- batch: what Apply and Between do at each pair. -/
import Derived.Test.YtiemphfikfigdaaBatKC
namespace Go.Proofs.Ytiemphfikfigdaa
open Go.RowKit Go.Shelf
set_option linter.unusedVariables false
set_option maxRecDepth 100000
set_option linter.unusedSimpArgs false

/-- a variable at G that holds a list of new memory -/
def OutX {α : Type} (E : Elem α) (B G : Nat) (w : World) (ls : List α) : Prop := ∃ v, Cs w G E.sty #[v] ∧ OwnX E w B (fun k => B ≤ k ∧ k ≠ G) v ls
theorem OutX.below {α : Type} {E : Elem α} {B G : Nat} {w w' : World} {ls : List α} (h : OutX E B G w ls) (hb : Below w.heap.size w w') : OutX E B G w' ls := by
  obtain ⟨v, h1, h2⟩ := h
  exact ⟨v, h1.below hb h1.lt, h2.below hb⟩
theorem OutX.lt {α : Type} {E : Elem α} {B G : Nat} {w : World} {ls : List α} (h : OutX E B G w ls) : G < w.heap.size := by
  obtain ⟨v, h1, h2⟩ := h
  exact h1.lt
theorem kept_belowB {B : Nat} {w : World} (h : B ≤ w.heap.size) : Kept (Below B w) := fun u u' hu hb => hu.trans (hb.mono (Nat.le_trans h hu.size))
theorem kept_newV (F : Nat → Prop) (v : Value) (l : List UInt8) : Kept fun y => NewV y F v l := fun u u' h hb => h.below hb
theorem kept_outX {α : Type} (E : Elem α) (B G : Nat) (ls : List α) : Kept fun y => OutX E B G y ls := fun u u' h hb => h.below hb
theorem newV_of {w : World} {B : Nat} {v : Value} {l : List UInt8} (hb : BsV w (B ≤ ·) v l) (ht : TyB w v) (hk : ∀ k, v.ownBlock = some k → B ≤ k) : NewV w (B ≤ ·) v l := ⟨hb, ht, fun k e => ⟨hk k e, by
  rcases ht with rfl | ⟨g, n, cap, cur, rfl, hc, -⟩
  · cases e
  · cases e; exact hc.lt⟩⟩
theorem wp_buildC {w : World} {o : Oper} {a : Act} {Q : Exit → Act → World → Prop} {K : Act → World → Prop} (x : Operand) (ho : o.op = .buildSlice 22 1 #[(0, x)]) (r : Ch) (A : Option Addr) (c n : Nat) (hn : n = r.2.1.length) (hx : a.eval x = .agg #[.string ⟨r.1.toArray⟩, .slice A n c, .bool r.2.2])
    (hK : ∀ g w', Cs w' g 52 (chCells r A c).toArray → Below w.heap.size w w' → w.heap.size ≤ g → K (a.put o.dst (.slice (some ⟨g, 0, none⟩) 1 1)) w') : o.wp Try.prog a w K Q := by
  subst hn
  refine wp_of_run2 (v := .slice (some ⟨w.heap.size, 0, none⟩) 1 1) (w' := w.alloc (.cells (chCells r A c).toArray 52)) ?_ (hK _ _ (Cs.new _ _ _) ((Below.refl _ _).alloc (Nat.le_refl _) _) (Nat.le_refl _))
  unfold execOp
  simp only [ho, hx, List.map_toArray, List.map_cons, List.map_nil, chCells]
  go_simp
theorem NewV.nil (w : World) (F : Nat → Prop) : NewV w F (.slice none 0 0) [] := ⟨BsV.nil _ _, .inl rfl, fun k e => by cases e⟩
set_option maxHeartbeats 4000000 in
theorem apply1_row (x1 x2 : List UInt8) (b off : Nat) (A1 : Option Addr) (c1 : Nat) (F : Nat → Prop) (B G : Nat) (w : World) (ls : List Rw) (hat : At w b off (rwCells (x1, x2) A1 c1)) (hbv : BsV w F (.slice A1 x2.length c1) x2) (hx : x2.length ≤ 8192) (hl : ls.length ≤ 100000) (ho : OutX rowN B G w ls) (hB : B ≤ w.heap.size) (hG : B ≤ G) :
    Calls Try.prog 46 #[.pointer (some ⟨b, off, none⟩), .pointer none, .pointer (some ⟨G, 0, none⟩)] w fun e w' => (∃ v, e = .returned v) ∧ OutX rowN B G w' (ls ++ [(x1, x2)]) ∧ Below B w w' := by
  have hmix : Try.prog.follows .mixedOrders = true := by kernel_rfl
  obtain ⟨v0, hcg, hox⟩ := ho
  have QG := Lib.hid (hcg.cell 0 rfl)
  have CG := Lib.hid hcg
  have OX := Lib.hid hox
  have BW := Lib.hid hB
  have BG := Lib.hid hG
  have GL := Lib.hid hcg.lt
  have OL := Lib.hid (fun q e => (hox.lt q e).2)
  clear hcg hox hB hG
  have Q1 := Lib.hid (hat 0 _ rfl)
  have Q2 := Lib.hid (hat 1 _ rfl)
  rw [Nat.add_zero] at Q1
  obtain ⟨hbr, hbn⟩ : Rd w A1 x2 ∧ (A1 = none → x2 = [] ∧ c1 = 0) := by
    obtain ⟨A', c', e, h1, h2, h3⟩ := hbv
    cases e
    exact ⟨h1.rd, h2⟩
  have hcl := fun u (hu : Below w.heap.size w u) => Clone_ty x2 A1 c1 u (by omega) (hbr.below hu) hbn
  have HCL := Lib.hid hcl
  clear hcl hbr hbn hbv
  go_enter Try.func46, Try.ntmps46
  go_wp2_with fail
  refine wp_region_V [12, 13] (Below w.heap.size w) hmix ((Below.refl _ _).drew) ?_
  change wpAnyV _ _ _ _ _ _ _ _ _
  refine wpAnyV_take (i := 0) (v := v0) 8 (kept_below w) rfl (by kernel_rfl) (by kernel_rfl) (fun _ _ _ h => h) (fun _ h => h) (DoesV.reads (by rfl) fun w9 hS => by have q9 := (hS.cell (lt_of_cell QG.out)).trans QG.out; go_simp) ?_
  try simp only [List.getElem_toArray, List.getElem_cons_succ, List.getElem_cons_zero, Act.put, List.setIfInBounds_toArray, List.set_cons_succ, List.set_cons_zero]
  refine wpAnyV_take (i := 1) (v := .pointer (some ⟨b, off, none⟩)) 8 (kept_below w) rfl (by kernel_rfl) (by kernel_rfl) (fun _ _ _ h => h) (fun _ h => h) (DoesV.reads (by rfl) fun w9 hS => by go_simp) ?_
  try simp only [List.getElem_toArray, List.getElem_cons_succ, List.getElem_cons_zero, Act.put, List.setIfInBounds_toArray, List.set_cons_succ, List.set_cons_zero]
  refine wpAnyV_take (i := 2) (v := .pointer (some ⟨b, off, none⟩)) 8 (kept_below w) rfl (by kernel_rfl) (by kernel_rfl) (fun _ _ _ h => h) (fun _ h => h) (DoesV.reads (by rfl) fun w9 hS => by go_simp) ?_
  try simp only [List.getElem_toArray, List.getElem_cons_succ, List.getElem_cons_zero, Act.put, List.setIfInBounds_toArray, List.set_cons_succ, List.set_cons_zero]
  refine wpAnyV_take (i := 3) (v := .pointer (some ⟨b, off, none⟩)) 8 (kept_below w) rfl (by kernel_rfl) (by kernel_rfl) (fun _ _ _ h => h) (fun _ h => h) (DoesV.reads (by rfl) fun w9 hS => by go_simp) ?_
  try simp only [List.getElem_toArray, List.getElem_cons_succ, List.getElem_cons_zero, Act.put, List.setIfInBounds_toArray, List.set_cons_succ, List.set_cons_zero]
  refine wpAnyV_take (i := 4) (v := .string ⟨x1.toArray⟩) 8 (kept_below w) rfl (by kernel_rfl) (by kernel_rfl) (fun _ _ _ h => h) (fun _ h => h) (DoesV.reads (by rfl) fun w9 hS => by have q9 := (hS.cell (lt_of_cell Q1.out)).trans Q1.out; go_simp) ?_
  try simp only [List.getElem_toArray, List.getElem_cons_succ, List.getElem_cons_zero, Act.put, List.setIfInBounds_toArray, List.set_cons_succ, List.set_cons_zero]
  refine wpAnyV_take (i := 5) (v := .pointer (some ⟨b, off, none⟩)) 8 (kept_below w) rfl (by kernel_rfl) (by kernel_rfl) (fun _ _ _ h => h) (fun _ h => h) (DoesV.reads (by rfl) fun w9 hS => by go_simp) ?_
  try simp only [List.getElem_toArray, List.getElem_cons_succ, List.getElem_cons_zero, Act.put, List.setIfInBounds_toArray, List.set_cons_succ, List.set_cons_zero]
  refine wpAnyV_take (i := 6) (v := .pointer (some ⟨b, off, none⟩)) 8 (kept_below w) rfl (by kernel_rfl) (by kernel_rfl) (fun _ _ _ h => h) (fun _ h => h) (DoesV.reads (by rfl) fun w9 hS => by go_simp) ?_
  try simp only [List.getElem_toArray, List.getElem_cons_succ, List.getElem_cons_zero, Act.put, List.setIfInBounds_toArray, List.set_cons_succ, List.set_cons_zero]
  refine wpAnyV_take (i := 7) (v := .pointer (some ⟨b, off + 1, none⟩)) 8 (kept_below w) rfl (by kernel_rfl) (by kernel_rfl) (fun _ _ _ h => h) (fun _ h => h) (DoesV.reads (by rfl) fun w9 hS => by go_simp) ?_
  try simp only [List.getElem_toArray, List.getElem_cons_succ, List.getElem_cons_zero, Act.put, List.setIfInBounds_toArray, List.set_cons_succ, List.set_cons_zero]
  refine wpAnyV_take (i := 8) (v := .slice A1 x2.length c1) 8 (kept_below w) rfl (by kernel_rfl) (by kernel_rfl) (fun _ _ _ h => h) (fun _ h => h) (DoesV.reads (by rfl) fun w9 hS => by have q9 := (hS.cell (lt_of_cell Q2.out)).trans Q2.out; go_simp) ?_
  try simp only [List.getElem_toArray, List.getElem_cons_succ, List.getElem_cons_zero, Act.put, List.setIfInBounds_toArray, List.set_cons_succ, List.set_cons_zero]
  refine wpAnyV_only (i := 9) rfl (by kernel_rfl) rfl (fun u hS => wp_of_call (by go_simp) (HCL.out u hS) fun e u' ⟨v1, he, hv, hty, hk, hb⟩ => ⟨v1, he, (fun y => Below w.heap.size w y ∧ NewV y (w.heap.size ≤ ·) v1 x2), ⟨below_chain hS hb, (newV_of hv hty hk).mono fun q _ h => Nat.le_trans hS.size h⟩, kept_and (kept_below w) (kept_newV _ _ _), fun _ y h => h.1, ?_⟩)
  try simp only [List.getElem_toArray, List.getElem_cons_succ, List.getElem_cons_zero, Act.put, List.setIfInBounds_toArray, List.set_cons_succ, List.set_cons_zero]
  obtain ⟨A2, c2, hv2, -⟩ := id hv
  subst hv2
  refine wpAnyV_pure (i := 10) (v := .agg #[.string ⟨x1.toArray⟩, .slice A2 x2.length c2]) (kept_and (kept_below w) (kept_newV _ _ _)) rfl (by kernel_rfl) (by kernel_rfl) (fun _ _ _ h => h) (DoesV.reads (by rfl) fun w9 hS => by go_simp) ?_
  try simp only [List.getElem_toArray, List.getElem_cons_succ, List.getElem_cons_zero, Act.put, List.setIfInBounds_toArray, List.set_cons_succ, List.set_cons_zero]
  refine wpAnyV_only (i := 11) rfl (by kernel_rfl) rfl (fun y hy => wp_buildRow _ rfl (x1, x2) A2 c2 rfl fun g8 y' hk hb hg => ⟨(fun y => (Below w.heap.size w y ∧ NewV y (w.heap.size ≤ ·) (.slice A2 x2.length c2) x2) ∧ Cs y g8 50 (rwCells (x1, x2) A2 c2).toArray), ⟨⟨below_chain hy.1 hb, hy.2.below hb⟩, hk⟩, kept_and (kept_and (kept_below w) (kept_newV _ _ _)) (kept_cs _ _ _), fun _ y h => h.1, ?_⟩)
  try simp only [List.getElem_toArray, List.getElem_cons_succ, List.getElem_cons_zero, Act.put, List.setIfInBounds_toArray, List.set_cons_succ, List.set_cons_zero]
  refine wpAnyV_only (i := 12) rfl (by kernel_rfl) rfl (fun y hy => wp_append_x1 (E := rowN) _ _ rfl B (fun k => B ≤ k ∧ k ≠ G) v0 ls rfl (OX.out.below hy.1.1) g8 1 rfl (rwCells (x1, x2) A2 c2) (x1, x2) ⟨_, rfl, hy.1.2.mono fun q _ hq => ⟨⟨Nat.le_trans BW.out hq, fun e => absurd (e ▸ hq) (Nat.not_le.2 GL.out)⟩, fun e => absurd hq (Nat.not_le.2 (OL.out q e))⟩⟩ 50 hy.2 (by omega) (Nat.le_trans BW.out hy.1.1.size) ⟨Nat.le_trans BW.out hy.1.1.size, fun e => absurd GL.out (Nat.not_lt.2 (e ▸ hy.1.1.size))⟩ fun v3 y' ho3 hg3 => ⟨(fun y => Below B w y ∧ OwnX rowN y B (fun k => B ≤ k ∧ k ≠ G) v3 (ls ++ [(x1, x2)]) ∧ Cs y G 36 #[v0]), ⟨(hy.1.1.mono BW.out).grown hg3 (Nat.le_trans BW.out hy.1.1.size) (fun q e => (OX.out.lt q e).1), ho3, (CG.out.below hy.1.1 CG.out.lt).turn (Turn.of_grown hg3) (fun e => (OX.out.sub _ e).2 rfl)⟩, kept_and (kept_belowB BW.out) (kept_and (kept_ownX _ _ _ _) (kept_cs _ _ _)), fun h => absurd (by simp) h, ?_⟩)
  try simp only [List.getElem_toArray, List.getElem_cons_succ, List.getElem_cons_zero, Act.put, List.setIfInBounds_toArray, List.set_cons_succ, List.set_cons_zero]
  refine wpAnyV_only (i := 13) rfl (by kernel_rfl) rfl (fun y hy => wp_store1 36 _ _ rfl G 0 rfl v3 rfl hy.2.1.one (by kernel_rfl) 36 _ hy.2.2 (by simp) fun y' hk ht => ⟨(fun y => Below B w y ∧ OutX rowN B G y (ls ++ [(x1, x2)])), ⟨hy.1.trans (ht.below (Nat.le_trans BW.out hy.1.size) fun q e => e ▸ BG.out), ⟨v3, hk, hy.2.1.turn ht fun q hq e => hq.2 e⟩⟩, kept_and (kept_belowB BW.out) (kept_outX _ _ _ _), fun h => absurd (by simp) h, ?_⟩)
  try simp only [List.getElem_toArray, List.getElem_cons_succ, List.getElem_cons_zero, Act.put, List.setIfInBounds_toArray, List.set_cons_succ, List.set_cons_zero]
  refine wpAnyV_done (by kernel_rfl) (fun u hu => ?_) _
  have HU := Lib.hid hu
  clear hu
  go_wp2_with fail
  go_end0
  exact ⟨⟨_, rfl⟩, HU.out.2, HU.out.1⟩
set_option maxHeartbeats 4000000 in
theorem apply1_put (rp : Value) (x1 x2 : List UInt8) (b off : Nat) (A1 : Option Addr) (c1 : Nat) (F : Nat → Prop) (B G : Nat) (w : World) (ls : List Rw) (hat : At w b off (chCells (x1, x2, false) A1 c1)) (hbv : BsV w F (.slice A1 x2.length c1) x2) (hx : x2.length ≤ 8192) (hl : ls.length ≤ 100000) (ho : OutX rowN B G w ls) (hB : B ≤ w.heap.size) (hG : B ≤ G) :
    Calls Try.prog 46 #[rp, .pointer (some ⟨b, off, none⟩), .pointer (some ⟨G, 0, none⟩)] w fun e w' => (∃ v, e = .returned v) ∧ OutX rowN B G w' (ls ++ [(x1, x2)]) ∧ Below B w w' := by
  have hmix : Try.prog.follows .mixedOrders = true := by kernel_rfl
  obtain ⟨v0, hcg, hox⟩ := ho
  have QG := Lib.hid (hcg.cell 0 rfl)
  have CG := Lib.hid hcg
  have OX := Lib.hid hox
  have BW := Lib.hid hB
  have BG := Lib.hid hG
  have GL := Lib.hid hcg.lt
  have OL := Lib.hid (fun q e => (hox.lt q e).2)
  clear hcg hox hB hG
  have q2 : w.cell? ⟨b, off + 2, none⟩ = some (.bool false) := hat 2 _ rfl
  have Q1 := Lib.hid (hat 0 _ rfl)
  have Q2 := Lib.hid (hat 1 _ rfl)
  rw [Nat.add_zero] at Q1
  obtain ⟨hbr, hbn⟩ : Rd w A1 x2 ∧ (A1 = none → x2 = [] ∧ c1 = 0) := by
    obtain ⟨A', c', e, h1, h2, h3⟩ := hbv
    cases e
    exact ⟨h1.rd, h2⟩
  have hcl := fun u (hu : Below w.heap.size w u) => Clone_ty x2 A1 c1 u (by omega) (hbr.below hu) hbn
  have HCL := Lib.hid hcl
  clear hcl hbr hbn hbv
  go_enter Try.func46, Try.ntmps46
  go_wp2_with fail
  refine wp_region_V [12, 13] (Below w.heap.size w) hmix ((Below.refl _ _).drew) ?_
  change wpAnyV _ _ _ _ _ _ _ _ _
  refine wpAnyV_take (i := 0) (v := v0) 8 (kept_below w) rfl (by kernel_rfl) (by kernel_rfl) (fun _ _ _ h => h) (fun _ h => h) (DoesV.reads (by rfl) fun w9 hS => by have q9 := (hS.cell (lt_of_cell QG.out)).trans QG.out; go_simp) ?_
  try simp only [List.getElem_toArray, List.getElem_cons_succ, List.getElem_cons_zero, Act.put, List.setIfInBounds_toArray, List.set_cons_succ, List.set_cons_zero]
  refine wpAnyV_take (i := 1) (v := .pointer (some ⟨b, off, none⟩)) 8 (kept_below w) rfl (by kernel_rfl) (by kernel_rfl) (fun _ _ _ h => h) (fun _ h => h) (DoesV.reads (by rfl) fun w9 hS => by go_simp) ?_
  try simp only [List.getElem_toArray, List.getElem_cons_succ, List.getElem_cons_zero, Act.put, List.setIfInBounds_toArray, List.set_cons_succ, List.set_cons_zero]
  refine wpAnyV_take (i := 2) (v := .pointer (some ⟨b, off, none⟩)) 8 (kept_below w) rfl (by kernel_rfl) (by kernel_rfl) (fun _ _ _ h => h) (fun _ h => h) (DoesV.reads (by rfl) fun w9 hS => by go_simp) ?_
  try simp only [List.getElem_toArray, List.getElem_cons_succ, List.getElem_cons_zero, Act.put, List.setIfInBounds_toArray, List.set_cons_succ, List.set_cons_zero]
  refine wpAnyV_take (i := 3) (v := .pointer (some ⟨b, off, none⟩)) 8 (kept_below w) rfl (by kernel_rfl) (by kernel_rfl) (fun _ _ _ h => h) (fun _ h => h) (DoesV.reads (by rfl) fun w9 hS => by go_simp) ?_
  try simp only [List.getElem_toArray, List.getElem_cons_succ, List.getElem_cons_zero, Act.put, List.setIfInBounds_toArray, List.set_cons_succ, List.set_cons_zero]
  refine wpAnyV_take (i := 4) (v := .string ⟨x1.toArray⟩) 8 (kept_below w) rfl (by kernel_rfl) (by kernel_rfl) (fun _ _ _ h => h) (fun _ h => h) (DoesV.reads (by rfl) fun w9 hS => by have q9 := (hS.cell (lt_of_cell Q1.out)).trans Q1.out; go_simp) ?_
  try simp only [List.getElem_toArray, List.getElem_cons_succ, List.getElem_cons_zero, Act.put, List.setIfInBounds_toArray, List.set_cons_succ, List.set_cons_zero]
  refine wpAnyV_take (i := 5) (v := .pointer (some ⟨b, off, none⟩)) 8 (kept_below w) rfl (by kernel_rfl) (by kernel_rfl) (fun _ _ _ h => h) (fun _ h => h) (DoesV.reads (by rfl) fun w9 hS => by go_simp) ?_
  try simp only [List.getElem_toArray, List.getElem_cons_succ, List.getElem_cons_zero, Act.put, List.setIfInBounds_toArray, List.set_cons_succ, List.set_cons_zero]
  refine wpAnyV_take (i := 6) (v := .pointer (some ⟨b, off, none⟩)) 8 (kept_below w) rfl (by kernel_rfl) (by kernel_rfl) (fun _ _ _ h => h) (fun _ h => h) (DoesV.reads (by rfl) fun w9 hS => by go_simp) ?_
  try simp only [List.getElem_toArray, List.getElem_cons_succ, List.getElem_cons_zero, Act.put, List.setIfInBounds_toArray, List.set_cons_succ, List.set_cons_zero]
  refine wpAnyV_take (i := 7) (v := .pointer (some ⟨b, off + 1, none⟩)) 8 (kept_below w) rfl (by kernel_rfl) (by kernel_rfl) (fun _ _ _ h => h) (fun _ h => h) (DoesV.reads (by rfl) fun w9 hS => by go_simp) ?_
  try simp only [List.getElem_toArray, List.getElem_cons_succ, List.getElem_cons_zero, Act.put, List.setIfInBounds_toArray, List.set_cons_succ, List.set_cons_zero]
  refine wpAnyV_take (i := 8) (v := .slice A1 x2.length c1) 8 (kept_below w) rfl (by kernel_rfl) (by kernel_rfl) (fun _ _ _ h => h) (fun _ h => h) (DoesV.reads (by rfl) fun w9 hS => by have q9 := (hS.cell (lt_of_cell Q2.out)).trans Q2.out; go_simp) ?_
  try simp only [List.getElem_toArray, List.getElem_cons_succ, List.getElem_cons_zero, Act.put, List.setIfInBounds_toArray, List.set_cons_succ, List.set_cons_zero]
  refine wpAnyV_only (i := 9) rfl (by kernel_rfl) rfl (fun u hS => wp_of_call (by go_simp) (HCL.out u hS) fun e u' ⟨v1, he, hv, hty, hk, hb⟩ => ⟨v1, he, (fun y => Below w.heap.size w y ∧ NewV y (w.heap.size ≤ ·) v1 x2), ⟨below_chain hS hb, (newV_of hv hty hk).mono fun q _ h => Nat.le_trans hS.size h⟩, kept_and (kept_below w) (kept_newV _ _ _), fun _ y h => h.1, ?_⟩)
  try simp only [List.getElem_toArray, List.getElem_cons_succ, List.getElem_cons_zero, Act.put, List.setIfInBounds_toArray, List.set_cons_succ, List.set_cons_zero]
  obtain ⟨A2, c2, hv2, -⟩ := id hv
  subst hv2
  refine wpAnyV_pure (i := 10) (v := .agg #[.string ⟨x1.toArray⟩, .slice A2 x2.length c2]) (kept_and (kept_below w) (kept_newV _ _ _)) rfl (by kernel_rfl) (by kernel_rfl) (fun _ _ _ h => h) (DoesV.reads (by rfl) fun w9 hS => by go_simp) ?_
  try simp only [List.getElem_toArray, List.getElem_cons_succ, List.getElem_cons_zero, Act.put, List.setIfInBounds_toArray, List.set_cons_succ, List.set_cons_zero]
  refine wpAnyV_only (i := 11) rfl (by kernel_rfl) rfl (fun y hy => wp_buildRow _ rfl (x1, x2) A2 c2 rfl fun g8 y' hk hb hg => ⟨(fun y => (Below w.heap.size w y ∧ NewV y (w.heap.size ≤ ·) (.slice A2 x2.length c2) x2) ∧ Cs y g8 50 (rwCells (x1, x2) A2 c2).toArray), ⟨⟨below_chain hy.1 hb, hy.2.below hb⟩, hk⟩, kept_and (kept_and (kept_below w) (kept_newV _ _ _)) (kept_cs _ _ _), fun _ y h => h.1, ?_⟩)
  try simp only [List.getElem_toArray, List.getElem_cons_succ, List.getElem_cons_zero, Act.put, List.setIfInBounds_toArray, List.set_cons_succ, List.set_cons_zero]
  refine wpAnyV_only (i := 12) rfl (by kernel_rfl) rfl (fun y hy => wp_append_x1 (E := rowN) _ _ rfl B (fun k => B ≤ k ∧ k ≠ G) v0 ls rfl (OX.out.below hy.1.1) g8 1 rfl (rwCells (x1, x2) A2 c2) (x1, x2) ⟨_, rfl, hy.1.2.mono fun q _ hq => ⟨⟨Nat.le_trans BW.out hq, fun e => absurd (e ▸ hq) (Nat.not_le.2 GL.out)⟩, fun e => absurd hq (Nat.not_le.2 (OL.out q e))⟩⟩ 50 hy.2 (by omega) (Nat.le_trans BW.out hy.1.1.size) ⟨Nat.le_trans BW.out hy.1.1.size, fun e => absurd GL.out (Nat.not_lt.2 (e ▸ hy.1.1.size))⟩ fun v3 y' ho3 hg3 => ⟨(fun y => Below B w y ∧ OwnX rowN y B (fun k => B ≤ k ∧ k ≠ G) v3 (ls ++ [(x1, x2)]) ∧ Cs y G 36 #[v0]), ⟨(hy.1.1.mono BW.out).grown hg3 (Nat.le_trans BW.out hy.1.1.size) (fun q e => (OX.out.lt q e).1), ho3, (CG.out.below hy.1.1 CG.out.lt).turn (Turn.of_grown hg3) (fun e => (OX.out.sub _ e).2 rfl)⟩, kept_and (kept_belowB BW.out) (kept_and (kept_ownX _ _ _ _) (kept_cs _ _ _)), fun h => absurd (by simp) h, ?_⟩)
  try simp only [List.getElem_toArray, List.getElem_cons_succ, List.getElem_cons_zero, Act.put, List.setIfInBounds_toArray, List.set_cons_succ, List.set_cons_zero]
  refine wpAnyV_only (i := 13) rfl (by kernel_rfl) rfl (fun y hy => wp_store1 36 _ _ rfl G 0 rfl v3 rfl hy.2.1.one (by kernel_rfl) 36 _ hy.2.2 (by simp) fun y' hk ht => ⟨(fun y => Below B w y ∧ OutX rowN B G y (ls ++ [(x1, x2)])), ⟨hy.1.trans (ht.below (Nat.le_trans BW.out hy.1.size) fun q e => e ▸ BG.out), ⟨v3, hk, hy.2.1.turn ht fun q hq e => hq.2 e⟩⟩, kept_and (kept_belowB BW.out) (kept_outX _ _ _ _), fun h => absurd (by simp) h, ?_⟩)
  try simp only [List.getElem_toArray, List.getElem_cons_succ, List.getElem_cons_zero, Act.put, List.setIfInBounds_toArray, List.set_cons_succ, List.set_cons_zero]
  refine wpAnyV_done (by kernel_rfl) (fun u hu => ?_) _
  have HU := Lib.hid hu
  clear hu
  go_wp2_with fail
  go_end0
  exact ⟨⟨_, rfl⟩, HU.out.2, HU.out.1⟩
set_option maxHeartbeats 4000000 in
theorem apply1_gone (rp : Value) (x1 x2 : List UInt8) (b off : Nat) (A1 : Option Addr) (c1 : Nat) (B G : Nat) (w : World) (ls : List Rw) (hat : At w b off (chCells (x1, x2, true) A1 c1)) (hl : ls.length ≤ 100000) (ho : OutX rowN B G w ls) (hB : B ≤ w.heap.size) (hG : B ≤ G) :
    Calls Try.prog 46 #[rp, .pointer (some ⟨b, off, none⟩), .pointer (some ⟨G, 0, none⟩)] w fun e w' => (∃ v, e = .returned v) ∧ OutX rowN B G w' ls ∧ Below B w w' := by
  have q2 : w.cell? ⟨b, off + 2, none⟩ = some (.bool true) := hat 2 _ rfl
  have HO := Lib.hid ho
  clear hat ho
  go_enter Try.func46, Try.ntmps46
  go_wp2_with fail
  go_end0
  exact ⟨⟨_, rfl⟩, HO.out, Below.refl _ _⟩
set_option maxHeartbeats 4000000 in
theorem betw1_gone (x1 x2 : List UInt8) (b off : Nat) (A1 : Option Addr) (c1 : Nat) (B G : Nat) (w : World) (ls : List Ch) (hat : At w b off (rwCells (x1, x2) A1 c1)) (hl : ls.length ≤ 100000) (ho : OutX chgN B G w ls) (hB : B ≤ w.heap.size) (hG : B ≤ G) :
    Calls Try.prog 52 #[.pointer (some ⟨b, off, none⟩), .pointer none, .pointer (some ⟨G, 0, none⟩)] w fun e w' => (∃ v, e = .returned v) ∧ OutX chgN B G w' (ls ++ [(x1, [], true)]) ∧ Below B w w' := by
  have hmix : Try.prog.follows .mixedOrders = true := by kernel_rfl
  obtain ⟨v0, hcg, hox⟩ := ho
  have QG := Lib.hid (hcg.cell 0 rfl)
  have CG := Lib.hid hcg
  have OX := Lib.hid hox
  have BW := Lib.hid hB
  have BG := Lib.hid hG
  have GL := Lib.hid hcg.lt
  have OL := Lib.hid (fun q e => (hox.lt q e).2)
  clear hcg hox hB hG
  have Q1 := Lib.hid (hat 0 _ rfl)
  rw [Nat.add_zero] at Q1
  go_enter Try.func52, Try.ntmps52
  go_wp2_with fail
  refine wp_region_V [7, 8] (Below w.heap.size w) hmix ((Below.refl _ _).drew) ?_
  change wpAnyV _ _ _ _ _ _ _ _ _
  refine wpAnyV_take (i := 0) (v := v0) 8 (kept_below w) rfl (by kernel_rfl) (by kernel_rfl) (fun _ _ _ h => h) (fun _ h => h) (DoesV.reads (by rfl) fun w9 hS => by have q9 := (hS.cell (lt_of_cell QG.out)).trans QG.out; go_simp) ?_
  try simp only [List.getElem_toArray, List.getElem_cons_succ, List.getElem_cons_zero, Act.put, List.setIfInBounds_toArray, List.set_cons_succ, List.set_cons_zero]
  refine wpAnyV_take (i := 1) (v := .pointer (some ⟨b, off, none⟩)) 8 (kept_below w) rfl (by kernel_rfl) (by kernel_rfl) (fun _ _ _ h => h) (fun _ h => h) (DoesV.reads (by rfl) fun w9 hS => by go_simp) ?_
  try simp only [List.getElem_toArray, List.getElem_cons_succ, List.getElem_cons_zero, Act.put, List.setIfInBounds_toArray, List.set_cons_succ, List.set_cons_zero]
  refine wpAnyV_take (i := 2) (v := .pointer (some ⟨b, off, none⟩)) 8 (kept_below w) rfl (by kernel_rfl) (by kernel_rfl) (fun _ _ _ h => h) (fun _ h => h) (DoesV.reads (by rfl) fun w9 hS => by go_simp) ?_
  try simp only [List.getElem_toArray, List.getElem_cons_succ, List.getElem_cons_zero, Act.put, List.setIfInBounds_toArray, List.set_cons_succ, List.set_cons_zero]
  refine wpAnyV_take (i := 3) (v := .pointer (some ⟨b, off, none⟩)) 8 (kept_below w) rfl (by kernel_rfl) (by kernel_rfl) (fun _ _ _ h => h) (fun _ h => h) (DoesV.reads (by rfl) fun w9 hS => by go_simp) ?_
  try simp only [List.getElem_toArray, List.getElem_cons_succ, List.getElem_cons_zero, Act.put, List.setIfInBounds_toArray, List.set_cons_succ, List.set_cons_zero]
  refine wpAnyV_take (i := 4) (v := .string ⟨x1.toArray⟩) 8 (kept_below w) rfl (by kernel_rfl) (by kernel_rfl) (fun _ _ _ h => h) (fun _ h => h) (DoesV.reads (by rfl) fun w9 hS => by have q9 := (hS.cell (lt_of_cell Q1.out)).trans Q1.out; go_simp) ?_
  try simp only [List.getElem_toArray, List.getElem_cons_succ, List.getElem_cons_zero, Act.put, List.setIfInBounds_toArray, List.set_cons_succ, List.set_cons_zero]
  refine wpAnyV_pure (i := 5) (v := .agg #[.string ⟨x1.toArray⟩, .slice none 0 0, .bool true]) (kept_below w) rfl (by kernel_rfl) (by kernel_rfl) (fun _ _ _ h => h) (DoesV.reads (by rfl) fun w9 hS => by go_simp) ?_
  try simp only [List.getElem_toArray, List.getElem_cons_succ, List.getElem_cons_zero, Act.put, List.setIfInBounds_toArray, List.set_cons_succ, List.set_cons_zero]
  refine wpAnyV_only (i := 6) rfl (by kernel_rfl) rfl (fun y hy => wp_buildC _ rfl (x1, [], true) none 0 _ rfl rfl fun g8 y' hk hb hg => ⟨(fun y => (Below w.heap.size w y) ∧ Cs y g8 52 (chCells (x1, [], true) none 0).toArray), ⟨(below_chain hy hb), hk⟩, kept_and (kept_below w) (kept_cs _ _ _), fun _ y h => h.1, ?_⟩)
  try simp only [List.getElem_toArray, List.getElem_cons_succ, List.getElem_cons_zero, Act.put, List.setIfInBounds_toArray, List.set_cons_succ, List.set_cons_zero]
  refine wpAnyV_only (i := 7) rfl (by kernel_rfl) rfl (fun y hy => wp_append_x1 (E := chgN) _ _ rfl B (fun k => B ≤ k ∧ k ≠ G) v0 ls rfl (OX.out.below hy.1) g8 1 rfl (chCells (x1, [], true) none 0) (x1, [], true) ⟨_, rfl, NewV.nil _ _⟩ 52 hy.2 (by omega) (Nat.le_trans BW.out hy.1.size) ⟨Nat.le_trans BW.out hy.1.size, fun e => absurd GL.out (Nat.not_lt.2 (e ▸ hy.1.size))⟩ fun v3 y' ho3 hg3 => ⟨(fun y => Below B w y ∧ OwnX chgN y B (fun k => B ≤ k ∧ k ≠ G) v3 (ls ++ [(x1, [], true)]) ∧ Cs y G 22 #[v0]), ⟨(hy.1.mono BW.out).grown hg3 (Nat.le_trans BW.out hy.1.size) (fun q e => (OX.out.lt q e).1), ho3, (CG.out.below hy.1 CG.out.lt).turn (Turn.of_grown hg3) (fun e => (OX.out.sub _ e).2 rfl)⟩, kept_and (kept_belowB BW.out) (kept_and (kept_ownX _ _ _ _) (kept_cs _ _ _)), fun h => absurd (by simp) h, ?_⟩)
  try simp only [List.getElem_toArray, List.getElem_cons_succ, List.getElem_cons_zero, Act.put, List.setIfInBounds_toArray, List.set_cons_succ, List.set_cons_zero]
  refine wpAnyV_only (i := 8) rfl (by kernel_rfl) rfl (fun y hy => wp_store1 22 _ _ rfl G 0 rfl v3 rfl hy.2.1.one (by kernel_rfl) 22 _ hy.2.2 (by simp) fun y' hk ht => ⟨(fun y => Below B w y ∧ OutX chgN B G y (ls ++ [(x1, [], true)])), ⟨hy.1.trans (ht.below (Nat.le_trans BW.out hy.1.size) fun q e => e ▸ BG.out), ⟨v3, hk, hy.2.1.turn ht fun q hq e => hq.2 e⟩⟩, kept_and (kept_belowB BW.out) (kept_outX _ _ _ _), fun h => absurd (by simp) h, ?_⟩)
  try simp only [List.getElem_toArray, List.getElem_cons_succ, List.getElem_cons_zero, Act.put, List.setIfInBounds_toArray, List.set_cons_succ, List.set_cons_zero]
  refine wpAnyV_done (by kernel_rfl) (fun u hu => ?_) _
  have HU := Lib.hid hu
  clear hu
  go_wp2_with fail
  go_end0
  exact ⟨⟨_, rfl⟩, HU.out.2, HU.out.1⟩
set_option maxHeartbeats 4000000 in
theorem betw1_new (x1 x2 : List UInt8) (b off : Nat) (A1 : Option Addr) (c1 : Nat) (F : Nat → Prop) (B G : Nat) (w : World) (ls : List Ch) (hat : At w b off (rwCells (x1, x2) A1 c1)) (hbv : BsV w F (.slice A1 x2.length c1) x2) (hx : x2.length ≤ 8192) (hl : ls.length ≤ 100000) (ho : OutX chgN B G w ls) (hB : B ≤ w.heap.size) (hG : B ≤ G) :
    Calls Try.prog 52 #[.pointer none, .pointer (some ⟨b, off, none⟩), .pointer (some ⟨G, 0, none⟩)] w fun e w' => (∃ v, e = .returned v) ∧ OutX chgN B G w' (ls ++ [(x1, x2, false)]) ∧ Below B w w' := by
  have hmix : Try.prog.follows .mixedOrders = true := by kernel_rfl
  obtain ⟨v0, hcg, hox⟩ := ho
  have QG := Lib.hid (hcg.cell 0 rfl)
  have CG := Lib.hid hcg
  have OX := Lib.hid hox
  have BW := Lib.hid hB
  have BG := Lib.hid hG
  have GL := Lib.hid hcg.lt
  have OL := Lib.hid (fun q e => (hox.lt q e).2)
  clear hcg hox hB hG
  have Q1 := Lib.hid (hat 0 _ rfl)
  have Q2 := Lib.hid (hat 1 _ rfl)
  rw [Nat.add_zero] at Q1
  obtain ⟨hbr, hbn⟩ : Rd w A1 x2 ∧ (A1 = none → x2 = [] ∧ c1 = 0) := by
    obtain ⟨A', c', e, h1, h2, h3⟩ := hbv
    cases e
    exact ⟨h1.rd, h2⟩
  have hcl := fun u (hu : Below w.heap.size w u) => Clone_ty x2 A1 c1 u (by omega) (hbr.below hu) hbn
  have HCL := Lib.hid hcl
  clear hcl hbr hbn hbv
  go_enter Try.func52, Try.ntmps52
  go_wp2_with fail
  refine wp_region_V [] (Below w.heap.size w) hmix ((Below.refl _ _).drew) ?_
  change wpAnyV _ _ _ _ _ _ _ _ _
  refine wpAnyV_take (i := 0) (v := .pointer none) 8 (kept_below w) rfl (by kernel_rfl) (by kernel_rfl) (fun _ _ _ h => h) (fun _ h => h) (DoesV.reads (by rfl) fun w9 hS => by go_simp) ?_
  try simp only [List.getElem_toArray, List.getElem_cons_succ, List.getElem_cons_zero, Act.put, List.setIfInBounds_toArray, List.set_cons_succ, List.set_cons_zero]
  refine wpAnyV_take (i := 1) (v := .bool true) 8 (kept_below w) rfl (by kernel_rfl) (by kernel_rfl) (fun _ _ _ h => h) (fun _ h => h) (DoesV.reads (by rfl) fun w9 hS => by go_simp) ?_
  try simp only [List.getElem_toArray, List.getElem_cons_succ, List.getElem_cons_zero, Act.put, List.setIfInBounds_toArray, List.set_cons_succ, List.set_cons_zero]
  refine wpAnyV_take (i := 2) (v := .bool true) 8 (kept_below w) rfl (by kernel_rfl) (by kernel_rfl) (fun _ _ _ h => h) (fun _ h => h) (DoesV.reads (by rfl) fun w9 hS => by go_simp) ?_
  try simp only [List.getElem_toArray, List.getElem_cons_succ, List.getElem_cons_zero, Act.put, List.setIfInBounds_toArray, List.set_cons_succ, List.set_cons_zero]
  refine wpAnyV_take (i := 3) (v := undef) 8 (kept_below w) rfl (by kernel_rfl) (by kernel_rfl) (fun _ _ _ h => h) (fun _ h => h) (DoesV.off (by rfl)) ?_
  try simp only [List.getElem_toArray, List.getElem_cons_succ, List.getElem_cons_zero, Act.put, List.setIfInBounds_toArray, List.set_cons_succ, List.set_cons_zero]
  refine wpAnyV_take (i := 4) (v := undef) 8 (kept_below w) rfl (by kernel_rfl) (by kernel_rfl) (fun _ _ _ h => h) (fun _ h => h) (DoesV.off (by rfl)) ?_
  try simp only [List.getElem_toArray, List.getElem_cons_succ, List.getElem_cons_zero, Act.put, List.setIfInBounds_toArray, List.set_cons_succ, List.set_cons_zero]
  refine wpAnyV_take (i := 5) (v := undef) 8 (kept_below w) rfl (by kernel_rfl) (by kernel_rfl) (fun _ _ _ h => h) (fun _ h => h) (DoesV.off (by rfl)) ?_
  try simp only [List.getElem_toArray, List.getElem_cons_succ, List.getElem_cons_zero, Act.put, List.setIfInBounds_toArray, List.set_cons_succ, List.set_cons_zero]
  refine wpAnyV_take (i := 6) (v := undef) 8 (kept_below w) rfl (by kernel_rfl) (by kernel_rfl) (fun _ _ _ h => h) (fun _ h => h) (DoesV.off (by rfl)) ?_
  try simp only [List.getElem_toArray, List.getElem_cons_succ, List.getElem_cons_zero, Act.put, List.setIfInBounds_toArray, List.set_cons_succ, List.set_cons_zero]
  refine wpAnyV_take (i := 7) (v := undef) 8 (kept_below w) rfl (by kernel_rfl) (by kernel_rfl) (fun _ _ _ h => h) (fun _ h => h) (DoesV.off (by rfl)) ?_
  try simp only [List.getElem_toArray, List.getElem_cons_succ, List.getElem_cons_zero, Act.put, List.setIfInBounds_toArray, List.set_cons_succ, List.set_cons_zero]
  refine wpAnyV_take (i := 8) (v := undef) 8 (kept_below w) rfl (by kernel_rfl) (by kernel_rfl) (fun _ _ _ h => h) (fun _ h => h) (DoesV.off (by rfl)) ?_
  try simp only [List.getElem_toArray, List.getElem_cons_succ, List.getElem_cons_zero, Act.put, List.setIfInBounds_toArray, List.set_cons_succ, List.set_cons_zero]
  refine wpAnyV_take (i := 9) (v := undef) 8 (kept_below w) rfl (by kernel_rfl) (by kernel_rfl) (fun _ _ _ h => h) (fun _ h => h) (DoesV.off (by rfl)) ?_
  try simp only [List.getElem_toArray, List.getElem_cons_succ, List.getElem_cons_zero, Act.put, List.setIfInBounds_toArray, List.set_cons_succ, List.set_cons_zero]
  refine wpAnyV_take (i := 10) (v := undef) 8 (kept_below w) rfl (by kernel_rfl) (by kernel_rfl) (fun _ _ _ h => h) (fun _ h => h) (DoesV.off (by rfl)) ?_
  try simp only [List.getElem_toArray, List.getElem_cons_succ, List.getElem_cons_zero, Act.put, List.setIfInBounds_toArray, List.set_cons_succ, List.set_cons_zero]
  refine wpAnyV_take (i := 11) (v := undef) 8 (kept_below w) rfl (by kernel_rfl) (by kernel_rfl) (fun _ _ _ h => h) (fun _ h => h) (DoesV.off (by rfl)) ?_
  try simp only [List.getElem_toArray, List.getElem_cons_succ, List.getElem_cons_zero, Act.put, List.setIfInBounds_toArray, List.set_cons_succ, List.set_cons_zero]
  refine wpAnyV_take (i := 12) (v := undef) 8 (kept_below w) rfl (by kernel_rfl) (by kernel_rfl) (fun _ _ _ h => h) (fun _ h => h) (DoesV.off (by rfl)) ?_
  try simp only [List.getElem_toArray, List.getElem_cons_succ, List.getElem_cons_zero, Act.put, List.setIfInBounds_toArray, List.set_cons_succ, List.set_cons_zero]
  refine wpAnyV_take (i := 13) (v := .bool true) 8 (kept_below w) rfl (by kernel_rfl) (by kernel_rfl) (fun _ _ _ h => h) (fun _ h => h) (DoesV.reads (by rfl) fun w9 hS => by go_simp) ?_
  try simp only [List.getElem_toArray, List.getElem_cons_succ, List.getElem_cons_zero, Act.put, List.setIfInBounds_toArray, List.set_cons_succ, List.set_cons_zero]
  refine wpAnyV_take (i := 14) (v := .bool true) 8 (kept_below w) rfl (by kernel_rfl) (by kernel_rfl) (fun _ _ _ h => h) (fun _ h => h) (DoesV.reads (by rfl) fun w9 hS => by go_simp) ?_
  try simp only [List.getElem_toArray, List.getElem_cons_succ, List.getElem_cons_zero, Act.put, List.setIfInBounds_toArray, List.set_cons_succ, List.set_cons_zero]
  refine wpAnyV_done (by kernel_rfl) (fun u0 hu => ?_) _
  have HU0 := Lib.hid hu
  clear hu
  go_wp2_with fail
  refine wp_region_V [12, 13] (Below w.heap.size w) hmix (HU0.out.drew) ?_
  change wpAnyV _ _ _ _ _ _ _ _ _
  refine wpAnyV_take (i := 0) (v := v0) 8 (kept_below w) rfl (by kernel_rfl) (by kernel_rfl) (fun _ _ _ h => h) (fun _ h => h) (DoesV.reads (by rfl) fun w9 hS => by have q9 := (hS.cell (lt_of_cell QG.out)).trans QG.out; go_simp) ?_
  try simp only [List.getElem_toArray, List.getElem_cons_succ, List.getElem_cons_zero, Act.put, List.setIfInBounds_toArray, List.set_cons_succ, List.set_cons_zero]
  refine wpAnyV_take (i := 1) (v := .pointer (some ⟨b, off, none⟩)) 8 (kept_below w) rfl (by kernel_rfl) (by kernel_rfl) (fun _ _ _ h => h) (fun _ h => h) (DoesV.reads (by rfl) fun w9 hS => by go_simp) ?_
  try simp only [List.getElem_toArray, List.getElem_cons_succ, List.getElem_cons_zero, Act.put, List.setIfInBounds_toArray, List.set_cons_succ, List.set_cons_zero]
  refine wpAnyV_take (i := 2) (v := .pointer (some ⟨b, off, none⟩)) 8 (kept_below w) rfl (by kernel_rfl) (by kernel_rfl) (fun _ _ _ h => h) (fun _ h => h) (DoesV.reads (by rfl) fun w9 hS => by go_simp) ?_
  try simp only [List.getElem_toArray, List.getElem_cons_succ, List.getElem_cons_zero, Act.put, List.setIfInBounds_toArray, List.set_cons_succ, List.set_cons_zero]
  refine wpAnyV_take (i := 3) (v := .pointer (some ⟨b, off, none⟩)) 8 (kept_below w) rfl (by kernel_rfl) (by kernel_rfl) (fun _ _ _ h => h) (fun _ h => h) (DoesV.reads (by rfl) fun w9 hS => by go_simp) ?_
  try simp only [List.getElem_toArray, List.getElem_cons_succ, List.getElem_cons_zero, Act.put, List.setIfInBounds_toArray, List.set_cons_succ, List.set_cons_zero]
  refine wpAnyV_take (i := 4) (v := .string ⟨x1.toArray⟩) 8 (kept_below w) rfl (by kernel_rfl) (by kernel_rfl) (fun _ _ _ h => h) (fun _ h => h) (DoesV.reads (by rfl) fun w9 hS => by have q9 := (hS.cell (lt_of_cell Q1.out)).trans Q1.out; go_simp) ?_
  try simp only [List.getElem_toArray, List.getElem_cons_succ, List.getElem_cons_zero, Act.put, List.setIfInBounds_toArray, List.set_cons_succ, List.set_cons_zero]
  refine wpAnyV_take (i := 5) (v := .pointer (some ⟨b, off, none⟩)) 8 (kept_below w) rfl (by kernel_rfl) (by kernel_rfl) (fun _ _ _ h => h) (fun _ h => h) (DoesV.reads (by rfl) fun w9 hS => by go_simp) ?_
  try simp only [List.getElem_toArray, List.getElem_cons_succ, List.getElem_cons_zero, Act.put, List.setIfInBounds_toArray, List.set_cons_succ, List.set_cons_zero]
  refine wpAnyV_take (i := 6) (v := .pointer (some ⟨b, off, none⟩)) 8 (kept_below w) rfl (by kernel_rfl) (by kernel_rfl) (fun _ _ _ h => h) (fun _ h => h) (DoesV.reads (by rfl) fun w9 hS => by go_simp) ?_
  try simp only [List.getElem_toArray, List.getElem_cons_succ, List.getElem_cons_zero, Act.put, List.setIfInBounds_toArray, List.set_cons_succ, List.set_cons_zero]
  refine wpAnyV_take (i := 7) (v := .pointer (some ⟨b, off + 1, none⟩)) 8 (kept_below w) rfl (by kernel_rfl) (by kernel_rfl) (fun _ _ _ h => h) (fun _ h => h) (DoesV.reads (by rfl) fun w9 hS => by go_simp) ?_
  try simp only [List.getElem_toArray, List.getElem_cons_succ, List.getElem_cons_zero, Act.put, List.setIfInBounds_toArray, List.set_cons_succ, List.set_cons_zero]
  refine wpAnyV_take (i := 8) (v := .slice A1 x2.length c1) 8 (kept_below w) rfl (by kernel_rfl) (by kernel_rfl) (fun _ _ _ h => h) (fun _ h => h) (DoesV.reads (by rfl) fun w9 hS => by have q9 := (hS.cell (lt_of_cell Q2.out)).trans Q2.out; go_simp) ?_
  try simp only [List.getElem_toArray, List.getElem_cons_succ, List.getElem_cons_zero, Act.put, List.setIfInBounds_toArray, List.set_cons_succ, List.set_cons_zero]
  refine wpAnyV_only (i := 9) rfl (by kernel_rfl) rfl (fun u hS => wp_of_call (by go_simp) (HCL.out u hS) fun e u' ⟨v1, he, hv, hty, hk, hb⟩ => ⟨v1, he, (fun y => Below w.heap.size w y ∧ NewV y (w.heap.size ≤ ·) v1 x2), ⟨below_chain hS hb, (newV_of hv hty hk).mono fun q _ h => Nat.le_trans hS.size h⟩, kept_and (kept_below w) (kept_newV _ _ _), fun _ y h => h.1, ?_⟩)
  try simp only [List.getElem_toArray, List.getElem_cons_succ, List.getElem_cons_zero, Act.put, List.setIfInBounds_toArray, List.set_cons_succ, List.set_cons_zero]
  obtain ⟨A2, c2, hv2, -⟩ := id hv
  subst hv2
  refine wpAnyV_pure (i := 10) (v := .agg #[.string ⟨x1.toArray⟩, .slice A2 x2.length c2, .bool false]) (kept_and (kept_below w) (kept_newV _ _ _)) rfl (by kernel_rfl) (by kernel_rfl) (fun _ _ _ h => h) (DoesV.reads (by rfl) fun w9 hS => by go_simp) ?_
  try simp only [List.getElem_toArray, List.getElem_cons_succ, List.getElem_cons_zero, Act.put, List.setIfInBounds_toArray, List.set_cons_succ, List.set_cons_zero]
  refine wpAnyV_only (i := 11) rfl (by kernel_rfl) rfl (fun y hy => wp_buildC _ rfl (x1, x2, false) A2 c2 _ rfl rfl fun g8 y' hk hb hg => ⟨(fun y => (Below w.heap.size w y ∧ NewV y (w.heap.size ≤ ·) (.slice A2 x2.length c2) x2) ∧ Cs y g8 52 (chCells (x1, x2, false) A2 c2).toArray), ⟨⟨below_chain hy.1 hb, hy.2.below hb⟩, hk⟩, kept_and (kept_and (kept_below w) (kept_newV _ _ _)) (kept_cs _ _ _), fun _ y h => h.1, ?_⟩)
  try simp only [List.getElem_toArray, List.getElem_cons_succ, List.getElem_cons_zero, Act.put, List.setIfInBounds_toArray, List.set_cons_succ, List.set_cons_zero]
  refine wpAnyV_only (i := 12) rfl (by kernel_rfl) rfl (fun y hy => wp_append_x1 (E := chgN) _ _ rfl B (fun k => B ≤ k ∧ k ≠ G) v0 ls rfl (OX.out.below hy.1.1) g8 1 rfl (chCells (x1, x2, false) A2 c2) (x1, x2, false) ⟨_, rfl, hy.1.2.mono fun q _ hq => ⟨⟨Nat.le_trans BW.out hq, fun e => absurd (e ▸ hq) (Nat.not_le.2 GL.out)⟩, fun e => absurd hq (Nat.not_le.2 (OL.out q e))⟩⟩ 52 hy.2 (by omega) (Nat.le_trans BW.out hy.1.1.size) ⟨Nat.le_trans BW.out hy.1.1.size, fun e => absurd GL.out (Nat.not_lt.2 (e ▸ hy.1.1.size))⟩ fun v3 y' ho3 hg3 => ⟨(fun y => Below B w y ∧ OwnX chgN y B (fun k => B ≤ k ∧ k ≠ G) v3 (ls ++ [(x1, x2, false)]) ∧ Cs y G 22 #[v0]), ⟨(hy.1.1.mono BW.out).grown hg3 (Nat.le_trans BW.out hy.1.1.size) (fun q e => (OX.out.lt q e).1), ho3, (CG.out.below hy.1.1 CG.out.lt).turn (Turn.of_grown hg3) (fun e => (OX.out.sub _ e).2 rfl)⟩, kept_and (kept_belowB BW.out) (kept_and (kept_ownX _ _ _ _) (kept_cs _ _ _)), fun h => absurd (by simp) h, ?_⟩)
  try simp only [List.getElem_toArray, List.getElem_cons_succ, List.getElem_cons_zero, Act.put, List.setIfInBounds_toArray, List.set_cons_succ, List.set_cons_zero]
  refine wpAnyV_only (i := 13) rfl (by kernel_rfl) rfl (fun y hy => wp_store1 22 _ _ rfl G 0 rfl v3 rfl hy.2.1.one (by kernel_rfl) 22 _ hy.2.2 (by simp) fun y' hk ht => ⟨(fun y => Below B w y ∧ OutX chgN B G y (ls ++ [(x1, x2, false)])), ⟨hy.1.trans (ht.below (Nat.le_trans BW.out hy.1.size) fun q e => e ▸ BG.out), ⟨v3, hk, hy.2.1.turn ht fun q hq e => hq.2 e⟩⟩, kept_and (kept_belowB BW.out) (kept_outX _ _ _ _), fun h => absurd (by simp) h, ?_⟩)
  try simp only [List.getElem_toArray, List.getElem_cons_succ, List.getElem_cons_zero, Act.put, List.setIfInBounds_toArray, List.set_cons_succ, List.set_cons_zero]
  refine wpAnyV_done (by kernel_rfl) (fun u hu => ?_) _
  have HU := Lib.hid hu
  clear hu
  go_wp2_with fail
  go_end0
  exact ⟨⟨_, rfl⟩, HU.out.2, HU.out.1⟩
set_option maxHeartbeats 4000000 in
theorem betw1_both (x1 x2 : List UInt8) (b off : Nat) (A1 : Option Addr) (c1 : Nat) (F : Nat → Prop) (y1 y2 : List UInt8) (b2 off2 : Nat) (A3 : Option Addr) (c3 : Nat) (F3 : Nat → Prop) (B G : Nat) (w : World) (ls : List Ch) (hat : At w b off (rwCells (x1, x2) A1 c1)) (hbv : BsV w F (.slice A1 x2.length c1) x2) (hx : x2.length ≤ 8192) (hat3 : At w b2 off2 (rwCells (y1, y2) A3 c3)) (hbv3 : BsV w F3 (.slice A3 y2.length c3) y2) (hl : ls.length ≤ 100000) (ho : OutX chgN B G w ls) (hB : B ≤ w.heap.size) (hG : B ≤ G) :
    Calls Try.prog 52 #[.pointer (some ⟨b2, off2, none⟩), .pointer (some ⟨b, off, none⟩), .pointer (some ⟨G, 0, none⟩)] w fun e w' => (∃ v, e = .returned v) ∧ OutX chgN B G w' (ls ++ putB (y1, y2) (x1, x2)) ∧ Below B w w' := by
  have hmix : Try.prog.follows .mixedOrders = true := by kernel_rfl
  obtain ⟨v0, hcg, hox⟩ := ho
  have QG := Lib.hid (hcg.cell 0 rfl)
  have CG := Lib.hid hcg
  have OX := Lib.hid hox
  have BW := Lib.hid hB
  have BG := Lib.hid hG
  have GL := Lib.hid hcg.lt
  have OL := Lib.hid (fun q e => (hox.lt q e).2)
  clear hcg hox hB hG
  have Q3 := Lib.hid (hat3 1 _ rfl)
  have heq := fun u (hu : Below w.heap.size w u) => Equal_any y2 x2 A3 A1 c3 c1 u ((hbv3.at).2.1.below hu) ((hbv.at).2.1.below hu)
  have HEQ := Lib.hid heq
  clear heq hat3 hbv3
  have Q1 := Lib.hid (hat 0 _ rfl)
  have Q2 := Lib.hid (hat 1 _ rfl)
  rw [Nat.add_zero] at Q1
  obtain ⟨hbr, hbn⟩ : Rd w A1 x2 ∧ (A1 = none → x2 = [] ∧ c1 = 0) := by
    obtain ⟨A', c', e, h1, h2, h3⟩ := hbv
    cases e
    exact ⟨h1.rd, h2⟩
  have hcl := fun u (hu : Below w.heap.size w u) => Clone_ty x2 A1 c1 u (by omega) (hbr.below hu) hbn
  have HCL := Lib.hid hcl
  clear hcl hbr hbn hbv
  by_cases hv : y2 = x2
  · have e1 : (y2 == x2) = true := by simpa using hv
    have e2 : putB (y1, y2) (x1, x2) = [] := if_pos hv
    rw [e2, List.append_nil]
    clear hv e2
    go_enter Try.func52, Try.ntmps52
    go_wp2_with fail
    refine wp_region_V [] (Below w.heap.size w) hmix ((Below.refl _ _).drew) ?_
    change wpAnyV _ _ _ _ _ _ _ _ _
    refine wpAnyV_take (i := 0) (v := .pointer (some ⟨b2, off2, none⟩)) 8 (kept_below w) rfl (by kernel_rfl) (by kernel_rfl) (fun _ _ _ h => h) (fun _ h => h) (DoesV.reads (by rfl) fun w9 hS => by go_simp) ?_
    try simp only [List.getElem_toArray, List.getElem_cons_succ, List.getElem_cons_zero, Act.put, List.setIfInBounds_toArray, List.set_cons_succ, List.set_cons_zero]
    refine wpAnyV_take (i := 1) (v := .bool false) 8 (kept_below w) rfl (by kernel_rfl) (by kernel_rfl) (fun _ _ _ h => h) (fun _ h => h) (DoesV.reads (by rfl) fun w9 hS => by go_simp) ?_
    try simp only [List.getElem_toArray, List.getElem_cons_succ, List.getElem_cons_zero, Act.put, List.setIfInBounds_toArray, List.set_cons_succ, List.set_cons_zero]
    refine wpAnyV_take (i := 2) (v := .bool false) 8 (kept_below w) rfl (by kernel_rfl) (by kernel_rfl) (fun _ _ _ h => h) (fun _ h => h) (DoesV.reads (by rfl) fun w9 hS => by go_simp) ?_
    try simp only [List.getElem_toArray, List.getElem_cons_succ, List.getElem_cons_zero, Act.put, List.setIfInBounds_toArray, List.set_cons_succ, List.set_cons_zero]
    refine wpAnyV_take (i := 3) (v := .pointer (some ⟨b2, off2, none⟩)) 8 (kept_below w) rfl (by kernel_rfl) (by kernel_rfl) (fun _ _ _ h => h) (fun _ h => h) (DoesV.reads (by rfl) fun w9 hS => by go_simp) ?_
    try simp only [List.getElem_toArray, List.getElem_cons_succ, List.getElem_cons_zero, Act.put, List.setIfInBounds_toArray, List.set_cons_succ, List.set_cons_zero]
    refine wpAnyV_take (i := 4) (v := .pointer (some ⟨b2, off2, none⟩)) 8 (kept_below w) rfl (by kernel_rfl) (by kernel_rfl) (fun _ _ _ h => h) (fun _ h => h) (DoesV.reads (by rfl) fun w9 hS => by go_simp) ?_
    try simp only [List.getElem_toArray, List.getElem_cons_succ, List.getElem_cons_zero, Act.put, List.setIfInBounds_toArray, List.set_cons_succ, List.set_cons_zero]
    refine wpAnyV_take (i := 5) (v := .pointer (some ⟨b2, off2 + 1, none⟩)) 8 (kept_below w) rfl (by kernel_rfl) (by kernel_rfl) (fun _ _ _ h => h) (fun _ h => h) (DoesV.reads (by rfl) fun w9 hS => by go_simp) ?_
    try simp only [List.getElem_toArray, List.getElem_cons_succ, List.getElem_cons_zero, Act.put, List.setIfInBounds_toArray, List.set_cons_succ, List.set_cons_zero]
    refine wpAnyV_take (i := 6) (v := .slice A3 y2.length c3) 8 (kept_below w) rfl (by kernel_rfl) (by kernel_rfl) (fun _ _ _ h => h) (fun _ h => h) (DoesV.reads (by rfl) fun w9 hS => by have q9 := (hS.cell (lt_of_cell Q3.out)).trans Q3.out; go_simp) ?_
    try simp only [List.getElem_toArray, List.getElem_cons_succ, List.getElem_cons_zero, Act.put, List.setIfInBounds_toArray, List.set_cons_succ, List.set_cons_zero]
    refine wpAnyV_take (i := 7) (v := .pointer (some ⟨b, off, none⟩)) 8 (kept_below w) rfl (by kernel_rfl) (by kernel_rfl) (fun _ _ _ h => h) (fun _ h => h) (DoesV.reads (by rfl) fun w9 hS => by go_simp) ?_
    try simp only [List.getElem_toArray, List.getElem_cons_succ, List.getElem_cons_zero, Act.put, List.setIfInBounds_toArray, List.set_cons_succ, List.set_cons_zero]
    refine wpAnyV_take (i := 8) (v := .pointer (some ⟨b, off, none⟩)) 8 (kept_below w) rfl (by kernel_rfl) (by kernel_rfl) (fun _ _ _ h => h) (fun _ h => h) (DoesV.reads (by rfl) fun w9 hS => by go_simp) ?_
    try simp only [List.getElem_toArray, List.getElem_cons_succ, List.getElem_cons_zero, Act.put, List.setIfInBounds_toArray, List.set_cons_succ, List.set_cons_zero]
    refine wpAnyV_take (i := 9) (v := .pointer (some ⟨b, off + 1, none⟩)) 8 (kept_below w) rfl (by kernel_rfl) (by kernel_rfl) (fun _ _ _ h => h) (fun _ h => h) (DoesV.reads (by rfl) fun w9 hS => by go_simp) ?_
    try simp only [List.getElem_toArray, List.getElem_cons_succ, List.getElem_cons_zero, Act.put, List.setIfInBounds_toArray, List.set_cons_succ, List.set_cons_zero]
    refine wpAnyV_take (i := 10) (v := .slice A1 x2.length c1) 8 (kept_below w) rfl (by kernel_rfl) (by kernel_rfl) (fun _ _ _ h => h) (fun _ h => h) (DoesV.reads (by rfl) fun w9 hS => by have q9 := (hS.cell (lt_of_cell Q2.out)).trans Q2.out; go_simp) ?_
    try simp only [List.getElem_toArray, List.getElem_cons_succ, List.getElem_cons_zero, Act.put, List.setIfInBounds_toArray, List.set_cons_succ, List.set_cons_zero]
    refine wpAnyV_take (i := 11) (v := .bool (y2 == x2)) 8 (kept_below w) rfl (by kernel_rfl) (by kernel_rfl) (fun _ _ _ h => h) (fun _ h => h) (DoesV.calls 53 #[.slice A3 y2.length c3, .slice A1 x2.length c1] (by rfl) (fun w9 hS => by go_simp) (fun w9 hS => (HEQ.out w9 hS).mono fun e w' h => ⟨h.1, h.2 ▸ Below.refl _ _⟩)) ?_
    try simp only [List.getElem_toArray, List.getElem_cons_succ, List.getElem_cons_zero, Act.put, List.setIfInBounds_toArray, List.set_cons_succ, List.set_cons_zero]
    refine wpAnyV_take (i := 12) (v := .bool (!(y2 == x2))) 8 (kept_below w) rfl (by kernel_rfl) (by kernel_rfl) (fun _ _ _ h => h) (fun _ h => h) (DoesV.reads (by rfl) fun w9 hS => by go_simp) ?_
    try simp only [List.getElem_toArray, List.getElem_cons_succ, List.getElem_cons_zero, Act.put, List.setIfInBounds_toArray, List.set_cons_succ, List.set_cons_zero]
    refine wpAnyV_take (i := 13) (v := .bool (!(y2 == x2))) 8 (kept_below w) rfl (by kernel_rfl) (by kernel_rfl) (fun _ _ _ h => h) (fun _ h => h) (DoesV.reads (by rfl) fun w9 hS => by go_simp) ?_
    try simp only [List.getElem_toArray, List.getElem_cons_succ, List.getElem_cons_zero, Act.put, List.setIfInBounds_toArray, List.set_cons_succ, List.set_cons_zero]
    refine wpAnyV_take (i := 14) (v := .bool (!(y2 == x2))) 8 (kept_below w) rfl (by kernel_rfl) (by kernel_rfl) (fun _ _ _ h => h) (fun _ h => h) (DoesV.reads (by rfl) fun w9 hS => by go_simp) ?_
    try simp only [List.getElem_toArray, List.getElem_cons_succ, List.getElem_cons_zero, Act.put, List.setIfInBounds_toArray, List.set_cons_succ, List.set_cons_zero]
    refine wpAnyV_done (by kernel_rfl) (fun u0 hu => ?_) _
    have HU0 := Lib.hid hu
    clear hu
    rw [e1]
    go_wp2_with fail
    go_end0
    exact ⟨⟨_, rfl⟩, ⟨v0, CG.out.below HU0.out CG.out.lt, OX.out.below HU0.out⟩, HU0.out.mono BW.out⟩
  · have e1 : (y2 == x2) = false := by simpa using hv
    have e2 : putB (y1, y2) (x1, x2) = [(x1, x2, false)] := if_neg hv
    rw [e2]
    clear hv e2
    go_enter Try.func52, Try.ntmps52
    go_wp2_with fail
    refine wp_region_V [] (Below w.heap.size w) hmix ((Below.refl _ _).drew) ?_
    change wpAnyV _ _ _ _ _ _ _ _ _
    refine wpAnyV_take (i := 0) (v := .pointer (some ⟨b2, off2, none⟩)) 8 (kept_below w) rfl (by kernel_rfl) (by kernel_rfl) (fun _ _ _ h => h) (fun _ h => h) (DoesV.reads (by rfl) fun w9 hS => by go_simp) ?_
    try simp only [List.getElem_toArray, List.getElem_cons_succ, List.getElem_cons_zero, Act.put, List.setIfInBounds_toArray, List.set_cons_succ, List.set_cons_zero]
    refine wpAnyV_take (i := 1) (v := .bool false) 8 (kept_below w) rfl (by kernel_rfl) (by kernel_rfl) (fun _ _ _ h => h) (fun _ h => h) (DoesV.reads (by rfl) fun w9 hS => by go_simp) ?_
    try simp only [List.getElem_toArray, List.getElem_cons_succ, List.getElem_cons_zero, Act.put, List.setIfInBounds_toArray, List.set_cons_succ, List.set_cons_zero]
    refine wpAnyV_take (i := 2) (v := .bool false) 8 (kept_below w) rfl (by kernel_rfl) (by kernel_rfl) (fun _ _ _ h => h) (fun _ h => h) (DoesV.reads (by rfl) fun w9 hS => by go_simp) ?_
    try simp only [List.getElem_toArray, List.getElem_cons_succ, List.getElem_cons_zero, Act.put, List.setIfInBounds_toArray, List.set_cons_succ, List.set_cons_zero]
    refine wpAnyV_take (i := 3) (v := .pointer (some ⟨b2, off2, none⟩)) 8 (kept_below w) rfl (by kernel_rfl) (by kernel_rfl) (fun _ _ _ h => h) (fun _ h => h) (DoesV.reads (by rfl) fun w9 hS => by go_simp) ?_
    try simp only [List.getElem_toArray, List.getElem_cons_succ, List.getElem_cons_zero, Act.put, List.setIfInBounds_toArray, List.set_cons_succ, List.set_cons_zero]
    refine wpAnyV_take (i := 4) (v := .pointer (some ⟨b2, off2, none⟩)) 8 (kept_below w) rfl (by kernel_rfl) (by kernel_rfl) (fun _ _ _ h => h) (fun _ h => h) (DoesV.reads (by rfl) fun w9 hS => by go_simp) ?_
    try simp only [List.getElem_toArray, List.getElem_cons_succ, List.getElem_cons_zero, Act.put, List.setIfInBounds_toArray, List.set_cons_succ, List.set_cons_zero]
    refine wpAnyV_take (i := 5) (v := .pointer (some ⟨b2, off2 + 1, none⟩)) 8 (kept_below w) rfl (by kernel_rfl) (by kernel_rfl) (fun _ _ _ h => h) (fun _ h => h) (DoesV.reads (by rfl) fun w9 hS => by go_simp) ?_
    try simp only [List.getElem_toArray, List.getElem_cons_succ, List.getElem_cons_zero, Act.put, List.setIfInBounds_toArray, List.set_cons_succ, List.set_cons_zero]
    refine wpAnyV_take (i := 6) (v := .slice A3 y2.length c3) 8 (kept_below w) rfl (by kernel_rfl) (by kernel_rfl) (fun _ _ _ h => h) (fun _ h => h) (DoesV.reads (by rfl) fun w9 hS => by have q9 := (hS.cell (lt_of_cell Q3.out)).trans Q3.out; go_simp) ?_
    try simp only [List.getElem_toArray, List.getElem_cons_succ, List.getElem_cons_zero, Act.put, List.setIfInBounds_toArray, List.set_cons_succ, List.set_cons_zero]
    refine wpAnyV_take (i := 7) (v := .pointer (some ⟨b, off, none⟩)) 8 (kept_below w) rfl (by kernel_rfl) (by kernel_rfl) (fun _ _ _ h => h) (fun _ h => h) (DoesV.reads (by rfl) fun w9 hS => by go_simp) ?_
    try simp only [List.getElem_toArray, List.getElem_cons_succ, List.getElem_cons_zero, Act.put, List.setIfInBounds_toArray, List.set_cons_succ, List.set_cons_zero]
    refine wpAnyV_take (i := 8) (v := .pointer (some ⟨b, off, none⟩)) 8 (kept_below w) rfl (by kernel_rfl) (by kernel_rfl) (fun _ _ _ h => h) (fun _ h => h) (DoesV.reads (by rfl) fun w9 hS => by go_simp) ?_
    try simp only [List.getElem_toArray, List.getElem_cons_succ, List.getElem_cons_zero, Act.put, List.setIfInBounds_toArray, List.set_cons_succ, List.set_cons_zero]
    refine wpAnyV_take (i := 9) (v := .pointer (some ⟨b, off + 1, none⟩)) 8 (kept_below w) rfl (by kernel_rfl) (by kernel_rfl) (fun _ _ _ h => h) (fun _ h => h) (DoesV.reads (by rfl) fun w9 hS => by go_simp) ?_
    try simp only [List.getElem_toArray, List.getElem_cons_succ, List.getElem_cons_zero, Act.put, List.setIfInBounds_toArray, List.set_cons_succ, List.set_cons_zero]
    refine wpAnyV_take (i := 10) (v := .slice A1 x2.length c1) 8 (kept_below w) rfl (by kernel_rfl) (by kernel_rfl) (fun _ _ _ h => h) (fun _ h => h) (DoesV.reads (by rfl) fun w9 hS => by have q9 := (hS.cell (lt_of_cell Q2.out)).trans Q2.out; go_simp) ?_
    try simp only [List.getElem_toArray, List.getElem_cons_succ, List.getElem_cons_zero, Act.put, List.setIfInBounds_toArray, List.set_cons_succ, List.set_cons_zero]
    refine wpAnyV_take (i := 11) (v := .bool (y2 == x2)) 8 (kept_below w) rfl (by kernel_rfl) (by kernel_rfl) (fun _ _ _ h => h) (fun _ h => h) (DoesV.calls 53 #[.slice A3 y2.length c3, .slice A1 x2.length c1] (by rfl) (fun w9 hS => by go_simp) (fun w9 hS => (HEQ.out w9 hS).mono fun e w' h => ⟨h.1, h.2 ▸ Below.refl _ _⟩)) ?_
    try simp only [List.getElem_toArray, List.getElem_cons_succ, List.getElem_cons_zero, Act.put, List.setIfInBounds_toArray, List.set_cons_succ, List.set_cons_zero]
    refine wpAnyV_take (i := 12) (v := .bool (!(y2 == x2))) 8 (kept_below w) rfl (by kernel_rfl) (by kernel_rfl) (fun _ _ _ h => h) (fun _ h => h) (DoesV.reads (by rfl) fun w9 hS => by go_simp) ?_
    try simp only [List.getElem_toArray, List.getElem_cons_succ, List.getElem_cons_zero, Act.put, List.setIfInBounds_toArray, List.set_cons_succ, List.set_cons_zero]
    refine wpAnyV_take (i := 13) (v := .bool (!(y2 == x2))) 8 (kept_below w) rfl (by kernel_rfl) (by kernel_rfl) (fun _ _ _ h => h) (fun _ h => h) (DoesV.reads (by rfl) fun w9 hS => by go_simp) ?_
    try simp only [List.getElem_toArray, List.getElem_cons_succ, List.getElem_cons_zero, Act.put, List.setIfInBounds_toArray, List.set_cons_succ, List.set_cons_zero]
    refine wpAnyV_take (i := 14) (v := .bool (!(y2 == x2))) 8 (kept_below w) rfl (by kernel_rfl) (by kernel_rfl) (fun _ _ _ h => h) (fun _ h => h) (DoesV.reads (by rfl) fun w9 hS => by go_simp) ?_
    try simp only [List.getElem_toArray, List.getElem_cons_succ, List.getElem_cons_zero, Act.put, List.setIfInBounds_toArray, List.set_cons_succ, List.set_cons_zero]
    refine wpAnyV_done (by kernel_rfl) (fun u0 hu => ?_) _
    have HU0 := Lib.hid hu
    clear hu
    rw [e1]
    go_wp2_with fail
    refine wp_region_V [12, 13] (Below w.heap.size w) hmix (HU0.out.drew) ?_
    change wpAnyV _ _ _ _ _ _ _ _ _
    refine wpAnyV_take (i := 0) (v := v0) 8 (kept_below w) rfl (by kernel_rfl) (by kernel_rfl) (fun _ _ _ h => h) (fun _ h => h) (DoesV.reads (by rfl) fun w9 hS => by have q9 := (hS.cell (lt_of_cell QG.out)).trans QG.out; go_simp) ?_
    try simp only [List.getElem_toArray, List.getElem_cons_succ, List.getElem_cons_zero, Act.put, List.setIfInBounds_toArray, List.set_cons_succ, List.set_cons_zero]
    refine wpAnyV_take (i := 1) (v := .pointer (some ⟨b, off, none⟩)) 8 (kept_below w) rfl (by kernel_rfl) (by kernel_rfl) (fun _ _ _ h => h) (fun _ h => h) (DoesV.reads (by rfl) fun w9 hS => by go_simp) ?_
    try simp only [List.getElem_toArray, List.getElem_cons_succ, List.getElem_cons_zero, Act.put, List.setIfInBounds_toArray, List.set_cons_succ, List.set_cons_zero]
    refine wpAnyV_take (i := 2) (v := .pointer (some ⟨b, off, none⟩)) 8 (kept_below w) rfl (by kernel_rfl) (by kernel_rfl) (fun _ _ _ h => h) (fun _ h => h) (DoesV.reads (by rfl) fun w9 hS => by go_simp) ?_
    try simp only [List.getElem_toArray, List.getElem_cons_succ, List.getElem_cons_zero, Act.put, List.setIfInBounds_toArray, List.set_cons_succ, List.set_cons_zero]
    refine wpAnyV_take (i := 3) (v := .pointer (some ⟨b, off, none⟩)) 8 (kept_below w) rfl (by kernel_rfl) (by kernel_rfl) (fun _ _ _ h => h) (fun _ h => h) (DoesV.reads (by rfl) fun w9 hS => by go_simp) ?_
    try simp only [List.getElem_toArray, List.getElem_cons_succ, List.getElem_cons_zero, Act.put, List.setIfInBounds_toArray, List.set_cons_succ, List.set_cons_zero]
    refine wpAnyV_take (i := 4) (v := .string ⟨x1.toArray⟩) 8 (kept_below w) rfl (by kernel_rfl) (by kernel_rfl) (fun _ _ _ h => h) (fun _ h => h) (DoesV.reads (by rfl) fun w9 hS => by have q9 := (hS.cell (lt_of_cell Q1.out)).trans Q1.out; go_simp) ?_
    try simp only [List.getElem_toArray, List.getElem_cons_succ, List.getElem_cons_zero, Act.put, List.setIfInBounds_toArray, List.set_cons_succ, List.set_cons_zero]
    refine wpAnyV_take (i := 5) (v := .pointer (some ⟨b, off, none⟩)) 8 (kept_below w) rfl (by kernel_rfl) (by kernel_rfl) (fun _ _ _ h => h) (fun _ h => h) (DoesV.reads (by rfl) fun w9 hS => by go_simp) ?_
    try simp only [List.getElem_toArray, List.getElem_cons_succ, List.getElem_cons_zero, Act.put, List.setIfInBounds_toArray, List.set_cons_succ, List.set_cons_zero]
    refine wpAnyV_take (i := 6) (v := .pointer (some ⟨b, off, none⟩)) 8 (kept_below w) rfl (by kernel_rfl) (by kernel_rfl) (fun _ _ _ h => h) (fun _ h => h) (DoesV.reads (by rfl) fun w9 hS => by go_simp) ?_
    try simp only [List.getElem_toArray, List.getElem_cons_succ, List.getElem_cons_zero, Act.put, List.setIfInBounds_toArray, List.set_cons_succ, List.set_cons_zero]
    refine wpAnyV_take (i := 7) (v := .pointer (some ⟨b, off + 1, none⟩)) 8 (kept_below w) rfl (by kernel_rfl) (by kernel_rfl) (fun _ _ _ h => h) (fun _ h => h) (DoesV.reads (by rfl) fun w9 hS => by go_simp) ?_
    try simp only [List.getElem_toArray, List.getElem_cons_succ, List.getElem_cons_zero, Act.put, List.setIfInBounds_toArray, List.set_cons_succ, List.set_cons_zero]
    refine wpAnyV_take (i := 8) (v := .slice A1 x2.length c1) 8 (kept_below w) rfl (by kernel_rfl) (by kernel_rfl) (fun _ _ _ h => h) (fun _ h => h) (DoesV.reads (by rfl) fun w9 hS => by have q9 := (hS.cell (lt_of_cell Q2.out)).trans Q2.out; go_simp) ?_
    try simp only [List.getElem_toArray, List.getElem_cons_succ, List.getElem_cons_zero, Act.put, List.setIfInBounds_toArray, List.set_cons_succ, List.set_cons_zero]
    refine wpAnyV_only (i := 9) rfl (by kernel_rfl) rfl (fun u hS => wp_of_call (by go_simp) (HCL.out u hS) fun e u' ⟨v1, he, hv, hty, hk, hb⟩ => ⟨v1, he, (fun y => Below w.heap.size w y ∧ NewV y (w.heap.size ≤ ·) v1 x2), ⟨below_chain hS hb, (newV_of hv hty hk).mono fun q _ h => Nat.le_trans hS.size h⟩, kept_and (kept_below w) (kept_newV _ _ _), fun _ y h => h.1, ?_⟩)
    try simp only [List.getElem_toArray, List.getElem_cons_succ, List.getElem_cons_zero, Act.put, List.setIfInBounds_toArray, List.set_cons_succ, List.set_cons_zero]
    obtain ⟨A2, c2, hv2, -⟩ := id hv
    subst hv2
    refine wpAnyV_pure (i := 10) (v := .agg #[.string ⟨x1.toArray⟩, .slice A2 x2.length c2, .bool false]) (kept_and (kept_below w) (kept_newV _ _ _)) rfl (by kernel_rfl) (by kernel_rfl) (fun _ _ _ h => h) (DoesV.reads (by rfl) fun w9 hS => by go_simp) ?_
    try simp only [List.getElem_toArray, List.getElem_cons_succ, List.getElem_cons_zero, Act.put, List.setIfInBounds_toArray, List.set_cons_succ, List.set_cons_zero]
    refine wpAnyV_only (i := 11) rfl (by kernel_rfl) rfl (fun y hy => wp_buildC _ rfl (x1, x2, false) A2 c2 _ rfl rfl fun g8 y' hk hb hg => ⟨(fun y => (Below w.heap.size w y ∧ NewV y (w.heap.size ≤ ·) (.slice A2 x2.length c2) x2) ∧ Cs y g8 52 (chCells (x1, x2, false) A2 c2).toArray), ⟨⟨below_chain hy.1 hb, hy.2.below hb⟩, hk⟩, kept_and (kept_and (kept_below w) (kept_newV _ _ _)) (kept_cs _ _ _), fun _ y h => h.1, ?_⟩)
    try simp only [List.getElem_toArray, List.getElem_cons_succ, List.getElem_cons_zero, Act.put, List.setIfInBounds_toArray, List.set_cons_succ, List.set_cons_zero]
    refine wpAnyV_only (i := 12) rfl (by kernel_rfl) rfl (fun y hy => wp_append_x1 (E := chgN) _ _ rfl B (fun k => B ≤ k ∧ k ≠ G) v0 ls rfl (OX.out.below hy.1.1) g8 1 rfl (chCells (x1, x2, false) A2 c2) (x1, x2, false) ⟨_, rfl, hy.1.2.mono fun q _ hq => ⟨⟨Nat.le_trans BW.out hq, fun e => absurd (e ▸ hq) (Nat.not_le.2 GL.out)⟩, fun e => absurd hq (Nat.not_le.2 (OL.out q e))⟩⟩ 52 hy.2 (by omega) (Nat.le_trans BW.out hy.1.1.size) ⟨Nat.le_trans BW.out hy.1.1.size, fun e => absurd GL.out (Nat.not_lt.2 (e ▸ hy.1.1.size))⟩ fun v3 y' ho3 hg3 => ⟨(fun y => Below B w y ∧ OwnX chgN y B (fun k => B ≤ k ∧ k ≠ G) v3 (ls ++ [(x1, x2, false)]) ∧ Cs y G 22 #[v0]), ⟨(hy.1.1.mono BW.out).grown hg3 (Nat.le_trans BW.out hy.1.1.size) (fun q e => (OX.out.lt q e).1), ho3, (CG.out.below hy.1.1 CG.out.lt).turn (Turn.of_grown hg3) (fun e => (OX.out.sub _ e).2 rfl)⟩, kept_and (kept_belowB BW.out) (kept_and (kept_ownX _ _ _ _) (kept_cs _ _ _)), fun h => absurd (by simp) h, ?_⟩)
    try simp only [List.getElem_toArray, List.getElem_cons_succ, List.getElem_cons_zero, Act.put, List.setIfInBounds_toArray, List.set_cons_succ, List.set_cons_zero]
    refine wpAnyV_only (i := 13) rfl (by kernel_rfl) rfl (fun y hy => wp_store1 22 _ _ rfl G 0 rfl v3 rfl hy.2.1.one (by kernel_rfl) 22 _ hy.2.2 (by simp) fun y' hk ht => ⟨(fun y => Below B w y ∧ OutX chgN B G y (ls ++ [(x1, x2, false)])), ⟨hy.1.trans (ht.below (Nat.le_trans BW.out hy.1.size) fun q e => e ▸ BG.out), ⟨v3, hk, hy.2.1.turn ht fun q hq e => hq.2 e⟩⟩, kept_and (kept_belowB BW.out) (kept_outX _ _ _ _), fun h => absurd (by simp) h, ?_⟩)
    try simp only [List.getElem_toArray, List.getElem_cons_succ, List.getElem_cons_zero, Act.put, List.setIfInBounds_toArray, List.set_cons_succ, List.set_cons_zero]
    refine wpAnyV_done (by kernel_rfl) (fun u hu => ?_) _
    have HU := Lib.hid hu
    clear hu
    go_wp2_with fail
    go_end0
    exact ⟨⟨_, rfl⟩, HU.out.2, HU.out.1⟩

end Go.Proofs.Ytiemphfikfigdaa
