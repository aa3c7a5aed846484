/- SWEPT -/
import Derived.Test.YtfgbpinfplllgaaGreatDoorZBatRK
import Derived.Test.YtfgbpinfplllgaaGreatDoorZBchAK
import Derived.Test.YtfgbpinfplllgaaGreatDoorZBchCK
set_option linter.unusedVariables false
set_option linter.unusedSimpArgs false
open List (getElem_toArray getElem_cons_succ getElem_cons_zero setIfInBounds_toArray set_cons_succ set_cons_zero)
open Go.Lib (hid)
namespace Go.Proofs.YtfgbpinfplllgaaGreatDoor
open Go.RowKit Go.Shelf
set_option maxRecDepth 100000
def cmpK (a b : Key) : Int := if lessK a b then -1 else if lessK b a then 1 else 0
set_option maxHeartbeats 1000000 in
theorem CompareString_any (a b : Key) (w : World) :
    Calls Tryz.prog 177 #[.string ⟨a.toArray⟩, .string ⟨b.toArray⟩] w fun e w' => e = .returned (.int .i64 (cmpK a b)) ∧ w = w' := by
  have hc : Lib.compareBytes (⟨a.toArray⟩ : ByteArray).data.toList (⟨b.toArray⟩ : ByteArray).data.toList = cmpK a b := compare_is a b
  go_enter Tryz.func177, Tryz.ntmps177
  go_wp2
  rw [run_callFunc_extern Tryz.func196 (by kernel_rfl) (by kernel_rfl) (by kernel_rfl) (e := Extern.BytealgCompare.compare) (by kernel_rfl), Lib.run_compareString, hc]
  simp only [Result.andThen]
  rw [Oper.upon_value]
  go_wp2
  go_ret
  exact ⟨rfl, rfl⟩
theorem Compare_any (a b : Key) (w : World) :
    Calls Tryz.prog 153 #[.string ⟨a.toArray⟩, .string ⟨b.toArray⟩] w fun e w' => e = .returned (.int .i64 (cmpK a b)) ∧ w = w' := by
  go_enter Tryz.func153, Tryz.ntmps153
  go_wp2_with fail
  refine (CompareString_any a b w).mono ?_
  rintro e w1 ⟨rfl, rfl⟩
  go_wp2_with fail
  go_ret
  exact ⟨rfl, rfl⟩
theorem Equal_any (p q : List UInt8) (A B : Option Addr) (c d : Nat) (w : World) (hp : Rd w A p) (hq : Rd w B q) :
    Calls Tryz.prog 188 #[.slice A p.length c, .slice B q.length d] w fun e w' => e = .returned (.bool (p == q)) ∧ w = w' := by
  have h1 := conv_rd hp c
  have h2 := conv_rd hq d
  have h3 := sv_eq p q
  clear hp hq
  go_enter Tryz.func188, Tryz.ntmps188
  go_wp2_with fail
  go_ret
  exact ⟨by first | rfl | rw [h3], rfl⟩
theorem DoesV.loadS {P : Program} {ops : Array Oper} {T : World → Prop} {o : Oper} {a : Act} (hw : Region.wanted o (yielded ops a.tmps) = true) (ty : TypeId) (x : Operand) (ho : o.op = .load ty x) (b f : Nat) (hx : a.eval x = .pointer (some ⟨b, f, none⟩)) (cs : List Value) (hc : ∀ w, T w → At w b f cs) (d : TypeDesc) (hu : P.underlying ty = some d)
    (hd : (match d with | .struct _ | .array _ _ => true | _ => false) = true) (hi : (P.info? ty).map (·.size) = some cs.length) : DoesV P ops T o (.agg cs.toArray) a :=
  DoesV.reads hw fun w hT => by
    unfold execOp
    simp only [ho, hx, Instr.loadAt, Instr.sureAddr, Sem.run_bind, Sem.run_pure, Result.andThen_ok, run_loadVar_at w ty b f cs (hc w hT) d hu hd hi]
theorem slR_1 (b o len cap : Nat) (hk : 1 ≤ len) (hl : len ≤ cap) : ∃ o', (∀ W : World, (Instr.slice 64 (.slice (some ⟨b, o, none⟩) len cap) (some (.int .i64 1)) none none).run Tryz.prog W = .ok (.slice (some ⟨b, o', none⟩) (len - 1) (cap - 1)) W) ∧ (1 < cap → o' = o + 2) := by
  have ht' : Tryz.prog.underlying 64 = some (.slice (Tryz.prog.elem 64)) := by simp [Program.elem, Tryz.underlying64]
  have he : Tryz.prog.elem 64 = 78 := by simp [Program.elem, Tryz.underlying64]
  by_cases hc : cap = 1
  · refine ⟨o, fun W => ?_, fun h => by omega⟩
    rw [run_slice_l W 64 _ _ _ ht' .i64 1 (by omega) (by omega), he, Tryz.sizeOf78]
    show Result.ok (sliced (some ⟨b, o, none⟩) 1 len cap 2) W = _
    simp [sliced, hc]
  · refine ⟨o + 2, fun W => ?_, fun _ => rfl⟩
    rw [run_slice_l W 64 _ _ _ ht' .i64 1 (by omega) (by omega), he, Tryz.sizeOf78]
    show Result.ok (sliced (some ⟨b, o, none⟩) 1 len cap 2) W = _
    simp [sliced, Addr.add, hc]
theorem slC_1 (b o len cap : Nat) (hk : 1 ≤ len) (hl : len ≤ cap) : ∃ o', (∀ W : World, (Instr.slice 43 (.slice (some ⟨b, o, none⟩) len cap) (some (.int .i64 1)) none none).run Tryz.prog W = .ok (.slice (some ⟨b, o', none⟩) (len - 1) (cap - 1)) W) ∧ (1 < cap → o' = o + 3) := by
  have ht' : Tryz.prog.underlying 43 = some (.slice (Tryz.prog.elem 43)) := by simp [Program.elem, Tryz.underlying43]
  have he : Tryz.prog.elem 43 = 73 := by simp [Program.elem, Tryz.underlying43]
  by_cases hc : cap = 1
  · refine ⟨o, fun W => ?_, fun h => by omega⟩
    rw [run_slice_l W 43 _ _ _ ht' .i64 1 (by omega) (by omega), he, Tryz.sizeOf73]
    show Result.ok (sliced (some ⟨b, o, none⟩) 1 len cap 3) W = _
    simp [sliced, hc]
  · refine ⟨o + 3, fun W => ?_, fun _ => rfl⟩
    rw [run_slice_l W 43 _ _ _ ht' .i64 1 (by omega) (by omega), he, Tryz.sizeOf73]
    show Result.ok (sliced (some ⟨b, o, none⟩) 1 len cap 3) W = _
    simp [sliced, Addr.add, hc]
theorem rdx_tail {α : Type} {E : Elem α} {w : World} {F : Nat → Prop} {b o o' cap : Nat} {x : α} {ls : List α} (h : RdX E w F (some ⟨b, o, none⟩) (x :: ls)) (hc : (x :: ls).length ≤ cap) (ho : 1 < cap → o' = o + E.n) : RdX E w F (some ⟨b, o', none⟩) ls := by
  by_cases hl : ls = []
  · exact .inl hl
  · have : 0 < ls.length := List.length_pos_iff.2 hl
    rw [List.length_cons] at hc
    rw [ho (by omega)]
    have := h.drop 1
    rwa [Nat.one_mul] at this
end Go.Proofs.YtfgbpinfplllgaaGreatDoor
namespace Go.Proofs.YtfgbpinfplllgaaGreatDoor
open Go.RowKit Go.Shelf
set_option maxRecDepth 100000
def OutX {α : Type} (E : Elem α) (B G : Nat) (w : World) (ls : List α) : Prop := ∃ v, Cs w G E.sty #[v] ∧ OwnX E w B (fun k => B ≤ k ∧ k ≠ G) v ls
theorem OutX.below {α : Type} {E : Elem α} {B G : Nat} {w w' : World} {ls : List α} (h : OutX E B G w ls) (hb : Below w.heap.size w w') : OutX E B G w' ls := by
  obtain ⟨v, h1, h2⟩ := h
  exact ⟨v, h1.below hb h1.lt, h2.below hb⟩
theorem kept_belowB {B : Nat} {w : World} (h : B ≤ w.heap.size) : Kept (Below B w) := fun u u' hu hb => hu.trans (hb.mono (Nat.le_trans h hu.size))
theorem kept_newV (F : Nat → Prop) (v : Value) (l : List UInt8) : Kept fun y => NewV y F v l := fun u u' h hb => h.below hb
theorem kept_outX {α : Type} (E : Elem α) (B G : Nat) (ls : List α) : Kept fun y => OutX E B G y ls := fun u u' h hb => h.below hb
theorem newV_of {w : World} {B : Nat} {v : Value} {l : List UInt8} (hb : BsV w (B ≤ ·) v l) (ht : TyB w v) (hk : ∀ k, v.ownBlock = some k → B ≤ k) : NewV w (B ≤ ·) v l := ⟨hb, ht, fun k e => ⟨hk k e, by
  rcases ht with rfl | ⟨g, n, cap, cur, rfl, hc, -⟩
  · cases e
  · cases e; exact hc.lt⟩⟩
theorem wp_buildC {w : World} {o : Oper} {a : Act} {Q : Exit → Act → World → Prop} {K : Act → World → Prop} (x : Operand) (ho : o.op = .buildSlice 43 1 #[(0, x)]) (r : Ch) (A : Option Addr) (c n : Nat) (hn : n = r.2.1.length) (hx : a.eval x = .agg #[.string ⟨r.1.toArray⟩, .slice A n c, .bool r.2.2])
    (hK : ∀ g w', Cs w' g 73 (chCells r A c).toArray → Below w.heap.size w w' → w.heap.size ≤ g → K (a.put o.dst (.slice (some ⟨g, 0, none⟩) 1 1)) w') : o.wp Tryz.prog a w K Q := by
  subst hn
  refine wp_of_run2 (v := .slice (some ⟨w.heap.size, 0, none⟩) 1 1) (w' := w.alloc (.cells (chCells r A c).toArray 73)) ?_ (hK _ _ (Cs.new _ _ _) ((Below.refl _ _).alloc (Nat.le_refl _) _) (Nat.le_refl _))
  unfold execOp
  simp only [ho, hx, List.map_toArray, List.map_cons, List.map_nil, chCells]
  go_simp
theorem NewV.nil (w : World) (F : Nat → Prop) : NewV w F (.slice none 0 0) [] := ⟨BsV.nil _ _, .inl rfl, fun k e => by cases e⟩
set_option maxHeartbeats 4000000 in
theorem apply1_row (x1 x2 : List UInt8) (b off : Nat) (A1 : Option Addr) (c1 : Nat) (F : Nat → Prop) (B G : Nat) (w : World) (ls : List Rw) (hat : At w b off (rwCells (x1, x2) A1 c1)) (hbv : BsV w F (.slice A1 x2.length c1) x2) (hx : x2.length ≤ 8192) (hl : ls.length ≤ 100000) (ho : OutX rowN B G w ls) (hB : B ≤ w.heap.size) (hG : B ≤ G) :
    Calls Tryz.prog 124 #[.pointer (some ⟨b, off, none⟩), .pointer none, .pointer (some ⟨G, 0, none⟩)] w fun e w' => (∃ v, e = .returned v) ∧ OutX rowN B G w' (ls ++ [(x1, x2)]) ∧ Below B w w' := by
  have hmix : Tryz.prog.follows .mixedOrders = true := by kernel_rfl
  obtain ⟨v0, hcg, hox⟩ := ho
  have QG := hid (hcg.cell 0 rfl)
  have CG := hid hcg
  have OX := hid hox
  have BW := hid hB
  have BG := hid hG
  have GL := hid hcg.lt
  have OL := hid (fun q e => (hox.lt q e).2)
  clear hcg hox hB hG
  have Q1 := hid (hat 0 _ rfl)
  have Q2 := hid (hat 1 _ rfl)
  rw [Nat.add_zero] at Q1
  obtain ⟨hbr, hbn⟩ : Rd w A1 x2 ∧ (A1 = none → x2 = [] ∧ c1 = 0) := by
    obtain ⟨A', c', e, h1, h2, h3⟩ := hbv
    cases e
    exact ⟨h1.rd, h2⟩
  have hcl := fun u (hu : Below w.heap.size w u) => Clone_ty x2 A1 c1 u (by omega) (hbr.below hu) hbn
  have HCL := hid hcl
  clear hcl hbr hbn hbv
  go_enter Tryz.func124, Tryz.ntmps124
  go_wp2_with fail
  refine wp_region_V [12, 13] (Below w.heap.size w) hmix ((Below.refl _ _).drew) ?_
  change wpAnyV _ _ _ _ _ _ _ _ _
  refine wpW (i := 0) (v := v0) (kept_below w) rfl (DR fun w9 hS => by have q9 := (hS.cell (lt_of_cell QG.out)).trans QG.out; go_simp) ?_
  try simp only [getElem_toArray, getElem_cons_succ, getElem_cons_zero, Act.put, setIfInBounds_toArray, set_cons_succ, set_cons_zero]
  refine wpW (i := 1) (v := .pointer (some ⟨b, off, none⟩)) (kept_below w) rfl (DR fun w9 hS => by go_simp) ?_
  try simp only [getElem_toArray, getElem_cons_succ, getElem_cons_zero, Act.put, setIfInBounds_toArray, set_cons_succ, set_cons_zero]
  refine wpW (i := 2) (v := .pointer (some ⟨b, off, none⟩)) (kept_below w) rfl (DR fun w9 hS => by go_simp) ?_
  try simp only [getElem_toArray, getElem_cons_succ, getElem_cons_zero, Act.put, setIfInBounds_toArray, set_cons_succ, set_cons_zero]
  refine wpW (i := 3) (v := .pointer (some ⟨b, off, none⟩)) (kept_below w) rfl (DR fun w9 hS => by go_simp) ?_
  try simp only [getElem_toArray, getElem_cons_succ, getElem_cons_zero, Act.put, setIfInBounds_toArray, set_cons_succ, set_cons_zero]
  refine wpW (i := 4) (v := .string ⟨x1.toArray⟩) (kept_below w) rfl (DR fun w9 hS => by have q9 := (hS.cell (lt_of_cell Q1.out)).trans Q1.out; go_simp) ?_
  try simp only [getElem_toArray, getElem_cons_succ, getElem_cons_zero, Act.put, setIfInBounds_toArray, set_cons_succ, set_cons_zero]
  refine wpW (i := 5) (v := .pointer (some ⟨b, off, none⟩)) (kept_below w) rfl (DR fun w9 hS => by go_simp) ?_
  try simp only [getElem_toArray, getElem_cons_succ, getElem_cons_zero, Act.put, setIfInBounds_toArray, set_cons_succ, set_cons_zero]
  refine wpW (i := 6) (v := .pointer (some ⟨b, off, none⟩)) (kept_below w) rfl (DR fun w9 hS => by go_simp) ?_
  try simp only [getElem_toArray, getElem_cons_succ, getElem_cons_zero, Act.put, setIfInBounds_toArray, set_cons_succ, set_cons_zero]
  refine wpW (i := 7) (v := .pointer (some ⟨b, off + 1, none⟩)) (kept_below w) rfl (DR fun w9 hS => by go_simp) ?_
  try simp only [getElem_toArray, getElem_cons_succ, getElem_cons_zero, Act.put, setIfInBounds_toArray, set_cons_succ, set_cons_zero]
  refine wpW (i := 8) (v := .slice A1 x2.length c1) (kept_below w) rfl (DR fun w9 hS => by have q9 := (hS.cell (lt_of_cell Q2.out)).trans Q2.out; go_simp) ?_
  try simp only [getElem_toArray, getElem_cons_succ, getElem_cons_zero, Act.put, setIfInBounds_toArray, set_cons_succ, set_cons_zero]
  refine wpAnyV_only (i := 9) rfl (by kernel_rfl) rfl (fun u hS => wp_of_call (by go_simp) (HCL.out u hS) fun e u' ⟨v1, he, hv, hty, hk, hb⟩ => ⟨v1, he, (fun y => Below w.heap.size w y ∧ NewV y (w.heap.size ≤ ·) v1 x2), ⟨below_chain hS hb, (newV_of hv hty hk).mono fun q _ h => Nat.le_trans hS.size h⟩, kept_and (kept_below w) (kept_newV _ _ _), fun _ y h => h.1, ?_⟩)
  try simp only [getElem_toArray, getElem_cons_succ, getElem_cons_zero, Act.put, setIfInBounds_toArray, set_cons_succ, set_cons_zero]
  obtain ⟨A2, c2, hv2, -⟩ := id hv
  subst hv2
  refine wpAnyV_pure (i := 10) (v := .agg #[.string ⟨x1.toArray⟩, .slice A2 x2.length c2]) (kept_and (kept_below w) (kept_newV _ _ _)) rfl (by kernel_rfl) (by kernel_rfl) (fun _ _ _ h => h) (DR fun w9 hS => by go_simp) ?_
  try simp only [getElem_toArray, getElem_cons_succ, getElem_cons_zero, Act.put, setIfInBounds_toArray, set_cons_succ, set_cons_zero]
  refine wpAnyV_only (i := 11) rfl (by kernel_rfl) rfl (fun y hy => wp_buildRow _ rfl (x1, x2) A2 c2 rfl fun g8 y' hk hb hg => ⟨(fun y => (Below w.heap.size w y ∧ NewV y (w.heap.size ≤ ·) (.slice A2 x2.length c2) x2) ∧ Cs y g8 78 (rwCells (x1, x2) A2 c2).toArray), ⟨⟨below_chain hy.1 hb, hy.2.below hb⟩, hk⟩, kept_and (kept_and (kept_below w) (kept_newV _ _ _)) (kept_cs _ _ _), fun _ y h => h.1, ?_⟩)
  try simp only [getElem_toArray, getElem_cons_succ, getElem_cons_zero, Act.put, setIfInBounds_toArray, set_cons_succ, set_cons_zero]
  refine wpAnyV_only (i := 12) rfl (by kernel_rfl) rfl (fun y hy => wp_append_x1 (E := rowN) _ _ rfl B (fun k => B ≤ k ∧ k ≠ G) v0 ls rfl (OX.out.below hy.1.1) g8 1 rfl (rwCells (x1, x2) A2 c2) (x1, x2) ⟨_, rfl, hy.1.2.mono fun q _ hq => ⟨⟨Nat.le_trans BW.out hq, fun e => absurd (e ▸ hq) (Nat.not_le.2 GL.out)⟩, fun e => absurd hq (Nat.not_le.2 (OL.out q e))⟩⟩ 78 hy.2 (by omega) (Nat.le_trans BW.out hy.1.1.size) ⟨Nat.le_trans BW.out hy.1.1.size, fun e => absurd GL.out (Nat.not_lt.2 (e ▸ hy.1.1.size))⟩ fun v3 y' ho3 hg3 => ⟨(fun y => Below B w y ∧ OwnX rowN y B (fun k => B ≤ k ∧ k ≠ G) v3 (ls ++ [(x1, x2)]) ∧ Cs y G 64 #[v0]), ⟨(hy.1.1.mono BW.out).grown hg3 (Nat.le_trans BW.out hy.1.1.size) (fun q e => (OX.out.lt q e).1), ho3, (CG.out.below hy.1.1 CG.out.lt).turn (Turn.of_grown hg3) (fun e => (OX.out.sub _ e).2 rfl)⟩, kept_and (kept_belowB BW.out) (kept_and (kept_ownX _ _ _ _) (kept_cs _ _ _)), fun h => absurd (by simp) h, ?_⟩)
  try simp only [getElem_toArray, getElem_cons_succ, getElem_cons_zero, Act.put, setIfInBounds_toArray, set_cons_succ, set_cons_zero]
  refine wpAnyV_only (i := 13) rfl (by kernel_rfl) rfl (fun y hy => wp_store1 64 _ _ rfl G 0 rfl v3 rfl hy.2.1.one (by kernel_rfl) 64 _ hy.2.2 (by simp) fun y' hk ht => ⟨(fun y => Below B w y ∧ OutX rowN B G y (ls ++ [(x1, x2)])), ⟨hy.1.trans (ht.below (Nat.le_trans BW.out hy.1.size) fun q e => e ▸ BG.out), ⟨v3, hk, hy.2.1.turn ht fun q hq e => hq.2 e⟩⟩, kept_and (kept_belowB BW.out) (kept_outX _ _ _ _), fun h => absurd (by simp) h, ?_⟩)
  try simp only [getElem_toArray, getElem_cons_succ, getElem_cons_zero, Act.put, setIfInBounds_toArray, set_cons_succ, set_cons_zero]
  refine wpAnyV_done (by kernel_rfl) (fun u hu => ?_) _
  have HU := hid hu
  clear hu
  go_wp2_with fail
  go_end0
  exact ⟨⟨_, rfl⟩, HU.out.2, HU.out.1⟩
set_option maxHeartbeats 4000000 in
theorem apply1_put (rp : Value) (x1 x2 : List UInt8) (b off : Nat) (A1 : Option Addr) (c1 : Nat) (F : Nat → Prop) (B G : Nat) (w : World) (ls : List Rw) (hat : At w b off (chCells (x1, x2, false) A1 c1)) (hbv : BsV w F (.slice A1 x2.length c1) x2) (hx : x2.length ≤ 8192) (hl : ls.length ≤ 100000) (ho : OutX rowN B G w ls) (hB : B ≤ w.heap.size) (hG : B ≤ G) :
    Calls Tryz.prog 124 #[rp, .pointer (some ⟨b, off, none⟩), .pointer (some ⟨G, 0, none⟩)] w fun e w' => (∃ v, e = .returned v) ∧ OutX rowN B G w' (ls ++ [(x1, x2)]) ∧ Below B w w' := by
  have hmix : Tryz.prog.follows .mixedOrders = true := by kernel_rfl
  obtain ⟨v0, hcg, hox⟩ := ho
  have QG := hid (hcg.cell 0 rfl)
  have CG := hid hcg
  have OX := hid hox
  have BW := hid hB
  have BG := hid hG
  have GL := hid hcg.lt
  have OL := hid (fun q e => (hox.lt q e).2)
  clear hcg hox hB hG
  have q2 : w.cell? ⟨b, off + 2, none⟩ = some (.bool false) := hat 2 _ rfl
  have Q1 := hid (hat 0 _ rfl)
  have Q2 := hid (hat 1 _ rfl)
  rw [Nat.add_zero] at Q1
  obtain ⟨hbr, hbn⟩ : Rd w A1 x2 ∧ (A1 = none → x2 = [] ∧ c1 = 0) := by
    obtain ⟨A', c', e, h1, h2, h3⟩ := hbv
    cases e
    exact ⟨h1.rd, h2⟩
  have hcl := fun u (hu : Below w.heap.size w u) => Clone_ty x2 A1 c1 u (by omega) (hbr.below hu) hbn
  have HCL := hid hcl
  clear hcl hbr hbn hbv
  go_enter Tryz.func124, Tryz.ntmps124
  go_wp2_with fail
  refine wp_region_V [12, 13] (Below w.heap.size w) hmix ((Below.refl _ _).drew) ?_
  change wpAnyV _ _ _ _ _ _ _ _ _
  refine wpW (i := 0) (v := v0) (kept_below w) rfl (DR fun w9 hS => by have q9 := (hS.cell (lt_of_cell QG.out)).trans QG.out; go_simp) ?_
  try simp only [getElem_toArray, getElem_cons_succ, getElem_cons_zero, Act.put, setIfInBounds_toArray, set_cons_succ, set_cons_zero]
  refine wpW (i := 1) (v := .pointer (some ⟨b, off, none⟩)) (kept_below w) rfl (DR fun w9 hS => by go_simp) ?_
  try simp only [getElem_toArray, getElem_cons_succ, getElem_cons_zero, Act.put, setIfInBounds_toArray, set_cons_succ, set_cons_zero]
  refine wpW (i := 2) (v := .pointer (some ⟨b, off, none⟩)) (kept_below w) rfl (DR fun w9 hS => by go_simp) ?_
  try simp only [getElem_toArray, getElem_cons_succ, getElem_cons_zero, Act.put, setIfInBounds_toArray, set_cons_succ, set_cons_zero]
  refine wpW (i := 3) (v := .pointer (some ⟨b, off, none⟩)) (kept_below w) rfl (DR fun w9 hS => by go_simp) ?_
  try simp only [getElem_toArray, getElem_cons_succ, getElem_cons_zero, Act.put, setIfInBounds_toArray, set_cons_succ, set_cons_zero]
  refine wpW (i := 4) (v := .string ⟨x1.toArray⟩) (kept_below w) rfl (DR fun w9 hS => by have q9 := (hS.cell (lt_of_cell Q1.out)).trans Q1.out; go_simp) ?_
  try simp only [getElem_toArray, getElem_cons_succ, getElem_cons_zero, Act.put, setIfInBounds_toArray, set_cons_succ, set_cons_zero]
  refine wpW (i := 5) (v := .pointer (some ⟨b, off, none⟩)) (kept_below w) rfl (DR fun w9 hS => by go_simp) ?_
  try simp only [getElem_toArray, getElem_cons_succ, getElem_cons_zero, Act.put, setIfInBounds_toArray, set_cons_succ, set_cons_zero]
  refine wpW (i := 6) (v := .pointer (some ⟨b, off, none⟩)) (kept_below w) rfl (DR fun w9 hS => by go_simp) ?_
  try simp only [getElem_toArray, getElem_cons_succ, getElem_cons_zero, Act.put, setIfInBounds_toArray, set_cons_succ, set_cons_zero]
  refine wpW (i := 7) (v := .pointer (some ⟨b, off + 1, none⟩)) (kept_below w) rfl (DR fun w9 hS => by go_simp) ?_
  try simp only [getElem_toArray, getElem_cons_succ, getElem_cons_zero, Act.put, setIfInBounds_toArray, set_cons_succ, set_cons_zero]
  refine wpW (i := 8) (v := .slice A1 x2.length c1) (kept_below w) rfl (DR fun w9 hS => by have q9 := (hS.cell (lt_of_cell Q2.out)).trans Q2.out; go_simp) ?_
  try simp only [getElem_toArray, getElem_cons_succ, getElem_cons_zero, Act.put, setIfInBounds_toArray, set_cons_succ, set_cons_zero]
  refine wpAnyV_only (i := 9) rfl (by kernel_rfl) rfl (fun u hS => wp_of_call (by go_simp) (HCL.out u hS) fun e u' ⟨v1, he, hv, hty, hk, hb⟩ => ⟨v1, he, (fun y => Below w.heap.size w y ∧ NewV y (w.heap.size ≤ ·) v1 x2), ⟨below_chain hS hb, (newV_of hv hty hk).mono fun q _ h => Nat.le_trans hS.size h⟩, kept_and (kept_below w) (kept_newV _ _ _), fun _ y h => h.1, ?_⟩)
  try simp only [getElem_toArray, getElem_cons_succ, getElem_cons_zero, Act.put, setIfInBounds_toArray, set_cons_succ, set_cons_zero]
  obtain ⟨A2, c2, hv2, -⟩ := id hv
  subst hv2
  refine wpAnyV_pure (i := 10) (v := .agg #[.string ⟨x1.toArray⟩, .slice A2 x2.length c2]) (kept_and (kept_below w) (kept_newV _ _ _)) rfl (by kernel_rfl) (by kernel_rfl) (fun _ _ _ h => h) (DR fun w9 hS => by go_simp) ?_
  try simp only [getElem_toArray, getElem_cons_succ, getElem_cons_zero, Act.put, setIfInBounds_toArray, set_cons_succ, set_cons_zero]
  refine wpAnyV_only (i := 11) rfl (by kernel_rfl) rfl (fun y hy => wp_buildRow _ rfl (x1, x2) A2 c2 rfl fun g8 y' hk hb hg => ⟨(fun y => (Below w.heap.size w y ∧ NewV y (w.heap.size ≤ ·) (.slice A2 x2.length c2) x2) ∧ Cs y g8 78 (rwCells (x1, x2) A2 c2).toArray), ⟨⟨below_chain hy.1 hb, hy.2.below hb⟩, hk⟩, kept_and (kept_and (kept_below w) (kept_newV _ _ _)) (kept_cs _ _ _), fun _ y h => h.1, ?_⟩)
  try simp only [getElem_toArray, getElem_cons_succ, getElem_cons_zero, Act.put, setIfInBounds_toArray, set_cons_succ, set_cons_zero]
  refine wpAnyV_only (i := 12) rfl (by kernel_rfl) rfl (fun y hy => wp_append_x1 (E := rowN) _ _ rfl B (fun k => B ≤ k ∧ k ≠ G) v0 ls rfl (OX.out.below hy.1.1) g8 1 rfl (rwCells (x1, x2) A2 c2) (x1, x2) ⟨_, rfl, hy.1.2.mono fun q _ hq => ⟨⟨Nat.le_trans BW.out hq, fun e => absurd (e ▸ hq) (Nat.not_le.2 GL.out)⟩, fun e => absurd hq (Nat.not_le.2 (OL.out q e))⟩⟩ 78 hy.2 (by omega) (Nat.le_trans BW.out hy.1.1.size) ⟨Nat.le_trans BW.out hy.1.1.size, fun e => absurd GL.out (Nat.not_lt.2 (e ▸ hy.1.1.size))⟩ fun v3 y' ho3 hg3 => ⟨(fun y => Below B w y ∧ OwnX rowN y B (fun k => B ≤ k ∧ k ≠ G) v3 (ls ++ [(x1, x2)]) ∧ Cs y G 64 #[v0]), ⟨(hy.1.1.mono BW.out).grown hg3 (Nat.le_trans BW.out hy.1.1.size) (fun q e => (OX.out.lt q e).1), ho3, (CG.out.below hy.1.1 CG.out.lt).turn (Turn.of_grown hg3) (fun e => (OX.out.sub _ e).2 rfl)⟩, kept_and (kept_belowB BW.out) (kept_and (kept_ownX _ _ _ _) (kept_cs _ _ _)), fun h => absurd (by simp) h, ?_⟩)
  try simp only [getElem_toArray, getElem_cons_succ, getElem_cons_zero, Act.put, setIfInBounds_toArray, set_cons_succ, set_cons_zero]
  refine wpAnyV_only (i := 13) rfl (by kernel_rfl) rfl (fun y hy => wp_store1 64 _ _ rfl G 0 rfl v3 rfl hy.2.1.one (by kernel_rfl) 64 _ hy.2.2 (by simp) fun y' hk ht => ⟨(fun y => Below B w y ∧ OutX rowN B G y (ls ++ [(x1, x2)])), ⟨hy.1.trans (ht.below (Nat.le_trans BW.out hy.1.size) fun q e => e ▸ BG.out), ⟨v3, hk, hy.2.1.turn ht fun q hq e => hq.2 e⟩⟩, kept_and (kept_belowB BW.out) (kept_outX _ _ _ _), fun h => absurd (by simp) h, ?_⟩)
  try simp only [getElem_toArray, getElem_cons_succ, getElem_cons_zero, Act.put, setIfInBounds_toArray, set_cons_succ, set_cons_zero]
  refine wpAnyV_done (by kernel_rfl) (fun u hu => ?_) _
  have HU := hid hu
  clear hu
  go_wp2_with fail
  go_end0
  exact ⟨⟨_, rfl⟩, HU.out.2, HU.out.1⟩
set_option maxHeartbeats 4000000 in
theorem apply1_gone (rp : Value) (x1 x2 : List UInt8) (b off : Nat) (A1 : Option Addr) (c1 : Nat) (B G : Nat) (w : World) (ls : List Rw) (hat : At w b off (chCells (x1, x2, true) A1 c1)) (hl : ls.length ≤ 100000) (ho : OutX rowN B G w ls) (hB : B ≤ w.heap.size) (hG : B ≤ G) :
    Calls Tryz.prog 124 #[rp, .pointer (some ⟨b, off, none⟩), .pointer (some ⟨G, 0, none⟩)] w fun e w' => (∃ v, e = .returned v) ∧ OutX rowN B G w' ls ∧ Below B w w' := by
  have q2 : w.cell? ⟨b, off + 2, none⟩ = some (.bool true) := hat 2 _ rfl
  have HO := hid ho
  clear hat ho
  go_enter Tryz.func124, Tryz.ntmps124
  go_wp2_with fail
  go_end0
  exact ⟨⟨_, rfl⟩, HO.out, Below.refl _ _⟩
set_option maxHeartbeats 4000000 in
theorem betw1_gone (x1 x2 : List UInt8) (b off : Nat) (A1 : Option Addr) (c1 : Nat) (B G : Nat) (w : World) (ls : List Ch) (hat : At w b off (rwCells (x1, x2) A1 c1)) (hl : ls.length ≤ 100000) (ho : OutX chgN B G w ls) (hB : B ≤ w.heap.size) (hG : B ≤ G) :
    Calls Tryz.prog 187 #[.pointer (some ⟨b, off, none⟩), .pointer none, .pointer (some ⟨G, 0, none⟩)] w fun e w' => (∃ v, e = .returned v) ∧ OutX chgN B G w' (ls ++ [(x1, [], true)]) ∧ Below B w w' := by
  have hmix : Tryz.prog.follows .mixedOrders = true := by kernel_rfl
  obtain ⟨v0, hcg, hox⟩ := ho
  have QG := hid (hcg.cell 0 rfl)
  have CG := hid hcg
  have OX := hid hox
  have BW := hid hB
  have BG := hid hG
  have GL := hid hcg.lt
  have OL := hid (fun q e => (hox.lt q e).2)
  clear hcg hox hB hG
  have Q1 := hid (hat 0 _ rfl)
  rw [Nat.add_zero] at Q1
  go_enter Tryz.func187, Tryz.ntmps187
  go_wp2_with fail
  refine wp_region_V [7, 8] (Below w.heap.size w) hmix ((Below.refl _ _).drew) ?_
  change wpAnyV _ _ _ _ _ _ _ _ _
  refine wpW (i := 0) (v := v0) (kept_below w) rfl (DR fun w9 hS => by have q9 := (hS.cell (lt_of_cell QG.out)).trans QG.out; go_simp) ?_
  try simp only [getElem_toArray, getElem_cons_succ, getElem_cons_zero, Act.put, setIfInBounds_toArray, set_cons_succ, set_cons_zero]
  refine wpW (i := 1) (v := .pointer (some ⟨b, off, none⟩)) (kept_below w) rfl (DR fun w9 hS => by go_simp) ?_
  try simp only [getElem_toArray, getElem_cons_succ, getElem_cons_zero, Act.put, setIfInBounds_toArray, set_cons_succ, set_cons_zero]
  refine wpW (i := 2) (v := .pointer (some ⟨b, off, none⟩)) (kept_below w) rfl (DR fun w9 hS => by go_simp) ?_
  try simp only [getElem_toArray, getElem_cons_succ, getElem_cons_zero, Act.put, setIfInBounds_toArray, set_cons_succ, set_cons_zero]
  refine wpW (i := 3) (v := .pointer (some ⟨b, off, none⟩)) (kept_below w) rfl (DR fun w9 hS => by go_simp) ?_
  try simp only [getElem_toArray, getElem_cons_succ, getElem_cons_zero, Act.put, setIfInBounds_toArray, set_cons_succ, set_cons_zero]
  refine wpW (i := 4) (v := .string ⟨x1.toArray⟩) (kept_below w) rfl (DR fun w9 hS => by have q9 := (hS.cell (lt_of_cell Q1.out)).trans Q1.out; go_simp) ?_
  try simp only [getElem_toArray, getElem_cons_succ, getElem_cons_zero, Act.put, setIfInBounds_toArray, set_cons_succ, set_cons_zero]
  refine wpAnyV_pure (i := 5) (v := .agg #[.string ⟨x1.toArray⟩, .slice none 0 0, .bool true]) (kept_below w) rfl (by kernel_rfl) (by kernel_rfl) (fun _ _ _ h => h) (DR fun w9 hS => by go_simp) ?_
  try simp only [getElem_toArray, getElem_cons_succ, getElem_cons_zero, Act.put, setIfInBounds_toArray, set_cons_succ, set_cons_zero]
  refine wpAnyV_only (i := 6) rfl (by kernel_rfl) rfl (fun y hy => wp_buildC _ rfl (x1, [], true) none 0 _ rfl rfl fun g8 y' hk hb hg => ⟨(fun y => (Below w.heap.size w y) ∧ Cs y g8 73 (chCells (x1, [], true) none 0).toArray), ⟨(below_chain hy hb), hk⟩, kept_and (kept_below w) (kept_cs _ _ _), fun _ y h => h.1, ?_⟩)
  try simp only [getElem_toArray, getElem_cons_succ, getElem_cons_zero, Act.put, setIfInBounds_toArray, set_cons_succ, set_cons_zero]
  refine wpAnyV_only (i := 7) rfl (by kernel_rfl) rfl (fun y hy => wp_append_x1 (E := chgN) _ _ rfl B (fun k => B ≤ k ∧ k ≠ G) v0 ls rfl (OX.out.below hy.1) g8 1 rfl (chCells (x1, [], true) none 0) (x1, [], true) ⟨_, rfl, NewV.nil _ _⟩ 73 hy.2 (by omega) (Nat.le_trans BW.out hy.1.size) ⟨Nat.le_trans BW.out hy.1.size, fun e => absurd GL.out (Nat.not_lt.2 (e ▸ hy.1.size))⟩ fun v3 y' ho3 hg3 => ⟨(fun y => Below B w y ∧ OwnX chgN y B (fun k => B ≤ k ∧ k ≠ G) v3 (ls ++ [(x1, [], true)]) ∧ Cs y G 43 #[v0]), ⟨(hy.1.mono BW.out).grown hg3 (Nat.le_trans BW.out hy.1.size) (fun q e => (OX.out.lt q e).1), ho3, (CG.out.below hy.1 CG.out.lt).turn (Turn.of_grown hg3) (fun e => (OX.out.sub _ e).2 rfl)⟩, kept_and (kept_belowB BW.out) (kept_and (kept_ownX _ _ _ _) (kept_cs _ _ _)), fun h => absurd (by simp) h, ?_⟩)
  try simp only [getElem_toArray, getElem_cons_succ, getElem_cons_zero, Act.put, setIfInBounds_toArray, set_cons_succ, set_cons_zero]
  refine wpAnyV_only (i := 8) rfl (by kernel_rfl) rfl (fun y hy => wp_store1 43 _ _ rfl G 0 rfl v3 rfl hy.2.1.one (by kernel_rfl) 43 _ hy.2.2 (by simp) fun y' hk ht => ⟨(fun y => Below B w y ∧ OutX chgN B G y (ls ++ [(x1, [], true)])), ⟨hy.1.trans (ht.below (Nat.le_trans BW.out hy.1.size) fun q e => e ▸ BG.out), ⟨v3, hk, hy.2.1.turn ht fun q hq e => hq.2 e⟩⟩, kept_and (kept_belowB BW.out) (kept_outX _ _ _ _), fun h => absurd (by simp) h, ?_⟩)
  try simp only [getElem_toArray, getElem_cons_succ, getElem_cons_zero, Act.put, setIfInBounds_toArray, set_cons_succ, set_cons_zero]
  refine wpAnyV_done (by kernel_rfl) (fun u hu => ?_) _
  have HU := hid hu
  clear hu
  go_wp2_with fail
  go_end0
  exact ⟨⟨_, rfl⟩, HU.out.2, HU.out.1⟩
set_option maxHeartbeats 4000000 in
theorem betw1_new (x1 x2 : List UInt8) (b off : Nat) (A1 : Option Addr) (c1 : Nat) (F : Nat → Prop) (B G : Nat) (w : World) (ls : List Ch) (hat : At w b off (rwCells (x1, x2) A1 c1)) (hbv : BsV w F (.slice A1 x2.length c1) x2) (hx : x2.length ≤ 8192) (hl : ls.length ≤ 100000) (ho : OutX chgN B G w ls) (hB : B ≤ w.heap.size) (hG : B ≤ G) :
    Calls Tryz.prog 187 #[.pointer none, .pointer (some ⟨b, off, none⟩), .pointer (some ⟨G, 0, none⟩)] w fun e w' => (∃ v, e = .returned v) ∧ OutX chgN B G w' (ls ++ [(x1, x2, false)]) ∧ Below B w w' := by
  have hmix : Tryz.prog.follows .mixedOrders = true := by kernel_rfl
  obtain ⟨v0, hcg, hox⟩ := ho
  have QG := hid (hcg.cell 0 rfl)
  have CG := hid hcg
  have OX := hid hox
  have BW := hid hB
  have BG := hid hG
  have GL := hid hcg.lt
  have OL := hid (fun q e => (hox.lt q e).2)
  clear hcg hox hB hG
  have Q1 := hid (hat 0 _ rfl)
  have Q2 := hid (hat 1 _ rfl)
  rw [Nat.add_zero] at Q1
  obtain ⟨hbr, hbn⟩ : Rd w A1 x2 ∧ (A1 = none → x2 = [] ∧ c1 = 0) := by
    obtain ⟨A', c', e, h1, h2, h3⟩ := hbv
    cases e
    exact ⟨h1.rd, h2⟩
  have hcl := fun u (hu : Below w.heap.size w u) => Clone_ty x2 A1 c1 u (by omega) (hbr.below hu) hbn
  have HCL := hid hcl
  clear hcl hbr hbn hbv
  go_enter Tryz.func187, Tryz.ntmps187
  go_wp2_with fail
  refine wp_region_V [] (Below w.heap.size w) hmix ((Below.refl _ _).drew) ?_
  change wpAnyV _ _ _ _ _ _ _ _ _
  refine wpW (i := 0) (v := .pointer none) (kept_below w) rfl (DR fun w9 hS => by go_simp) ?_
  try simp only [getElem_toArray, getElem_cons_succ, getElem_cons_zero, Act.put, setIfInBounds_toArray, set_cons_succ, set_cons_zero]
  refine wpW (i := 1) (v := .bool true) (kept_below w) rfl (DR fun w9 hS => by go_simp) ?_
  try simp only [getElem_toArray, getElem_cons_succ, getElem_cons_zero, Act.put, setIfInBounds_toArray, set_cons_succ, set_cons_zero]
  refine wpW (i := 2) (v := .bool true) (kept_below w) rfl (DR fun w9 hS => by go_simp) ?_
  try simp only [getElem_toArray, getElem_cons_succ, getElem_cons_zero, Act.put, setIfInBounds_toArray, set_cons_succ, set_cons_zero]
  refine wpW (i := 3) (v := undef) (kept_below w) rfl (DoesV.off (by rfl)) ?_
  try simp only [getElem_toArray, getElem_cons_succ, getElem_cons_zero, Act.put, setIfInBounds_toArray, set_cons_succ, set_cons_zero]
  refine wpW (i := 4) (v := undef) (kept_below w) rfl (DoesV.off (by rfl)) ?_
  try simp only [getElem_toArray, getElem_cons_succ, getElem_cons_zero, Act.put, setIfInBounds_toArray, set_cons_succ, set_cons_zero]
  refine wpW (i := 5) (v := undef) (kept_below w) rfl (DoesV.off (by rfl)) ?_
  try simp only [getElem_toArray, getElem_cons_succ, getElem_cons_zero, Act.put, setIfInBounds_toArray, set_cons_succ, set_cons_zero]
  refine wpW (i := 6) (v := undef) (kept_below w) rfl (DoesV.off (by rfl)) ?_
  try simp only [getElem_toArray, getElem_cons_succ, getElem_cons_zero, Act.put, setIfInBounds_toArray, set_cons_succ, set_cons_zero]
  refine wpW (i := 7) (v := undef) (kept_below w) rfl (DoesV.off (by rfl)) ?_
  try simp only [getElem_toArray, getElem_cons_succ, getElem_cons_zero, Act.put, setIfInBounds_toArray, set_cons_succ, set_cons_zero]
  refine wpW (i := 8) (v := undef) (kept_below w) rfl (DoesV.off (by rfl)) ?_
  try simp only [getElem_toArray, getElem_cons_succ, getElem_cons_zero, Act.put, setIfInBounds_toArray, set_cons_succ, set_cons_zero]
  refine wpW (i := 9) (v := undef) (kept_below w) rfl (DoesV.off (by rfl)) ?_
  try simp only [getElem_toArray, getElem_cons_succ, getElem_cons_zero, Act.put, setIfInBounds_toArray, set_cons_succ, set_cons_zero]
  refine wpW (i := 10) (v := undef) (kept_below w) rfl (DoesV.off (by rfl)) ?_
  try simp only [getElem_toArray, getElem_cons_succ, getElem_cons_zero, Act.put, setIfInBounds_toArray, set_cons_succ, set_cons_zero]
  refine wpW (i := 11) (v := undef) (kept_below w) rfl (DoesV.off (by rfl)) ?_
  try simp only [getElem_toArray, getElem_cons_succ, getElem_cons_zero, Act.put, setIfInBounds_toArray, set_cons_succ, set_cons_zero]
  refine wpW (i := 12) (v := undef) (kept_below w) rfl (DoesV.off (by rfl)) ?_
  try simp only [getElem_toArray, getElem_cons_succ, getElem_cons_zero, Act.put, setIfInBounds_toArray, set_cons_succ, set_cons_zero]
  refine wpW (i := 13) (v := .bool true) (kept_below w) rfl (DR fun w9 hS => by go_simp) ?_
  try simp only [getElem_toArray, getElem_cons_succ, getElem_cons_zero, Act.put, setIfInBounds_toArray, set_cons_succ, set_cons_zero]
  refine wpW (i := 14) (v := .bool true) (kept_below w) rfl (DR fun w9 hS => by go_simp) ?_
  try simp only [getElem_toArray, getElem_cons_succ, getElem_cons_zero, Act.put, setIfInBounds_toArray, set_cons_succ, set_cons_zero]
  refine wpAnyV_done (by kernel_rfl) (fun u0 hu => ?_) _
  have HU0 := hid hu
  clear hu
  go_wp2_with fail
  refine wp_region_V [12, 13] (Below w.heap.size w) hmix (HU0.out.drew) ?_
  change wpAnyV _ _ _ _ _ _ _ _ _
  refine wpW (i := 0) (v := v0) (kept_below w) rfl (DR fun w9 hS => by have q9 := (hS.cell (lt_of_cell QG.out)).trans QG.out; go_simp) ?_
  try simp only [getElem_toArray, getElem_cons_succ, getElem_cons_zero, Act.put, setIfInBounds_toArray, set_cons_succ, set_cons_zero]
  refine wpW (i := 1) (v := .pointer (some ⟨b, off, none⟩)) (kept_below w) rfl (DR fun w9 hS => by go_simp) ?_
  try simp only [getElem_toArray, getElem_cons_succ, getElem_cons_zero, Act.put, setIfInBounds_toArray, set_cons_succ, set_cons_zero]
  refine wpW (i := 2) (v := .pointer (some ⟨b, off, none⟩)) (kept_below w) rfl (DR fun w9 hS => by go_simp) ?_
  try simp only [getElem_toArray, getElem_cons_succ, getElem_cons_zero, Act.put, setIfInBounds_toArray, set_cons_succ, set_cons_zero]
  refine wpW (i := 3) (v := .pointer (some ⟨b, off, none⟩)) (kept_below w) rfl (DR fun w9 hS => by go_simp) ?_
  try simp only [getElem_toArray, getElem_cons_succ, getElem_cons_zero, Act.put, setIfInBounds_toArray, set_cons_succ, set_cons_zero]
  refine wpW (i := 4) (v := .string ⟨x1.toArray⟩) (kept_below w) rfl (DR fun w9 hS => by have q9 := (hS.cell (lt_of_cell Q1.out)).trans Q1.out; go_simp) ?_
  try simp only [getElem_toArray, getElem_cons_succ, getElem_cons_zero, Act.put, setIfInBounds_toArray, set_cons_succ, set_cons_zero]
  refine wpW (i := 5) (v := .pointer (some ⟨b, off, none⟩)) (kept_below w) rfl (DR fun w9 hS => by go_simp) ?_
  try simp only [getElem_toArray, getElem_cons_succ, getElem_cons_zero, Act.put, setIfInBounds_toArray, set_cons_succ, set_cons_zero]
  refine wpW (i := 6) (v := .pointer (some ⟨b, off, none⟩)) (kept_below w) rfl (DR fun w9 hS => by go_simp) ?_
  try simp only [getElem_toArray, getElem_cons_succ, getElem_cons_zero, Act.put, setIfInBounds_toArray, set_cons_succ, set_cons_zero]
  refine wpW (i := 7) (v := .pointer (some ⟨b, off + 1, none⟩)) (kept_below w) rfl (DR fun w9 hS => by go_simp) ?_
  try simp only [getElem_toArray, getElem_cons_succ, getElem_cons_zero, Act.put, setIfInBounds_toArray, set_cons_succ, set_cons_zero]
  refine wpW (i := 8) (v := .slice A1 x2.length c1) (kept_below w) rfl (DR fun w9 hS => by have q9 := (hS.cell (lt_of_cell Q2.out)).trans Q2.out; go_simp) ?_
  try simp only [getElem_toArray, getElem_cons_succ, getElem_cons_zero, Act.put, setIfInBounds_toArray, set_cons_succ, set_cons_zero]
  refine wpAnyV_only (i := 9) rfl (by kernel_rfl) rfl (fun u hS => wp_of_call (by go_simp) (HCL.out u hS) fun e u' ⟨v1, he, hv, hty, hk, hb⟩ => ⟨v1, he, (fun y => Below w.heap.size w y ∧ NewV y (w.heap.size ≤ ·) v1 x2), ⟨below_chain hS hb, (newV_of hv hty hk).mono fun q _ h => Nat.le_trans hS.size h⟩, kept_and (kept_below w) (kept_newV _ _ _), fun _ y h => h.1, ?_⟩)
  try simp only [getElem_toArray, getElem_cons_succ, getElem_cons_zero, Act.put, setIfInBounds_toArray, set_cons_succ, set_cons_zero]
  obtain ⟨A2, c2, hv2, -⟩ := id hv
  subst hv2
  refine wpAnyV_pure (i := 10) (v := .agg #[.string ⟨x1.toArray⟩, .slice A2 x2.length c2, .bool false]) (kept_and (kept_below w) (kept_newV _ _ _)) rfl (by kernel_rfl) (by kernel_rfl) (fun _ _ _ h => h) (DR fun w9 hS => by go_simp) ?_
  try simp only [getElem_toArray, getElem_cons_succ, getElem_cons_zero, Act.put, setIfInBounds_toArray, set_cons_succ, set_cons_zero]
  refine wpAnyV_only (i := 11) rfl (by kernel_rfl) rfl (fun y hy => wp_buildC _ rfl (x1, x2, false) A2 c2 _ rfl rfl fun g8 y' hk hb hg => ⟨(fun y => (Below w.heap.size w y ∧ NewV y (w.heap.size ≤ ·) (.slice A2 x2.length c2) x2) ∧ Cs y g8 73 (chCells (x1, x2, false) A2 c2).toArray), ⟨⟨below_chain hy.1 hb, hy.2.below hb⟩, hk⟩, kept_and (kept_and (kept_below w) (kept_newV _ _ _)) (kept_cs _ _ _), fun _ y h => h.1, ?_⟩)
  try simp only [getElem_toArray, getElem_cons_succ, getElem_cons_zero, Act.put, setIfInBounds_toArray, set_cons_succ, set_cons_zero]
  refine wpAnyV_only (i := 12) rfl (by kernel_rfl) rfl (fun y hy => wp_append_x1 (E := chgN) _ _ rfl B (fun k => B ≤ k ∧ k ≠ G) v0 ls rfl (OX.out.below hy.1.1) g8 1 rfl (chCells (x1, x2, false) A2 c2) (x1, x2, false) ⟨_, rfl, hy.1.2.mono fun q _ hq => ⟨⟨Nat.le_trans BW.out hq, fun e => absurd (e ▸ hq) (Nat.not_le.2 GL.out)⟩, fun e => absurd hq (Nat.not_le.2 (OL.out q e))⟩⟩ 73 hy.2 (by omega) (Nat.le_trans BW.out hy.1.1.size) ⟨Nat.le_trans BW.out hy.1.1.size, fun e => absurd GL.out (Nat.not_lt.2 (e ▸ hy.1.1.size))⟩ fun v3 y' ho3 hg3 => ⟨(fun y => Below B w y ∧ OwnX chgN y B (fun k => B ≤ k ∧ k ≠ G) v3 (ls ++ [(x1, x2, false)]) ∧ Cs y G 43 #[v0]), ⟨(hy.1.1.mono BW.out).grown hg3 (Nat.le_trans BW.out hy.1.1.size) (fun q e => (OX.out.lt q e).1), ho3, (CG.out.below hy.1.1 CG.out.lt).turn (Turn.of_grown hg3) (fun e => (OX.out.sub _ e).2 rfl)⟩, kept_and (kept_belowB BW.out) (kept_and (kept_ownX _ _ _ _) (kept_cs _ _ _)), fun h => absurd (by simp) h, ?_⟩)
  try simp only [getElem_toArray, getElem_cons_succ, getElem_cons_zero, Act.put, setIfInBounds_toArray, set_cons_succ, set_cons_zero]
  refine wpAnyV_only (i := 13) rfl (by kernel_rfl) rfl (fun y hy => wp_store1 43 _ _ rfl G 0 rfl v3 rfl hy.2.1.one (by kernel_rfl) 43 _ hy.2.2 (by simp) fun y' hk ht => ⟨(fun y => Below B w y ∧ OutX chgN B G y (ls ++ [(x1, x2, false)])), ⟨hy.1.trans (ht.below (Nat.le_trans BW.out hy.1.size) fun q e => e ▸ BG.out), ⟨v3, hk, hy.2.1.turn ht fun q hq e => hq.2 e⟩⟩, kept_and (kept_belowB BW.out) (kept_outX _ _ _ _), fun h => absurd (by simp) h, ?_⟩)
  try simp only [getElem_toArray, getElem_cons_succ, getElem_cons_zero, Act.put, setIfInBounds_toArray, set_cons_succ, set_cons_zero]
  refine wpAnyV_done (by kernel_rfl) (fun u hu => ?_) _
  have HU := hid hu
  clear hu
  go_wp2_with fail
  go_end0
  exact ⟨⟨_, rfl⟩, HU.out.2, HU.out.1⟩
set_option maxHeartbeats 4000000 in
theorem betw1_both (x1 x2 : List UInt8) (b off : Nat) (A1 : Option Addr) (c1 : Nat) (F : Nat → Prop) (y1 y2 : List UInt8) (b2 off2 : Nat) (A3 : Option Addr) (c3 : Nat) (F3 : Nat → Prop) (B G : Nat) (w : World) (ls : List Ch) (hat : At w b off (rwCells (x1, x2) A1 c1)) (hbv : BsV w F (.slice A1 x2.length c1) x2) (hx : x2.length ≤ 8192) (hat3 : At w b2 off2 (rwCells (y1, y2) A3 c3)) (hbv3 : BsV w F3 (.slice A3 y2.length c3) y2) (hl : ls.length ≤ 100000) (ho : OutX chgN B G w ls) (hB : B ≤ w.heap.size) (hG : B ≤ G) :
    Calls Tryz.prog 187 #[.pointer (some ⟨b2, off2, none⟩), .pointer (some ⟨b, off, none⟩), .pointer (some ⟨G, 0, none⟩)] w fun e w' => (∃ v, e = .returned v) ∧ OutX chgN B G w' (ls ++ putB7 (y1, y2) (x1, x2)) ∧ Below B w w' := by
  have hmix : Tryz.prog.follows .mixedOrders = true := by kernel_rfl
  obtain ⟨v0, hcg, hox⟩ := ho
  have QG := hid (hcg.cell 0 rfl)
  have CG := hid hcg
  have OX := hid hox
  have BW := hid hB
  have BG := hid hG
  have GL := hid hcg.lt
  have OL := hid (fun q e => (hox.lt q e).2)
  clear hcg hox hB hG
  have Q3 := hid (hat3 1 _ rfl)
  have heq := fun u (hu : Below w.heap.size w u) => Equal_any y2 x2 A3 A1 c3 c1 u ((hbv3.at).2.1.below hu) ((hbv.at).2.1.below hu)
  have HEQ := hid heq
  clear heq hat3 hbv3
  have Q1 := hid (hat 0 _ rfl)
  have Q2 := hid (hat 1 _ rfl)
  rw [Nat.add_zero] at Q1
  obtain ⟨hbr, hbn⟩ : Rd w A1 x2 ∧ (A1 = none → x2 = [] ∧ c1 = 0) := by
    obtain ⟨A', c', e, h1, h2, h3⟩ := hbv
    cases e
    exact ⟨h1.rd, h2⟩
  have hcl := fun u (hu : Below w.heap.size w u) => Clone_ty x2 A1 c1 u (by omega) (hbr.below hu) hbn
  have HCL := hid hcl
  clear hcl hbr hbn hbv
  by_cases hv : y2 = x2
  · have e1 : (y2 == x2) = true := by simpa using hv
    have e2 : putB7 (y1, y2) (x1, x2) = [] := if_pos hv
    rw [e2, List.append_nil]
    clear hv e2
    go_enter Tryz.func187, Tryz.ntmps187
    go_wp2_with fail
    refine wp_region_V [] (Below w.heap.size w) hmix ((Below.refl _ _).drew) ?_
    change wpAnyV _ _ _ _ _ _ _ _ _
    refine wpW (i := 0) (v := .pointer (some ⟨b2, off2, none⟩)) (kept_below w) rfl (DR fun w9 hS => by go_simp) ?_
    try simp only [getElem_toArray, getElem_cons_succ, getElem_cons_zero, Act.put, setIfInBounds_toArray, set_cons_succ, set_cons_zero]
    refine wpW (i := 1) (v := .bool false) (kept_below w) rfl (DR fun w9 hS => by go_simp) ?_
    try simp only [getElem_toArray, getElem_cons_succ, getElem_cons_zero, Act.put, setIfInBounds_toArray, set_cons_succ, set_cons_zero]
    refine wpW (i := 2) (v := .bool false) (kept_below w) rfl (DR fun w9 hS => by go_simp) ?_
    try simp only [getElem_toArray, getElem_cons_succ, getElem_cons_zero, Act.put, setIfInBounds_toArray, set_cons_succ, set_cons_zero]
    refine wpW (i := 3) (v := .pointer (some ⟨b2, off2, none⟩)) (kept_below w) rfl (DR fun w9 hS => by go_simp) ?_
    try simp only [getElem_toArray, getElem_cons_succ, getElem_cons_zero, Act.put, setIfInBounds_toArray, set_cons_succ, set_cons_zero]
    refine wpW (i := 4) (v := .pointer (some ⟨b2, off2, none⟩)) (kept_below w) rfl (DR fun w9 hS => by go_simp) ?_
    try simp only [getElem_toArray, getElem_cons_succ, getElem_cons_zero, Act.put, setIfInBounds_toArray, set_cons_succ, set_cons_zero]
    refine wpW (i := 5) (v := .pointer (some ⟨b2, off2 + 1, none⟩)) (kept_below w) rfl (DR fun w9 hS => by go_simp) ?_
    try simp only [getElem_toArray, getElem_cons_succ, getElem_cons_zero, Act.put, setIfInBounds_toArray, set_cons_succ, set_cons_zero]
    refine wpW (i := 6) (v := .slice A3 y2.length c3) (kept_below w) rfl (DR fun w9 hS => by have q9 := (hS.cell (lt_of_cell Q3.out)).trans Q3.out; go_simp) ?_
    try simp only [getElem_toArray, getElem_cons_succ, getElem_cons_zero, Act.put, setIfInBounds_toArray, set_cons_succ, set_cons_zero]
    refine wpW (i := 7) (v := .pointer (some ⟨b, off, none⟩)) (kept_below w) rfl (DR fun w9 hS => by go_simp) ?_
    try simp only [getElem_toArray, getElem_cons_succ, getElem_cons_zero, Act.put, setIfInBounds_toArray, set_cons_succ, set_cons_zero]
    refine wpW (i := 8) (v := .pointer (some ⟨b, off, none⟩)) (kept_below w) rfl (DR fun w9 hS => by go_simp) ?_
    try simp only [getElem_toArray, getElem_cons_succ, getElem_cons_zero, Act.put, setIfInBounds_toArray, set_cons_succ, set_cons_zero]
    refine wpW (i := 9) (v := .pointer (some ⟨b, off + 1, none⟩)) (kept_below w) rfl (DR fun w9 hS => by go_simp) ?_
    try simp only [getElem_toArray, getElem_cons_succ, getElem_cons_zero, Act.put, setIfInBounds_toArray, set_cons_succ, set_cons_zero]
    refine wpW (i := 10) (v := .slice A1 x2.length c1) (kept_below w) rfl (DR fun w9 hS => by have q9 := (hS.cell (lt_of_cell Q2.out)).trans Q2.out; go_simp) ?_
    try simp only [getElem_toArray, getElem_cons_succ, getElem_cons_zero, Act.put, setIfInBounds_toArray, set_cons_succ, set_cons_zero]
    refine wpW (i := 11) (v := .bool (y2 == x2)) (kept_below w) rfl (DoesV.calls 188 #[.slice A3 y2.length c3, .slice A1 x2.length c1] (by rfl) (fun w9 hS => by go_simp) (fun w9 hS => (HEQ.out w9 hS).mono fun e w' h => ⟨h.1, h.2 ▸ Below.refl _ _⟩)) ?_
    try simp only [getElem_toArray, getElem_cons_succ, getElem_cons_zero, Act.put, setIfInBounds_toArray, set_cons_succ, set_cons_zero]
    refine wpW (i := 12) (v := .bool (!(y2 == x2))) (kept_below w) rfl (DR fun w9 hS => by go_simp) ?_
    try simp only [getElem_toArray, getElem_cons_succ, getElem_cons_zero, Act.put, setIfInBounds_toArray, set_cons_succ, set_cons_zero]
    refine wpW (i := 13) (v := .bool (!(y2 == x2))) (kept_below w) rfl (DR fun w9 hS => by go_simp) ?_
    try simp only [getElem_toArray, getElem_cons_succ, getElem_cons_zero, Act.put, setIfInBounds_toArray, set_cons_succ, set_cons_zero]
    refine wpW (i := 14) (v := .bool (!(y2 == x2))) (kept_below w) rfl (DR fun w9 hS => by go_simp) ?_
    try simp only [getElem_toArray, getElem_cons_succ, getElem_cons_zero, Act.put, setIfInBounds_toArray, set_cons_succ, set_cons_zero]
    refine wpAnyV_done (by kernel_rfl) (fun u0 hu => ?_) _
    have HU0 := hid hu
    clear hu
    rw [e1]
    go_wp2_with fail
    go_end0
    exact ⟨⟨_, rfl⟩, ⟨v0, CG.out.below HU0.out CG.out.lt, OX.out.below HU0.out⟩, HU0.out.mono BW.out⟩
  · have e1 : (y2 == x2) = false := by simpa using hv
    have e2 : putB7 (y1, y2) (x1, x2) = [(x1, x2, false)] := if_neg hv
    rw [e2]
    clear hv e2
    go_enter Tryz.func187, Tryz.ntmps187
    go_wp2_with fail
    refine wp_region_V [] (Below w.heap.size w) hmix ((Below.refl _ _).drew) ?_
    change wpAnyV _ _ _ _ _ _ _ _ _
    refine wpW (i := 0) (v := .pointer (some ⟨b2, off2, none⟩)) (kept_below w) rfl (DR fun w9 hS => by go_simp) ?_
    try simp only [getElem_toArray, getElem_cons_succ, getElem_cons_zero, Act.put, setIfInBounds_toArray, set_cons_succ, set_cons_zero]
    refine wpW (i := 1) (v := .bool false) (kept_below w) rfl (DR fun w9 hS => by go_simp) ?_
    try simp only [getElem_toArray, getElem_cons_succ, getElem_cons_zero, Act.put, setIfInBounds_toArray, set_cons_succ, set_cons_zero]
    refine wpW (i := 2) (v := .bool false) (kept_below w) rfl (DR fun w9 hS => by go_simp) ?_
    try simp only [getElem_toArray, getElem_cons_succ, getElem_cons_zero, Act.put, setIfInBounds_toArray, set_cons_succ, set_cons_zero]
    refine wpW (i := 3) (v := .pointer (some ⟨b2, off2, none⟩)) (kept_below w) rfl (DR fun w9 hS => by go_simp) ?_
    try simp only [getElem_toArray, getElem_cons_succ, getElem_cons_zero, Act.put, setIfInBounds_toArray, set_cons_succ, set_cons_zero]
    refine wpW (i := 4) (v := .pointer (some ⟨b2, off2, none⟩)) (kept_below w) rfl (DR fun w9 hS => by go_simp) ?_
    try simp only [getElem_toArray, getElem_cons_succ, getElem_cons_zero, Act.put, setIfInBounds_toArray, set_cons_succ, set_cons_zero]
    refine wpW (i := 5) (v := .pointer (some ⟨b2, off2 + 1, none⟩)) (kept_below w) rfl (DR fun w9 hS => by go_simp) ?_
    try simp only [getElem_toArray, getElem_cons_succ, getElem_cons_zero, Act.put, setIfInBounds_toArray, set_cons_succ, set_cons_zero]
    refine wpW (i := 6) (v := .slice A3 y2.length c3) (kept_below w) rfl (DR fun w9 hS => by have q9 := (hS.cell (lt_of_cell Q3.out)).trans Q3.out; go_simp) ?_
    try simp only [getElem_toArray, getElem_cons_succ, getElem_cons_zero, Act.put, setIfInBounds_toArray, set_cons_succ, set_cons_zero]
    refine wpW (i := 7) (v := .pointer (some ⟨b, off, none⟩)) (kept_below w) rfl (DR fun w9 hS => by go_simp) ?_
    try simp only [getElem_toArray, getElem_cons_succ, getElem_cons_zero, Act.put, setIfInBounds_toArray, set_cons_succ, set_cons_zero]
    refine wpW (i := 8) (v := .pointer (some ⟨b, off, none⟩)) (kept_below w) rfl (DR fun w9 hS => by go_simp) ?_
    try simp only [getElem_toArray, getElem_cons_succ, getElem_cons_zero, Act.put, setIfInBounds_toArray, set_cons_succ, set_cons_zero]
    refine wpW (i := 9) (v := .pointer (some ⟨b, off + 1, none⟩)) (kept_below w) rfl (DR fun w9 hS => by go_simp) ?_
    try simp only [getElem_toArray, getElem_cons_succ, getElem_cons_zero, Act.put, setIfInBounds_toArray, set_cons_succ, set_cons_zero]
    refine wpW (i := 10) (v := .slice A1 x2.length c1) (kept_below w) rfl (DR fun w9 hS => by have q9 := (hS.cell (lt_of_cell Q2.out)).trans Q2.out; go_simp) ?_
    try simp only [getElem_toArray, getElem_cons_succ, getElem_cons_zero, Act.put, setIfInBounds_toArray, set_cons_succ, set_cons_zero]
    refine wpW (i := 11) (v := .bool (y2 == x2)) (kept_below w) rfl (DoesV.calls 188 #[.slice A3 y2.length c3, .slice A1 x2.length c1] (by rfl) (fun w9 hS => by go_simp) (fun w9 hS => (HEQ.out w9 hS).mono fun e w' h => ⟨h.1, h.2 ▸ Below.refl _ _⟩)) ?_
    try simp only [getElem_toArray, getElem_cons_succ, getElem_cons_zero, Act.put, setIfInBounds_toArray, set_cons_succ, set_cons_zero]
    refine wpW (i := 12) (v := .bool (!(y2 == x2))) (kept_below w) rfl (DR fun w9 hS => by go_simp) ?_
    try simp only [getElem_toArray, getElem_cons_succ, getElem_cons_zero, Act.put, setIfInBounds_toArray, set_cons_succ, set_cons_zero]
    refine wpW (i := 13) (v := .bool (!(y2 == x2))) (kept_below w) rfl (DR fun w9 hS => by go_simp) ?_
    try simp only [getElem_toArray, getElem_cons_succ, getElem_cons_zero, Act.put, setIfInBounds_toArray, set_cons_succ, set_cons_zero]
    refine wpW (i := 14) (v := .bool (!(y2 == x2))) (kept_below w) rfl (DR fun w9 hS => by go_simp) ?_
    try simp only [getElem_toArray, getElem_cons_succ, getElem_cons_zero, Act.put, setIfInBounds_toArray, set_cons_succ, set_cons_zero]
    refine wpAnyV_done (by kernel_rfl) (fun u0 hu => ?_) _
    have HU0 := hid hu
    clear hu
    rw [e1]
    go_wp2_with fail
    refine wp_region_V [12, 13] (Below w.heap.size w) hmix (HU0.out.drew) ?_
    change wpAnyV _ _ _ _ _ _ _ _ _
    refine wpW (i := 0) (v := v0) (kept_below w) rfl (DR fun w9 hS => by have q9 := (hS.cell (lt_of_cell QG.out)).trans QG.out; go_simp) ?_
    try simp only [getElem_toArray, getElem_cons_succ, getElem_cons_zero, Act.put, setIfInBounds_toArray, set_cons_succ, set_cons_zero]
    refine wpW (i := 1) (v := .pointer (some ⟨b, off, none⟩)) (kept_below w) rfl (DR fun w9 hS => by go_simp) ?_
    try simp only [getElem_toArray, getElem_cons_succ, getElem_cons_zero, Act.put, setIfInBounds_toArray, set_cons_succ, set_cons_zero]
    refine wpW (i := 2) (v := .pointer (some ⟨b, off, none⟩)) (kept_below w) rfl (DR fun w9 hS => by go_simp) ?_
    try simp only [getElem_toArray, getElem_cons_succ, getElem_cons_zero, Act.put, setIfInBounds_toArray, set_cons_succ, set_cons_zero]
    refine wpW (i := 3) (v := .pointer (some ⟨b, off, none⟩)) (kept_below w) rfl (DR fun w9 hS => by go_simp) ?_
    try simp only [getElem_toArray, getElem_cons_succ, getElem_cons_zero, Act.put, setIfInBounds_toArray, set_cons_succ, set_cons_zero]
    refine wpW (i := 4) (v := .string ⟨x1.toArray⟩) (kept_below w) rfl (DR fun w9 hS => by have q9 := (hS.cell (lt_of_cell Q1.out)).trans Q1.out; go_simp) ?_
    try simp only [getElem_toArray, getElem_cons_succ, getElem_cons_zero, Act.put, setIfInBounds_toArray, set_cons_succ, set_cons_zero]
    refine wpW (i := 5) (v := .pointer (some ⟨b, off, none⟩)) (kept_below w) rfl (DR fun w9 hS => by go_simp) ?_
    try simp only [getElem_toArray, getElem_cons_succ, getElem_cons_zero, Act.put, setIfInBounds_toArray, set_cons_succ, set_cons_zero]
    refine wpW (i := 6) (v := .pointer (some ⟨b, off, none⟩)) (kept_below w) rfl (DR fun w9 hS => by go_simp) ?_
    try simp only [getElem_toArray, getElem_cons_succ, getElem_cons_zero, Act.put, setIfInBounds_toArray, set_cons_succ, set_cons_zero]
    refine wpW (i := 7) (v := .pointer (some ⟨b, off + 1, none⟩)) (kept_below w) rfl (DR fun w9 hS => by go_simp) ?_
    try simp only [getElem_toArray, getElem_cons_succ, getElem_cons_zero, Act.put, setIfInBounds_toArray, set_cons_succ, set_cons_zero]
    refine wpW (i := 8) (v := .slice A1 x2.length c1) (kept_below w) rfl (DR fun w9 hS => by have q9 := (hS.cell (lt_of_cell Q2.out)).trans Q2.out; go_simp) ?_
    try simp only [getElem_toArray, getElem_cons_succ, getElem_cons_zero, Act.put, setIfInBounds_toArray, set_cons_succ, set_cons_zero]
    refine wpAnyV_only (i := 9) rfl (by kernel_rfl) rfl (fun u hS => wp_of_call (by go_simp) (HCL.out u hS) fun e u' ⟨v1, he, hv, hty, hk, hb⟩ => ⟨v1, he, (fun y => Below w.heap.size w y ∧ NewV y (w.heap.size ≤ ·) v1 x2), ⟨below_chain hS hb, (newV_of hv hty hk).mono fun q _ h => Nat.le_trans hS.size h⟩, kept_and (kept_below w) (kept_newV _ _ _), fun _ y h => h.1, ?_⟩)
    try simp only [getElem_toArray, getElem_cons_succ, getElem_cons_zero, Act.put, setIfInBounds_toArray, set_cons_succ, set_cons_zero]
    obtain ⟨A2, c2, hv2, -⟩ := id hv
    subst hv2
    refine wpAnyV_pure (i := 10) (v := .agg #[.string ⟨x1.toArray⟩, .slice A2 x2.length c2, .bool false]) (kept_and (kept_below w) (kept_newV _ _ _)) rfl (by kernel_rfl) (by kernel_rfl) (fun _ _ _ h => h) (DR fun w9 hS => by go_simp) ?_
    try simp only [getElem_toArray, getElem_cons_succ, getElem_cons_zero, Act.put, setIfInBounds_toArray, set_cons_succ, set_cons_zero]
    refine wpAnyV_only (i := 11) rfl (by kernel_rfl) rfl (fun y hy => wp_buildC _ rfl (x1, x2, false) A2 c2 _ rfl rfl fun g8 y' hk hb hg => ⟨(fun y => (Below w.heap.size w y ∧ NewV y (w.heap.size ≤ ·) (.slice A2 x2.length c2) x2) ∧ Cs y g8 73 (chCells (x1, x2, false) A2 c2).toArray), ⟨⟨below_chain hy.1 hb, hy.2.below hb⟩, hk⟩, kept_and (kept_and (kept_below w) (kept_newV _ _ _)) (kept_cs _ _ _), fun _ y h => h.1, ?_⟩)
    try simp only [getElem_toArray, getElem_cons_succ, getElem_cons_zero, Act.put, setIfInBounds_toArray, set_cons_succ, set_cons_zero]
    refine wpAnyV_only (i := 12) rfl (by kernel_rfl) rfl (fun y hy => wp_append_x1 (E := chgN) _ _ rfl B (fun k => B ≤ k ∧ k ≠ G) v0 ls rfl (OX.out.below hy.1.1) g8 1 rfl (chCells (x1, x2, false) A2 c2) (x1, x2, false) ⟨_, rfl, hy.1.2.mono fun q _ hq => ⟨⟨Nat.le_trans BW.out hq, fun e => absurd (e ▸ hq) (Nat.not_le.2 GL.out)⟩, fun e => absurd hq (Nat.not_le.2 (OL.out q e))⟩⟩ 73 hy.2 (by omega) (Nat.le_trans BW.out hy.1.1.size) ⟨Nat.le_trans BW.out hy.1.1.size, fun e => absurd GL.out (Nat.not_lt.2 (e ▸ hy.1.1.size))⟩ fun v3 y' ho3 hg3 => ⟨(fun y => Below B w y ∧ OwnX chgN y B (fun k => B ≤ k ∧ k ≠ G) v3 (ls ++ [(x1, x2, false)]) ∧ Cs y G 43 #[v0]), ⟨(hy.1.1.mono BW.out).grown hg3 (Nat.le_trans BW.out hy.1.1.size) (fun q e => (OX.out.lt q e).1), ho3, (CG.out.below hy.1.1 CG.out.lt).turn (Turn.of_grown hg3) (fun e => (OX.out.sub _ e).2 rfl)⟩, kept_and (kept_belowB BW.out) (kept_and (kept_ownX _ _ _ _) (kept_cs _ _ _)), fun h => absurd (by simp) h, ?_⟩)
    try simp only [getElem_toArray, getElem_cons_succ, getElem_cons_zero, Act.put, setIfInBounds_toArray, set_cons_succ, set_cons_zero]
    refine wpAnyV_only (i := 13) rfl (by kernel_rfl) rfl (fun y hy => wp_store1 43 _ _ rfl G 0 rfl v3 rfl hy.2.1.one (by kernel_rfl) 43 _ hy.2.2 (by simp) fun y' hk ht => ⟨(fun y => Below B w y ∧ OutX chgN B G y (ls ++ [(x1, x2, false)])), ⟨hy.1.trans (ht.below (Nat.le_trans BW.out hy.1.size) fun q e => e ▸ BG.out), ⟨v3, hk, hy.2.1.turn ht fun q hq e => hq.2 e⟩⟩, kept_and (kept_belowB BW.out) (kept_outX _ _ _ _), fun h => absurd (by simp) h, ?_⟩)
    try simp only [getElem_toArray, getElem_cons_succ, getElem_cons_zero, Act.put, setIfInBounds_toArray, set_cons_succ, set_cons_zero]
    refine wpAnyV_done (by kernel_rfl) (fun u hu => ?_) _
    have HU := hid hu
    clear hu
    go_wp2_with fail
    go_end0
    exact ⟨⟨_, rfl⟩, HU.out.2, HU.out.1⟩
end Go.Proofs.YtfgbpinfplllgaaGreatDoor
namespace Go.Proofs.YtfgbpinfplllgaaGreatDoor
open Go.RowKit Go.Shelf
set_option maxRecDepth 100000
theorem mA_nil : mergeA [] [] = [] := by simp [mergeA]
theorem mA_row (x : Rw) (t : List Rw) : mergeA (x :: t) [] = x :: mergeA t [] := by rw [mergeA]
theorem mA_chg (c : Ch) (l : List Ch) : mergeA [] (c :: l) = putA c ++ mergeA [] l := by rw [mergeA]
theorem mA_lt {x : Rw} {c : Ch} (t : List Rw) (l : List Ch) (h : lessK x.1 c.1 = true) : mergeA (x :: t) (c :: l) = x :: mergeA t (c :: l) := by rw [mergeA, if_pos h]
theorem mA_gt {x : Rw} {c : Ch} (t : List Rw) (l : List Ch) (h : lessK x.1 c.1 = false) (k : lessK c.1 x.1 = true) : mergeA (x :: t) (c :: l) = putA c ++ mergeA (x :: t) l := by rw [mergeA, if_neg (by simp [h]), if_pos k]
theorem mA_eq {x : Rw} {c : Ch} (t : List Rw) (l : List Ch) (h : lessK x.1 c.1 = false) (k : lessK c.1 x.1 = false) : mergeA (x :: t) (c :: l) = putA c ++ mergeA t l := by rw [mergeA, if_neg (by simp [h]), if_neg (by simp [k])]
theorem mB_nil : mergeB [] [] = [] := by simp [mergeB]
theorem mB_row (x : Rw) (t : List Rw) : mergeB (x :: t) [] = (x.1, [], true) :: mergeB t [] := by rw [mergeB]
theorem mB_chg (c : Rw) (l : List Rw) : mergeB [] (c :: l) = (c.1, c.2, false) :: mergeB [] l := by rw [mergeB]
theorem mB_lt {x : Rw} {c : Rw} (t : List Rw) (l : List Rw) (h : lessK x.1 c.1 = true) : mergeB (x :: t) (c :: l) = (x.1, [], true) :: mergeB t (c :: l) := by rw [mergeB, if_pos h]
theorem mB_gt {x : Rw} {c : Rw} (t : List Rw) (l : List Rw) (h : lessK x.1 c.1 = false) (k : lessK c.1 x.1 = true) : mergeB (x :: t) (c :: l) = (c.1, c.2, false) :: mergeB (x :: t) l := by rw [mergeB, if_neg (by simp [h]), if_pos k]
theorem mB_eq {x : Rw} {c : Rw} (t : List Rw) (l : List Rw) (h : lessK x.1 c.1 = false) (k : lessK c.1 x.1 = false) : mergeB (x :: t) (c :: l) = putB7 x c ++ mergeB t l := by rw [mergeB, if_neg (by simp [h]), if_neg (by simp [k])]
theorem putB7_len (x y : Rw) : (putB7 x y).length ≤ 1 := by unfold putB7; split <;> simp
theorem row_first {w w' : World} {F : Nat → Prop} {A : Option Addr} {x1 x2 : List UInt8} {ls : List Rw} (h : RdX rowE w F A ((x1, x2) :: ls)) (hb : Below w.heap.size w w') : ∃ b off A' c, A = some ⟨b, off, none⟩ ∧ At w' b off (rwCells (x1, x2) A' c) ∧ BsV w' F (.slice A' x2.length c) x2 := by
  obtain ⟨b, off, A', c, e, hat, hbv⟩ := row_rd (h.below hb) 0 (by simp)
  simp only [Nat.zero_mul, Nat.add_zero, getElem_cons_zero] at hat hbv
  exact ⟨b, off, A', c, e, hat, hbv⟩
theorem chg_first {w w' : World} {F : Nat → Prop} {A : Option Addr} {x1 x2 : List UInt8} {z : Bool} {ls : List Ch} (h : RdX chgE w F A ((x1, x2, z) :: ls)) (hb : Below w.heap.size w w') : ∃ b off A' c, A = some ⟨b, off, none⟩ ∧ At w' b off (chCells (x1, x2, z) A' c) ∧ BsV w' F (.slice A' x2.length c) x2 := by
  obtain ⟨b, off, A', c, e, hat, hbv⟩ := chg_rd (h.below hb) 0 (by simp)
  simp only [Nat.zero_mul, Nat.add_zero, getElem_cons_zero] at hat hbv
  exact ⟨b, off, A', c, e, hat, A', c, rfl, hbv⟩
theorem At.below {w w' : World} {b off : Nat} {cs : List Value} (h : At w b off cs) (hb : Below w.heap.size w w') : At w' b off cs := fun j v hv => (hb.cell (lt_of_cell (h j v hv))).trans (h j v hv)
def lens2 (a b : Value) : Nat := match a, b with
  | .slice _ n _, .slice _ m _ => n + m
  | _, _ => 0
set_option maxHeartbeats 8000000 in
theorem side_apply (t : List Rw) (l : List Ch) (A B : Option Addr) (ca cb : Nat) (F F' : Nat → Prop) (G : Nat) (w0 w : World) (ht : ∀ x ∈ t, x.2.length ≤ 8192) (hl : ∀ x ∈ l, x.2.1.length ≤ 8192) (hlen : t.length + l.length ≤ 100000) (hca : t.length ≤ ca) (hcb : l.length ≤ cb) (hr : RdX rowE w0 F A t) (hc : RdX chgE w0 F' B l) (hb : Below w0.heap.size w0 w) (hG : w0.heap.size ≤ G) (ho : OutX rowN w0.heap.size G w []) :
    Calls Tryz.prog 122 #[.slice A t.length ca, .slice B l.length cb, .func (.func 123) #[] #[], .func (.func 93) #[] #[], .func (.func 124) #[] #[.pointer (some ⟨G, 0, none⟩)]] w fun e w' => (∃ v, e = .returned v) ∧ OutX rowN w0.heap.size G w' (mergeA t l) ∧ Below w0.heap.size w0 w' := by
  have hmix : Tryz.prog.follows .mixedOrders = true := by kernel_rfl
  have H0 := hid (And.intro (And.intro ht hl) (And.intro hr hc))
  have HL := hid (And.intro hlen (And.intro hca hcb))
  have HB := hid hb
  have HG := hid hG
  have HO := hid ho
  clear ht hl hlen hca hcb hr hc hb hG ho
  go_enter Tryz.func122, Tryz.ntmps122
  go_wp2_with fail
  go_loopw [0, 1] (fun s0 s1 wr => ∃ (A' B' : Option Addr) (ca' cb' : Nat) (t' : List Rw) (l' : List Ch) (done : List Rw), s0 = .slice A' t'.length ca' ∧ s1 = .slice B' l'.length cb' ∧ (((∀ x ∈ t', x.2.length ≤ 8192) ∧ ∀ x ∈ l', x.2.1.length ≤ 8192) ∧ RdX rowE w0 F A' t' ∧ RdX chgE w0 F' B' l') ∧ (done.length + (t'.length + l'.length) ≤ 100000 ∧ t'.length ≤ ca' ∧ l'.length ≤ cb') ∧ done ++ mergeA t' l' = mergeA t l ∧ OutX rowN w0.heap.size G wr done ∧ Below w0.heap.size w0 wr) (fun s0 s1 _ => lens2 s0 s1)
  case atStart => exact ⟨A, B, ca, cb, t, l, [], rfl, rfl, H0.out, ⟨by have := HL.out.1; simpa using this, HL.out.2⟩, rfl, HO.out, HB.out⟩
  case round =>
    obtain ⟨A', B', ca', cb', t', l', done, rfl, rfl, h0, hlen, hE, ho, hb⟩ := hrel
    have H := hid h0
    have HL := hid hlen
    have HE := hid hE
    have HO := hid ho
    have HB := hid hb
    have hts : t'.length ≤ 100000 := by omega
    have hls : l'.length ≤ 100000 := by omega
    clear h0 hlen hE ho hb
    rcases t' with _ | ⟨⟨x1, x2⟩, t2⟩
    · rcases l' with _ | ⟨⟨y1, y2, z⟩, l2⟩
      · go_wp2_with fail
        go_end0
        have hE := HE.out
        rw [mA_nil, List.append_nil] at hE
        rw [← hE]
        exact ⟨⟨_, rfl⟩, HO.out, HB.out⟩
      · skip
        obtain ⟨b2, off2, A3, c3, rfl, hat2, hbv2⟩ := chg_first H.out.2.2 HB.out
        obtain ⟨o2, hsl2, ho2⟩ := slC_1 b2 off2 (l2.length + 1) cb' (by omega) (by have := HL.out.2.2; simpa using this)
        rw [Nat.add_sub_cancel] at hsl2
        have SL2 := hid hsl2
        have TL2 := hid (rdx_tail H.out.2.2 HL.out.2.2 ho2)
        have AT2 := hid hat2
        have BV2 := hid hbv2
        clear hsl2 ho2 hat2 hbv2
        have p2 : (0 : Int) < (l2.length : Int) + 1 := by omega
        have p2' : (0 : Int) < ((l2.length + 1 : Nat) : Int) := by omega
        have n2 : ((l2.length : Int) + 1 == 0) = false := by rw [beq_eq_false_iff_ne]; omega
        have n2' : (((l2.length + 1 : Nat) : Int) == 0) = false := by rw [beq_eq_false_iff_ne]; omega
        simp only [List.length_cons] at hls
        have s2 : (l2.length : Int) + 1 ≤ 100000 := by omega
        go_wp2_with fail
        refine wp_region_V [] (Below wr.heap.size wr) hmix ((Below.refl _ _).drew) ?_
        change wpAnyV _ _ _ _ _ _ _ _ _
        refine wpW (i := 0) (v := .slice (some ⟨b2, off2, none⟩) (l2.length + 1) cb') (kept_below wr) rfl (DR fun w9 hS => by go_simp) ?_
        try simp only [getElem_toArray, getElem_cons_succ, getElem_cons_zero, Act.put, setIfInBounds_toArray, set_cons_succ, set_cons_zero]
        refine wpW (i := 1) (v := .pointer (some ⟨b2, off2, none⟩)) (kept_below wr) rfl (DR fun w9 hS => by go_simp) ?_
        try simp only [getElem_toArray, getElem_cons_succ, getElem_cons_zero, Act.put, setIfInBounds_toArray, set_cons_succ, set_cons_zero]
        refine wpW (i := 2) (v := .slice (some ⟨b2, off2, none⟩) (l2.length + 1) cb') (kept_below wr) rfl (DR fun w9 hS => by go_simp) ?_
        try simp only [getElem_toArray, getElem_cons_succ, getElem_cons_zero, Act.put, setIfInBounds_toArray, set_cons_succ, set_cons_zero]
        refine wpW (i := 3) (v := .slice (some ⟨b2, o2, none⟩) l2.length (cb' - 1)) (kept_below wr) rfl (DR fun w9 hS => by have h9 := SL2.out w9; go_simp) ?_
        try simp only [getElem_toArray, getElem_cons_succ, getElem_cons_zero, Act.put, setIfInBounds_toArray, set_cons_succ, set_cons_zero]
        refine wpW (i := 4) (v := .pointer (some ⟨b2, off2, none⟩)) (kept_below wr) rfl (DR fun w9 hS => by go_simp) ?_
        try simp only [getElem_toArray, getElem_cons_succ, getElem_cons_zero, Act.put, setIfInBounds_toArray, set_cons_succ, set_cons_zero]
        refine wpW (i := 5) (v := .slice (some ⟨b2, o2, none⟩) l2.length (cb' - 1)) (kept_below wr) rfl (DR fun w9 hS => by go_simp) ?_
        try simp only [getElem_toArray, getElem_cons_succ, getElem_cons_zero, Act.put, setIfInBounds_toArray, set_cons_succ, set_cons_zero]
        refine wpAnyV_done (by kernel_rfl) (fun u1 hu => ?_) _
        have Bu1 := hid hu
        clear hu
        go_wp2_with fail
        rcases z with _ | _
        · have EQ := hid (show (done ++ [(y1, y2)]) ++ _ = mergeA t l from by rw [← HE.out, mA_chg, List.append_assoc]; first | done | rfl)
          refine (apply1_put (.pointer none) y1 y2 b2 off2 A3 c3 F' w0.heap.size G u1 done (AT2.out.below Bu1.out) (BV2.out.below Bu1.out) (H.out.1.2 (y1, y2, false) (by simp)) (by have := HL.out.1; omega) (HO.out.below Bu1.out) (Nat.le_trans HB.out.size Bu1.out.size) HG.out).mono ?_
          rintro e w5 ⟨⟨v5, rfl⟩, ho5, hb5⟩
          have O5 := hid ho5
          have B5 := hid ((HB.out.trans (Bu1.out.mono HB.out.size)).trans hb5)
          clear ho5 hb5
          go_wp2_with fail
          go_roundw
          case rel => exact ⟨A', some ⟨b2, o2, none⟩, ca', cb' - 1, [], l2, done ++ [(y1, y2)], rfl, rfl, ⟨⟨H.out.1.1, fun x hx => H.out.1.2 x (by simp [hx])⟩, H.out.2.1, TL2.out⟩, ⟨by have h1 := HL.out.1;  simp only [List.length_append, List.length_cons, List.length_nil] at h1 ⊢; omega, by have h1 := HL.out.2.1; simp only [List.length_cons, List.length_nil] at h1 ⊢; omega, by have h1 := HL.out.2.2; simp only [List.length_cons, List.length_nil] at h1 ⊢; omega⟩, EQ.out, O5.out, B5.out⟩
          case measure => simp [lens2] <;> omega
        · have EQ := hid (show done ++ _ = mergeA t l from by rw [← HE.out, mA_chg]; first | done | rfl)
          refine (apply1_gone (.pointer none) y1 y2 b2 off2 A3 c3 w0.heap.size G u1 done (AT2.out.below Bu1.out) (by have := HL.out.1; omega) (HO.out.below Bu1.out) (Nat.le_trans HB.out.size Bu1.out.size) HG.out).mono ?_
          rintro e w5 ⟨⟨v5, rfl⟩, ho5, hb5⟩
          have O5 := hid ho5
          have B5 := hid ((HB.out.trans (Bu1.out.mono HB.out.size)).trans hb5)
          clear ho5 hb5
          go_wp2_with fail
          go_roundw
          case rel => exact ⟨A', some ⟨b2, o2, none⟩, ca', cb' - 1, [], l2, done, rfl, rfl, ⟨⟨H.out.1.1, fun x hx => H.out.1.2 x (by simp [hx])⟩, H.out.2.1, TL2.out⟩, ⟨by have h1 := HL.out.1;  simp only [List.length_append, List.length_cons, List.length_nil] at h1 ⊢; omega, by have h1 := HL.out.2.1; simp only [List.length_cons, List.length_nil] at h1 ⊢; omega, by have h1 := HL.out.2.2; simp only [List.length_cons, List.length_nil] at h1 ⊢; omega⟩, EQ.out, O5.out, B5.out⟩
          case measure => simp [lens2] <;> omega
    · rcases l' with _ | ⟨⟨y1, y2, z⟩, l2⟩
      · skip
        obtain ⟨b, off, A1, c1, rfl, hat1, hbv1⟩ := row_first H.out.2.1 HB.out
        obtain ⟨o1, hsl1, ho1⟩ := slR_1 b off (t2.length + 1) ca' (by omega) (by have := HL.out.2.1; simpa using this)
        rw [Nat.add_sub_cancel] at hsl1
        have SL1 := hid hsl1
        have TL1 := hid (rdx_tail H.out.2.1 HL.out.2.1 ho1)
        have AT1 := hid hat1
        have BV1 := hid hbv1
        clear hsl1 ho1 hat1 hbv1
        have p1 : (0 : Int) < (t2.length : Int) + 1 := by omega
        have p1' : (0 : Int) < ((t2.length + 1 : Nat) : Int) := by omega
        have n1 : ((t2.length : Int) + 1 == 0) = false := by rw [beq_eq_false_iff_ne]; omega
        have n1' : (((t2.length + 1 : Nat) : Int) == 0) = false := by rw [beq_eq_false_iff_ne]; omega
        simp only [List.length_cons] at hts
        have s1 : (t2.length : Int) + 1 ≤ 100000 := by omega
        go_wp2_with fail
        refine wp_region_V [] (Below wr.heap.size wr) hmix ((Below.refl _ _).drew) ?_
        change wpAnyV _ _ _ _ _ _ _ _ _
        refine wpW (i := 0) (v := .slice (some ⟨b, off, none⟩) (t2.length + 1) ca') (kept_below wr) rfl (DR fun w9 hS => by go_simp) ?_
        try simp only [getElem_toArray, getElem_cons_succ, getElem_cons_zero, Act.put, setIfInBounds_toArray, set_cons_succ, set_cons_zero]
        refine wpW (i := 1) (v := .pointer (some ⟨b, off, none⟩)) (kept_below wr) rfl (DR fun w9 hS => by go_simp) ?_
        try simp only [getElem_toArray, getElem_cons_succ, getElem_cons_zero, Act.put, setIfInBounds_toArray, set_cons_succ, set_cons_zero]
        refine wpW (i := 2) (v := .slice (some ⟨b, off, none⟩) (t2.length + 1) ca') (kept_below wr) rfl (DR fun w9 hS => by go_simp) ?_
        try simp only [getElem_toArray, getElem_cons_succ, getElem_cons_zero, Act.put, setIfInBounds_toArray, set_cons_succ, set_cons_zero]
        refine wpW (i := 3) (v := .slice (some ⟨b, o1, none⟩) t2.length (ca' - 1)) (kept_below wr) rfl (DR fun w9 hS => by have h9 := SL1.out w9; go_simp) ?_
        try simp only [getElem_toArray, getElem_cons_succ, getElem_cons_zero, Act.put, setIfInBounds_toArray, set_cons_succ, set_cons_zero]
        refine wpW (i := 4) (v := .pointer (some ⟨b, off, none⟩)) (kept_below wr) rfl (DR fun w9 hS => by go_simp) ?_
        try simp only [getElem_toArray, getElem_cons_succ, getElem_cons_zero, Act.put, setIfInBounds_toArray, set_cons_succ, set_cons_zero]
        refine wpW (i := 5) (v := .slice (some ⟨b, o1, none⟩) t2.length (ca' - 1)) (kept_below wr) rfl (DR fun w9 hS => by go_simp) ?_
        try simp only [getElem_toArray, getElem_cons_succ, getElem_cons_zero, Act.put, setIfInBounds_toArray, set_cons_succ, set_cons_zero]
        refine wpAnyV_done (by kernel_rfl) (fun u1 hu => ?_) _
        have Bu1 := hid hu
        clear hu
        go_wp2_with fail
        have EQ := hid (show (done ++ [(x1, x2)]) ++ _ = mergeA t l from by rw [← HE.out, mA_row, List.append_assoc]; first | done | rfl)
        refine (apply1_row x1 x2 b off A1 c1 F w0.heap.size G u1 done (AT1.out.below Bu1.out) (BV1.out.below Bu1.out) (H.out.1.1 (x1, x2) (by simp)) (by have := HL.out.1; omega) (HO.out.below Bu1.out) (Nat.le_trans HB.out.size Bu1.out.size) HG.out).mono ?_
        rintro e w5 ⟨⟨v5, rfl⟩, ho5, hb5⟩
        have O5 := hid ho5
        have B5 := hid ((HB.out.trans (Bu1.out.mono HB.out.size)).trans hb5)
        clear ho5 hb5
        go_wp2_with fail
        go_roundw
        case rel => exact ⟨some ⟨b, o1, none⟩, B', ca' - 1, cb', t2, [], done ++ [(x1, x2)], rfl, rfl, ⟨⟨fun x hx => H.out.1.1 x (by simp [hx]), H.out.1.2⟩, TL1.out, H.out.2.2⟩, ⟨by have h1 := HL.out.1;  simp only [List.length_append, List.length_cons, List.length_nil] at h1 ⊢; omega, by have h1 := HL.out.2.1; simp only [List.length_cons, List.length_nil] at h1 ⊢; omega, by have h1 := HL.out.2.2; simp only [List.length_cons, List.length_nil] at h1 ⊢; omega⟩, EQ.out, O5.out, B5.out⟩
        case measure => simp [lens2] <;> omega
      · skip
        obtain ⟨b, off, A1, c1, rfl, hat1, hbv1⟩ := row_first H.out.2.1 HB.out
        obtain ⟨o1, hsl1, ho1⟩ := slR_1 b off (t2.length + 1) ca' (by omega) (by have := HL.out.2.1; simpa using this)
        rw [Nat.add_sub_cancel] at hsl1
        have SL1 := hid hsl1
        have TL1 := hid (rdx_tail H.out.2.1 HL.out.2.1 ho1)
        have AT1 := hid hat1
        have BV1 := hid hbv1
        clear hsl1 ho1 hat1 hbv1
        have p1 : (0 : Int) < (t2.length : Int) + 1 := by omega
        have p1' : (0 : Int) < ((t2.length + 1 : Nat) : Int) := by omega
        have n1 : ((t2.length : Int) + 1 == 0) = false := by rw [beq_eq_false_iff_ne]; omega
        have n1' : (((t2.length + 1 : Nat) : Int) == 0) = false := by rw [beq_eq_false_iff_ne]; omega
        simp only [List.length_cons] at hts
        have s1 : (t2.length : Int) + 1 ≤ 100000 := by omega
        obtain ⟨b2, off2, A3, c3, rfl, hat2, hbv2⟩ := chg_first H.out.2.2 HB.out
        obtain ⟨o2, hsl2, ho2⟩ := slC_1 b2 off2 (l2.length + 1) cb' (by omega) (by have := HL.out.2.2; simpa using this)
        rw [Nat.add_sub_cancel] at hsl2
        have SL2 := hid hsl2
        have TL2 := hid (rdx_tail H.out.2.2 HL.out.2.2 ho2)
        have AT2 := hid hat2
        have BV2 := hid hbv2
        clear hsl2 ho2 hat2 hbv2
        have p2 : (0 : Int) < (l2.length : Int) + 1 := by omega
        have p2' : (0 : Int) < ((l2.length + 1 : Nat) : Int) := by omega
        have n2 : ((l2.length : Int) + 1 == 0) = false := by rw [beq_eq_false_iff_ne]; omega
        have n2' : (((l2.length + 1 : Nat) : Int) == 0) = false := by rw [beq_eq_false_iff_ne]; omega
        simp only [List.length_cons] at hls
        have s2 : (l2.length : Int) + 1 ≤ 100000 := by omega
        have hlb := less_bytes
        go_wp2_with fail
        refine wp_region_V [] (Below wr.heap.size wr) hmix ((Below.refl _ _).drew) ?_
        change wpAnyV _ _ _ _ _ _ _ _ _
        refine wpW (i := 0) (v := .func (.func 123) #[] #[]) (kept_below wr) rfl (DR fun w9 hS => by go_simp) ?_
        try simp only [getElem_toArray, getElem_cons_succ, getElem_cons_zero, Act.put, setIfInBounds_toArray, set_cons_succ, set_cons_zero]
        refine wpW (i := 1) (v := .slice (some ⟨b, off, none⟩) (t2.length + 1) ca') (kept_below wr) rfl (DR fun w9 hS => by go_simp) ?_
        try simp only [getElem_toArray, getElem_cons_succ, getElem_cons_zero, Act.put, setIfInBounds_toArray, set_cons_succ, set_cons_zero]
        refine wpW (i := 2) (v := .pointer (some ⟨b, off, none⟩)) (kept_below wr) rfl (DR fun w9 hS => by go_simp) ?_
        try simp only [getElem_toArray, getElem_cons_succ, getElem_cons_zero, Act.put, setIfInBounds_toArray, set_cons_succ, set_cons_zero]
        refine wpW (i := 3) (v := .agg (rwCells (x1, x2) A1 c1).toArray) (kept_below wr) rfl (DoesV.loadS (by rfl) 78 _ rfl b off rfl (rwCells (x1, x2) A1 c1) (fun w9 hS => AT1.out.below hS) _ Tryz.underlying78 rfl (infoRw (x1, x2) A1 c1)) ?_
        try simp only [getElem_toArray, getElem_cons_succ, getElem_cons_zero, Act.put, setIfInBounds_toArray, set_cons_succ, set_cons_zero]
        refine wpW (i := 4) (v := .string ⟨x1.toArray⟩) (kept_below wr) rfl (DoesV.calls 123 #[.agg (rwCells (x1, x2) A1 c1).toArray] (by rfl) (fun w9 hS => by go_simp) (fun w9 hS => keyOfRow_any (x1, x2) A1 c1 w9)) ?_
        try simp only [getElem_toArray, getElem_cons_succ, getElem_cons_zero, Act.put, setIfInBounds_toArray, set_cons_succ, set_cons_zero]
        refine wpW (i := 5) (v := .func (.func 93) #[] #[]) (kept_below wr) rfl (DR fun w9 hS => by go_simp) ?_
        try simp only [getElem_toArray, getElem_cons_succ, getElem_cons_zero, Act.put, setIfInBounds_toArray, set_cons_succ, set_cons_zero]
        refine wpW (i := 6) (v := .slice (some ⟨b2, off2, none⟩) (l2.length + 1) cb') (kept_below wr) rfl (DR fun w9 hS => by go_simp) ?_
        try simp only [getElem_toArray, getElem_cons_succ, getElem_cons_zero, Act.put, setIfInBounds_toArray, set_cons_succ, set_cons_zero]
        refine wpW (i := 7) (v := .pointer (some ⟨b2, off2, none⟩)) (kept_below wr) rfl (DR fun w9 hS => by go_simp) ?_
        try simp only [getElem_toArray, getElem_cons_succ, getElem_cons_zero, Act.put, setIfInBounds_toArray, set_cons_succ, set_cons_zero]
        refine wpW (i := 8) (v := .agg (chCells (y1, y2, z) A3 c3).toArray) (kept_below wr) rfl (DoesV.loadS (by rfl) 73 _ rfl b2 off2 rfl (chCells (y1, y2, z) A3 c3) (fun w9 hS => AT2.out.below hS) _ Tryz.underlying73 rfl (infoCh (y1, y2, z) A3 c3)) ?_
        try simp only [getElem_toArray, getElem_cons_succ, getElem_cons_zero, Act.put, setIfInBounds_toArray, set_cons_succ, set_cons_zero]
        refine wpW (i := 9) (v := .string ⟨y1.toArray⟩) (kept_below wr) rfl (DoesV.calls 93 #[.agg (chCells (y1, y2, z) A3 c3).toArray] (by rfl) (fun w9 hS => by go_simp) (fun w9 hS => keyOfChange_any (y1, y2, z) A3 c3 w9)) ?_
        try simp only [getElem_toArray, getElem_cons_succ, getElem_cons_zero, Act.put, setIfInBounds_toArray, set_cons_succ, set_cons_zero]
        refine wpW (i := 10) (v := .int .i64 (cmpK x1 y1)) (kept_below wr) rfl (DoesV.calls 153 #[.string ⟨x1.toArray⟩, .string ⟨y1.toArray⟩] (by rfl) (fun w9 hS => by go_simp) (fun w9 hS => (Compare_any x1 y1 w9).mono fun e w' h => ⟨h.1, h.2 ▸ Below.refl _ _⟩)) ?_
        try simp only [getElem_toArray, getElem_cons_succ, getElem_cons_zero, Act.put, setIfInBounds_toArray, set_cons_succ, set_cons_zero]
        refine wpW (i := 11) (v := .int .i64 (cmpK x1 y1)) (kept_below wr) rfl (DR fun w9 hS => by go_simp) ?_
        try simp only [getElem_toArray, getElem_cons_succ, getElem_cons_zero, Act.put, setIfInBounds_toArray, set_cons_succ, set_cons_zero]
        refine wpAnyV_done (by kernel_rfl) (fun u1 hu => ?_) _
        have Bu1 := hid hu
        clear hu
        cases hlt : lessK x1 y1
        · cases hgt : lessK y1 x1
          · have hc : cmpK x1 y1 = 0 := by simp [cmpK, hlt, hgt]
            rw [hc]
            have MQ := hid (mA_eq (x := (x1, x2)) (c := (y1, y2, z)) t2 l2 hlt hgt)
            clear hlt hgt hc
            go_wp2_with fail
            refine wp_region_V [] (Below wr.heap.size wr) hmix (Bu1.out.drew) ?_
            change wpAnyV _ _ _ _ _ _ _ _ _
            refine wpW (i := 0) (v := .slice (some ⟨b, off, none⟩) (t2.length + 1) ca') (kept_below wr) rfl (DR fun w9 hS => by go_simp) ?_
            try simp only [getElem_toArray, getElem_cons_succ, getElem_cons_zero, Act.put, setIfInBounds_toArray, set_cons_succ, set_cons_zero]
            refine wpW (i := 1) (v := .pointer (some ⟨b, off, none⟩)) (kept_below wr) rfl (DR fun w9 hS => by go_simp) ?_
            try simp only [getElem_toArray, getElem_cons_succ, getElem_cons_zero, Act.put, setIfInBounds_toArray, set_cons_succ, set_cons_zero]
            refine wpW (i := 2) (v := .slice (some ⟨b, off, none⟩) (t2.length + 1) ca') (kept_below wr) rfl (DR fun w9 hS => by go_simp) ?_
            try simp only [getElem_toArray, getElem_cons_succ, getElem_cons_zero, Act.put, setIfInBounds_toArray, set_cons_succ, set_cons_zero]
            refine wpW (i := 3) (v := .slice (some ⟨b, o1, none⟩) t2.length (ca' - 1)) (kept_below wr) rfl (DR fun w9 hS => by have h9 := SL1.out w9; go_simp) ?_
            try simp only [getElem_toArray, getElem_cons_succ, getElem_cons_zero, Act.put, setIfInBounds_toArray, set_cons_succ, set_cons_zero]
            refine wpW (i := 4) (v := .pointer (some ⟨b, off, none⟩)) (kept_below wr) rfl (DR fun w9 hS => by go_simp) ?_
            try simp only [getElem_toArray, getElem_cons_succ, getElem_cons_zero, Act.put, setIfInBounds_toArray, set_cons_succ, set_cons_zero]
            refine wpW (i := 5) (v := .slice (some ⟨b, o1, none⟩) t2.length (ca' - 1)) (kept_below wr) rfl (DR fun w9 hS => by go_simp) ?_
            try simp only [getElem_toArray, getElem_cons_succ, getElem_cons_zero, Act.put, setIfInBounds_toArray, set_cons_succ, set_cons_zero]
            refine wpAnyV_done (by kernel_rfl) (fun u2 hu => ?_) _
            have Bu2 := hid hu
            clear hu
            go_wp2_with fail
            refine wp_region_V [] (Below wr.heap.size wr) hmix (Bu2.out.drew) ?_
            change wpAnyV _ _ _ _ _ _ _ _ _
            refine wpW (i := 0) (v := .slice (some ⟨b2, off2, none⟩) (l2.length + 1) cb') (kept_below wr) rfl (DR fun w9 hS => by go_simp) ?_
            try simp only [getElem_toArray, getElem_cons_succ, getElem_cons_zero, Act.put, setIfInBounds_toArray, set_cons_succ, set_cons_zero]
            refine wpW (i := 1) (v := .pointer (some ⟨b2, off2, none⟩)) (kept_below wr) rfl (DR fun w9 hS => by go_simp) ?_
            try simp only [getElem_toArray, getElem_cons_succ, getElem_cons_zero, Act.put, setIfInBounds_toArray, set_cons_succ, set_cons_zero]
            refine wpW (i := 2) (v := .slice (some ⟨b2, off2, none⟩) (l2.length + 1) cb') (kept_below wr) rfl (DR fun w9 hS => by go_simp) ?_
            try simp only [getElem_toArray, getElem_cons_succ, getElem_cons_zero, Act.put, setIfInBounds_toArray, set_cons_succ, set_cons_zero]
            refine wpW (i := 3) (v := .slice (some ⟨b2, o2, none⟩) l2.length (cb' - 1)) (kept_below wr) rfl (DR fun w9 hS => by have h9 := SL2.out w9; go_simp) ?_
            try simp only [getElem_toArray, getElem_cons_succ, getElem_cons_zero, Act.put, setIfInBounds_toArray, set_cons_succ, set_cons_zero]
            refine wpW (i := 4) (v := .pointer (some ⟨b2, off2, none⟩)) (kept_below wr) rfl (DR fun w9 hS => by go_simp) ?_
            try simp only [getElem_toArray, getElem_cons_succ, getElem_cons_zero, Act.put, setIfInBounds_toArray, set_cons_succ, set_cons_zero]
            refine wpW (i := 5) (v := .slice (some ⟨b2, o2, none⟩) l2.length (cb' - 1)) (kept_below wr) rfl (DR fun w9 hS => by go_simp) ?_
            try simp only [getElem_toArray, getElem_cons_succ, getElem_cons_zero, Act.put, setIfInBounds_toArray, set_cons_succ, set_cons_zero]
            refine wpAnyV_done (by kernel_rfl) (fun u3 hu => ?_) _
            have Bu3 := hid hu
            clear hu
            go_wp2_with fail
            rcases z with _ | _
            · have EQ := hid (show (done ++ [(y1, y2)]) ++ _ = mergeA t l from by rw [← HE.out, MQ.out, List.append_assoc]; first | done | rfl)
              refine (apply1_put (.pointer (some ⟨b, off, none⟩)) y1 y2 b2 off2 A3 c3 F' w0.heap.size G u3 done (AT2.out.below Bu3.out) (BV2.out.below Bu3.out) (H.out.1.2 (y1, y2, false) (by simp)) (by have := HL.out.1; omega) (HO.out.below Bu3.out) (Nat.le_trans HB.out.size Bu3.out.size) HG.out).mono ?_
              rintro e w5 ⟨⟨v5, rfl⟩, ho5, hb5⟩
              have O5 := hid ho5
              have B5 := hid ((HB.out.trans (Bu3.out.mono HB.out.size)).trans hb5)
              clear ho5 hb5
              go_wp2_with fail
              go_roundw
              case rel => exact ⟨some ⟨b, o1, none⟩, some ⟨b2, o2, none⟩, ca' - 1, cb' - 1, t2, l2, done ++ [(y1, y2)], rfl, rfl, ⟨⟨fun x hx => H.out.1.1 x (by simp [hx]), fun x hx => H.out.1.2 x (by simp [hx])⟩, TL1.out, TL2.out⟩, ⟨by have h1 := HL.out.1;  simp only [List.length_append, List.length_cons, List.length_nil] at h1 ⊢; omega, by have h1 := HL.out.2.1; simp only [List.length_cons, List.length_nil] at h1 ⊢; omega, by have h1 := HL.out.2.2; simp only [List.length_cons, List.length_nil] at h1 ⊢; omega⟩, EQ.out, O5.out, B5.out⟩
              case measure => simp [lens2] <;> omega
            · have EQ := hid (show done ++ _ = mergeA t l from by rw [← HE.out, MQ.out]; first | done | rfl)
              refine (apply1_gone (.pointer (some ⟨b, off, none⟩)) y1 y2 b2 off2 A3 c3 w0.heap.size G u3 done (AT2.out.below Bu3.out) (by have := HL.out.1; omega) (HO.out.below Bu3.out) (Nat.le_trans HB.out.size Bu3.out.size) HG.out).mono ?_
              rintro e w5 ⟨⟨v5, rfl⟩, ho5, hb5⟩
              have O5 := hid ho5
              have B5 := hid ((HB.out.trans (Bu3.out.mono HB.out.size)).trans hb5)
              clear ho5 hb5
              go_wp2_with fail
              go_roundw
              case rel => exact ⟨some ⟨b, o1, none⟩, some ⟨b2, o2, none⟩, ca' - 1, cb' - 1, t2, l2, done, rfl, rfl, ⟨⟨fun x hx => H.out.1.1 x (by simp [hx]), fun x hx => H.out.1.2 x (by simp [hx])⟩, TL1.out, TL2.out⟩, ⟨by have h1 := HL.out.1;  simp only [List.length_append, List.length_cons, List.length_nil] at h1 ⊢; omega, by have h1 := HL.out.2.1; simp only [List.length_cons, List.length_nil] at h1 ⊢; omega, by have h1 := HL.out.2.2; simp only [List.length_cons, List.length_nil] at h1 ⊢; omega⟩, EQ.out, O5.out, B5.out⟩
              case measure => simp [lens2] <;> omega
          · have hc : cmpK x1 y1 = 1 := by simp [cmpK, hlt, hgt]
            rw [hc]
            have MQ := hid (mA_gt (x := (x1, x2)) (c := (y1, y2, z)) t2 l2 hlt hgt)
            clear hlt hgt hc
            go_wp2_with fail
            refine wp_region_V [] (Below wr.heap.size wr) hmix (Bu1.out.drew) ?_
            change wpAnyV _ _ _ _ _ _ _ _ _
            refine wpW (i := 0) (v := .slice (some ⟨b2, off2, none⟩) (l2.length + 1) cb') (kept_below wr) rfl (DR fun w9 hS => by go_simp) ?_
            try simp only [getElem_toArray, getElem_cons_succ, getElem_cons_zero, Act.put, setIfInBounds_toArray, set_cons_succ, set_cons_zero]
            refine wpW (i := 1) (v := .pointer (some ⟨b2, off2, none⟩)) (kept_below wr) rfl (DR fun w9 hS => by go_simp) ?_
            try simp only [getElem_toArray, getElem_cons_succ, getElem_cons_zero, Act.put, setIfInBounds_toArray, set_cons_succ, set_cons_zero]
            refine wpW (i := 2) (v := .slice (some ⟨b2, off2, none⟩) (l2.length + 1) cb') (kept_below wr) rfl (DR fun w9 hS => by go_simp) ?_
            try simp only [getElem_toArray, getElem_cons_succ, getElem_cons_zero, Act.put, setIfInBounds_toArray, set_cons_succ, set_cons_zero]
            refine wpW (i := 3) (v := .slice (some ⟨b2, o2, none⟩) l2.length (cb' - 1)) (kept_below wr) rfl (DR fun w9 hS => by have h9 := SL2.out w9; go_simp) ?_
            try simp only [getElem_toArray, getElem_cons_succ, getElem_cons_zero, Act.put, setIfInBounds_toArray, set_cons_succ, set_cons_zero]
            refine wpW (i := 4) (v := .pointer (some ⟨b2, off2, none⟩)) (kept_below wr) rfl (DR fun w9 hS => by go_simp) ?_
            try simp only [getElem_toArray, getElem_cons_succ, getElem_cons_zero, Act.put, setIfInBounds_toArray, set_cons_succ, set_cons_zero]
            refine wpW (i := 5) (v := .slice (some ⟨b2, o2, none⟩) l2.length (cb' - 1)) (kept_below wr) rfl (DR fun w9 hS => by go_simp) ?_
            try simp only [getElem_toArray, getElem_cons_succ, getElem_cons_zero, Act.put, setIfInBounds_toArray, set_cons_succ, set_cons_zero]
            refine wpAnyV_done (by kernel_rfl) (fun u2 hu => ?_) _
            have Bu2 := hid hu
            clear hu
            go_wp2_with fail
            rcases z with _ | _
            · have EQ := hid (show (done ++ [(y1, y2)]) ++ _ = mergeA t l from by rw [← HE.out, MQ.out, List.append_assoc]; first | done | rfl)
              refine (apply1_put (.pointer none) y1 y2 b2 off2 A3 c3 F' w0.heap.size G u2 done (AT2.out.below Bu2.out) (BV2.out.below Bu2.out) (H.out.1.2 (y1, y2, false) (by simp)) (by have := HL.out.1; omega) (HO.out.below Bu2.out) (Nat.le_trans HB.out.size Bu2.out.size) HG.out).mono ?_
              rintro e w5 ⟨⟨v5, rfl⟩, ho5, hb5⟩
              have O5 := hid ho5
              have B5 := hid ((HB.out.trans (Bu2.out.mono HB.out.size)).trans hb5)
              clear ho5 hb5
              go_wp2_with fail
              go_roundw
              case rel => exact ⟨some ⟨b, off, none⟩, some ⟨b2, o2, none⟩, ca', cb' - 1, (x1, x2) :: t2, l2, done ++ [(y1, y2)], rfl, rfl, ⟨⟨H.out.1.1, fun x hx => H.out.1.2 x (by simp [hx])⟩, H.out.2.1, TL2.out⟩, ⟨by have h1 := HL.out.1;  simp only [List.length_append, List.length_cons, List.length_nil] at h1 ⊢; omega, by have h1 := HL.out.2.1; simp only [List.length_cons, List.length_nil] at h1 ⊢; omega, by have h1 := HL.out.2.2; simp only [List.length_cons, List.length_nil] at h1 ⊢; omega⟩, EQ.out, O5.out, B5.out⟩
              case measure => simp [lens2] <;> omega
            · have EQ := hid (show done ++ _ = mergeA t l from by rw [← HE.out, MQ.out]; first | done | rfl)
              refine (apply1_gone (.pointer none) y1 y2 b2 off2 A3 c3 w0.heap.size G u2 done (AT2.out.below Bu2.out) (by have := HL.out.1; omega) (HO.out.below Bu2.out) (Nat.le_trans HB.out.size Bu2.out.size) HG.out).mono ?_
              rintro e w5 ⟨⟨v5, rfl⟩, ho5, hb5⟩
              have O5 := hid ho5
              have B5 := hid ((HB.out.trans (Bu2.out.mono HB.out.size)).trans hb5)
              clear ho5 hb5
              go_wp2_with fail
              go_roundw
              case rel => exact ⟨some ⟨b, off, none⟩, some ⟨b2, o2, none⟩, ca', cb' - 1, (x1, x2) :: t2, l2, done, rfl, rfl, ⟨⟨H.out.1.1, fun x hx => H.out.1.2 x (by simp [hx])⟩, H.out.2.1, TL2.out⟩, ⟨by have h1 := HL.out.1;  simp only [List.length_append, List.length_cons, List.length_nil] at h1 ⊢; omega, by have h1 := HL.out.2.1; simp only [List.length_cons, List.length_nil] at h1 ⊢; omega, by have h1 := HL.out.2.2; simp only [List.length_cons, List.length_nil] at h1 ⊢; omega⟩, EQ.out, O5.out, B5.out⟩
              case measure => simp [lens2] <;> omega
        · have hc : cmpK x1 y1 = -1 := by simp [cmpK, hlt]
          rw [hc]
          have MQ := hid (mA_lt (x := (x1, x2)) (c := (y1, y2, z)) t2 l2 hlt)
          clear hlt hc
          go_wp2_with fail
          refine wp_region_V [] (Below wr.heap.size wr) hmix (Bu1.out.drew) ?_
          change wpAnyV _ _ _ _ _ _ _ _ _
          refine wpW (i := 0) (v := .slice (some ⟨b, off, none⟩) (t2.length + 1) ca') (kept_below wr) rfl (DR fun w9 hS => by go_simp) ?_
          try simp only [getElem_toArray, getElem_cons_succ, getElem_cons_zero, Act.put, setIfInBounds_toArray, set_cons_succ, set_cons_zero]
          refine wpW (i := 1) (v := .pointer (some ⟨b, off, none⟩)) (kept_below wr) rfl (DR fun w9 hS => by go_simp) ?_
          try simp only [getElem_toArray, getElem_cons_succ, getElem_cons_zero, Act.put, setIfInBounds_toArray, set_cons_succ, set_cons_zero]
          refine wpW (i := 2) (v := .slice (some ⟨b, off, none⟩) (t2.length + 1) ca') (kept_below wr) rfl (DR fun w9 hS => by go_simp) ?_
          try simp only [getElem_toArray, getElem_cons_succ, getElem_cons_zero, Act.put, setIfInBounds_toArray, set_cons_succ, set_cons_zero]
          refine wpW (i := 3) (v := .slice (some ⟨b, o1, none⟩) t2.length (ca' - 1)) (kept_below wr) rfl (DR fun w9 hS => by have h9 := SL1.out w9; go_simp) ?_
          try simp only [getElem_toArray, getElem_cons_succ, getElem_cons_zero, Act.put, setIfInBounds_toArray, set_cons_succ, set_cons_zero]
          refine wpW (i := 4) (v := .pointer (some ⟨b, off, none⟩)) (kept_below wr) rfl (DR fun w9 hS => by go_simp) ?_
          try simp only [getElem_toArray, getElem_cons_succ, getElem_cons_zero, Act.put, setIfInBounds_toArray, set_cons_succ, set_cons_zero]
          refine wpW (i := 5) (v := .slice (some ⟨b, o1, none⟩) t2.length (ca' - 1)) (kept_below wr) rfl (DR fun w9 hS => by go_simp) ?_
          try simp only [getElem_toArray, getElem_cons_succ, getElem_cons_zero, Act.put, setIfInBounds_toArray, set_cons_succ, set_cons_zero]
          refine wpAnyV_done (by kernel_rfl) (fun u2 hu => ?_) _
          have Bu2 := hid hu
          clear hu
          go_wp2_with fail
          have EQ := hid (show (done ++ [(x1, x2)]) ++ _ = mergeA t l from by rw [← HE.out, MQ.out, List.append_assoc]; first | done | rfl)
          refine (apply1_row x1 x2 b off A1 c1 F w0.heap.size G u2 done (AT1.out.below Bu2.out) (BV1.out.below Bu2.out) (H.out.1.1 (x1, x2) (by simp)) (by have := HL.out.1; omega) (HO.out.below Bu2.out) (Nat.le_trans HB.out.size Bu2.out.size) HG.out).mono ?_
          rintro e w5 ⟨⟨v5, rfl⟩, ho5, hb5⟩
          have O5 := hid ho5
          have B5 := hid ((HB.out.trans (Bu2.out.mono HB.out.size)).trans hb5)
          clear ho5 hb5
          go_wp2_with fail
          go_roundw
          case rel => exact ⟨some ⟨b, o1, none⟩, some ⟨b2, off2, none⟩, ca' - 1, cb', t2, (y1, y2, z) :: l2, done ++ [(x1, x2)], rfl, rfl, ⟨⟨fun x hx => H.out.1.1 x (by simp [hx]), H.out.1.2⟩, TL1.out, H.out.2.2⟩, ⟨by have h1 := HL.out.1;  simp only [List.length_append, List.length_cons, List.length_nil] at h1 ⊢; omega, by have h1 := HL.out.2.1; simp only [List.length_cons, List.length_nil] at h1 ⊢; omega, by have h1 := HL.out.2.2; simp only [List.length_cons, List.length_nil] at h1 ⊢; omega⟩, EQ.out, O5.out, B5.out⟩
          case measure => simp [lens2] <;> omega
set_option maxHeartbeats 8000000 in
theorem side_between (t : List Rw) (l : List Rw) (A B : Option Addr) (ca cb : Nat) (F F' : Nat → Prop) (G : Nat) (w0 w : World) (ht : ∀ x ∈ t, x.2.length ≤ 8192) (hl : ∀ x ∈ l, x.2.length ≤ 8192) (hlen : t.length + l.length ≤ 100000) (hca : t.length ≤ ca) (hcb : l.length ≤ cb) (hr : RdX rowE w0 F A t) (hc : RdX rowE w0 F' B l) (hb : Below w0.heap.size w0 w) (hG : w0.heap.size ≤ G) (ho : OutX chgN w0.heap.size G w []) :
    Calls Tryz.prog 186 #[.slice A t.length ca, .slice B l.length cb, .func (.func 123) #[] #[], .func (.func 123) #[] #[], .func (.func 187) #[] #[.pointer (some ⟨G, 0, none⟩)]] w fun e w' => (∃ v, e = .returned v) ∧ OutX chgN w0.heap.size G w' (mergeB t l) ∧ Below w0.heap.size w0 w' := by
  have hmix : Tryz.prog.follows .mixedOrders = true := by kernel_rfl
  have H0 := hid (And.intro (And.intro ht hl) (And.intro hr hc))
  have HL := hid (And.intro hlen (And.intro hca hcb))
  have HB := hid hb
  have HG := hid hG
  have HO := hid ho
  clear ht hl hlen hca hcb hr hc hb hG ho
  go_enter Tryz.func186, Tryz.ntmps186
  go_wp2_with fail
  go_loopw [0, 1] (fun s0 s1 wr => ∃ (A' B' : Option Addr) (ca' cb' : Nat) (t' : List Rw) (l' : List Rw) (done : List Ch), s0 = .slice A' t'.length ca' ∧ s1 = .slice B' l'.length cb' ∧ (((∀ x ∈ t', x.2.length ≤ 8192) ∧ ∀ x ∈ l', x.2.length ≤ 8192) ∧ RdX rowE w0 F A' t' ∧ RdX rowE w0 F' B' l') ∧ (done.length + (t'.length + l'.length) ≤ 100000 ∧ t'.length ≤ ca' ∧ l'.length ≤ cb') ∧ done ++ mergeB t' l' = mergeB t l ∧ OutX chgN w0.heap.size G wr done ∧ Below w0.heap.size w0 wr) (fun s0 s1 _ => lens2 s0 s1)
  case atStart => exact ⟨A, B, ca, cb, t, l, [], rfl, rfl, H0.out, ⟨by have := HL.out.1; simpa using this, HL.out.2⟩, rfl, HO.out, HB.out⟩
  case round =>
    obtain ⟨A', B', ca', cb', t', l', done, rfl, rfl, h0, hlen, hE, ho, hb⟩ := hrel
    have H := hid h0
    have HL := hid hlen
    have HE := hid hE
    have HO := hid ho
    have HB := hid hb
    have hts : t'.length ≤ 100000 := by omega
    have hls : l'.length ≤ 100000 := by omega
    clear h0 hlen hE ho hb
    rcases t' with _ | ⟨⟨x1, x2⟩, t2⟩
    · rcases l' with _ | ⟨⟨y1, y2⟩, l2⟩
      · go_wp2_with fail
        go_end0
        have hE := HE.out
        rw [mB_nil, List.append_nil] at hE
        rw [← hE]
        exact ⟨⟨_, rfl⟩, HO.out, HB.out⟩
      · skip
        obtain ⟨b2, off2, A3, c3, rfl, hat2, hbv2⟩ := row_first H.out.2.2 HB.out
        obtain ⟨o2, hsl2, ho2⟩ := slR_1 b2 off2 (l2.length + 1) cb' (by omega) (by have := HL.out.2.2; simpa using this)
        rw [Nat.add_sub_cancel] at hsl2
        have SL2 := hid hsl2
        have TL2 := hid (rdx_tail H.out.2.2 HL.out.2.2 ho2)
        have AT2 := hid hat2
        have BV2 := hid hbv2
        clear hsl2 ho2 hat2 hbv2
        have p2 : (0 : Int) < (l2.length : Int) + 1 := by omega
        have p2' : (0 : Int) < ((l2.length + 1 : Nat) : Int) := by omega
        have n2 : ((l2.length : Int) + 1 == 0) = false := by rw [beq_eq_false_iff_ne]; omega
        have n2' : (((l2.length + 1 : Nat) : Int) == 0) = false := by rw [beq_eq_false_iff_ne]; omega
        simp only [List.length_cons] at hls
        have s2 : (l2.length : Int) + 1 ≤ 100000 := by omega
        go_wp2_with fail
        refine wp_region_V [] (Below wr.heap.size wr) hmix ((Below.refl _ _).drew) ?_
        change wpAnyV _ _ _ _ _ _ _ _ _
        refine wpW (i := 0) (v := .slice (some ⟨b2, off2, none⟩) (l2.length + 1) cb') (kept_below wr) rfl (DR fun w9 hS => by go_simp) ?_
        try simp only [getElem_toArray, getElem_cons_succ, getElem_cons_zero, Act.put, setIfInBounds_toArray, set_cons_succ, set_cons_zero]
        refine wpW (i := 1) (v := .pointer (some ⟨b2, off2, none⟩)) (kept_below wr) rfl (DR fun w9 hS => by go_simp) ?_
        try simp only [getElem_toArray, getElem_cons_succ, getElem_cons_zero, Act.put, setIfInBounds_toArray, set_cons_succ, set_cons_zero]
        refine wpW (i := 2) (v := .slice (some ⟨b2, off2, none⟩) (l2.length + 1) cb') (kept_below wr) rfl (DR fun w9 hS => by go_simp) ?_
        try simp only [getElem_toArray, getElem_cons_succ, getElem_cons_zero, Act.put, setIfInBounds_toArray, set_cons_succ, set_cons_zero]
        refine wpW (i := 3) (v := .slice (some ⟨b2, o2, none⟩) l2.length (cb' - 1)) (kept_below wr) rfl (DR fun w9 hS => by have h9 := SL2.out w9; go_simp) ?_
        try simp only [getElem_toArray, getElem_cons_succ, getElem_cons_zero, Act.put, setIfInBounds_toArray, set_cons_succ, set_cons_zero]
        refine wpW (i := 4) (v := .pointer (some ⟨b2, off2, none⟩)) (kept_below wr) rfl (DR fun w9 hS => by go_simp) ?_
        try simp only [getElem_toArray, getElem_cons_succ, getElem_cons_zero, Act.put, setIfInBounds_toArray, set_cons_succ, set_cons_zero]
        refine wpW (i := 5) (v := .slice (some ⟨b2, o2, none⟩) l2.length (cb' - 1)) (kept_below wr) rfl (DR fun w9 hS => by go_simp) ?_
        try simp only [getElem_toArray, getElem_cons_succ, getElem_cons_zero, Act.put, setIfInBounds_toArray, set_cons_succ, set_cons_zero]
        refine wpAnyV_done (by kernel_rfl) (fun u1 hu => ?_) _
        have Bu1 := hid hu
        clear hu
        go_wp2_with fail
        have EQ := hid (show (done ++ [(y1, y2, false)]) ++ _ = mergeB t l from by rw [← HE.out, mB_chg, List.append_assoc]; first | done | rfl)
        refine (betw1_new y1 y2 b2 off2 A3 c3 F' w0.heap.size G u1 done (AT2.out.below Bu1.out) (BV2.out.below Bu1.out) (H.out.1.2 (y1, y2) (by simp)) (by have := HL.out.1; omega) (HO.out.below Bu1.out) (Nat.le_trans HB.out.size Bu1.out.size) HG.out).mono ?_
        rintro e w5 ⟨⟨v5, rfl⟩, ho5, hb5⟩
        have O5 := hid ho5
        have B5 := hid ((HB.out.trans (Bu1.out.mono HB.out.size)).trans hb5)
        clear ho5 hb5
        go_wp2_with fail
        go_roundw
        case rel => exact ⟨A', some ⟨b2, o2, none⟩, ca', cb' - 1, [], l2, done ++ [(y1, y2, false)], rfl, rfl, ⟨⟨H.out.1.1, fun x hx => H.out.1.2 x (by simp [hx])⟩, H.out.2.1, TL2.out⟩, ⟨by have h1 := HL.out.1;  simp only [List.length_append, List.length_cons, List.length_nil] at h1 ⊢; omega, by have h1 := HL.out.2.1; simp only [List.length_cons, List.length_nil] at h1 ⊢; omega, by have h1 := HL.out.2.2; simp only [List.length_cons, List.length_nil] at h1 ⊢; omega⟩, EQ.out, O5.out, B5.out⟩
        case measure => simp [lens2] <;> omega
    · rcases l' with _ | ⟨⟨y1, y2⟩, l2⟩
      · skip
        obtain ⟨b, off, A1, c1, rfl, hat1, hbv1⟩ := row_first H.out.2.1 HB.out
        obtain ⟨o1, hsl1, ho1⟩ := slR_1 b off (t2.length + 1) ca' (by omega) (by have := HL.out.2.1; simpa using this)
        rw [Nat.add_sub_cancel] at hsl1
        have SL1 := hid hsl1
        have TL1 := hid (rdx_tail H.out.2.1 HL.out.2.1 ho1)
        have AT1 := hid hat1
        have BV1 := hid hbv1
        clear hsl1 ho1 hat1 hbv1
        have p1 : (0 : Int) < (t2.length : Int) + 1 := by omega
        have p1' : (0 : Int) < ((t2.length + 1 : Nat) : Int) := by omega
        have n1 : ((t2.length : Int) + 1 == 0) = false := by rw [beq_eq_false_iff_ne]; omega
        have n1' : (((t2.length + 1 : Nat) : Int) == 0) = false := by rw [beq_eq_false_iff_ne]; omega
        simp only [List.length_cons] at hts
        have s1 : (t2.length : Int) + 1 ≤ 100000 := by omega
        go_wp2_with fail
        refine wp_region_V [] (Below wr.heap.size wr) hmix ((Below.refl _ _).drew) ?_
        change wpAnyV _ _ _ _ _ _ _ _ _
        refine wpW (i := 0) (v := .slice (some ⟨b, off, none⟩) (t2.length + 1) ca') (kept_below wr) rfl (DR fun w9 hS => by go_simp) ?_
        try simp only [getElem_toArray, getElem_cons_succ, getElem_cons_zero, Act.put, setIfInBounds_toArray, set_cons_succ, set_cons_zero]
        refine wpW (i := 1) (v := .pointer (some ⟨b, off, none⟩)) (kept_below wr) rfl (DR fun w9 hS => by go_simp) ?_
        try simp only [getElem_toArray, getElem_cons_succ, getElem_cons_zero, Act.put, setIfInBounds_toArray, set_cons_succ, set_cons_zero]
        refine wpW (i := 2) (v := .slice (some ⟨b, off, none⟩) (t2.length + 1) ca') (kept_below wr) rfl (DR fun w9 hS => by go_simp) ?_
        try simp only [getElem_toArray, getElem_cons_succ, getElem_cons_zero, Act.put, setIfInBounds_toArray, set_cons_succ, set_cons_zero]
        refine wpW (i := 3) (v := .slice (some ⟨b, o1, none⟩) t2.length (ca' - 1)) (kept_below wr) rfl (DR fun w9 hS => by have h9 := SL1.out w9; go_simp) ?_
        try simp only [getElem_toArray, getElem_cons_succ, getElem_cons_zero, Act.put, setIfInBounds_toArray, set_cons_succ, set_cons_zero]
        refine wpW (i := 4) (v := .pointer (some ⟨b, off, none⟩)) (kept_below wr) rfl (DR fun w9 hS => by go_simp) ?_
        try simp only [getElem_toArray, getElem_cons_succ, getElem_cons_zero, Act.put, setIfInBounds_toArray, set_cons_succ, set_cons_zero]
        refine wpW (i := 5) (v := .slice (some ⟨b, o1, none⟩) t2.length (ca' - 1)) (kept_below wr) rfl (DR fun w9 hS => by go_simp) ?_
        try simp only [getElem_toArray, getElem_cons_succ, getElem_cons_zero, Act.put, setIfInBounds_toArray, set_cons_succ, set_cons_zero]
        refine wpAnyV_done (by kernel_rfl) (fun u1 hu => ?_) _
        have Bu1 := hid hu
        clear hu
        go_wp2_with fail
        have EQ := hid (show (done ++ [(x1, [], true)]) ++ _ = mergeB t l from by rw [← HE.out, mB_row, List.append_assoc]; first | done | rfl)
        refine (betw1_gone x1 x2 b off A1 c1 w0.heap.size G u1 done (AT1.out.below Bu1.out) (by have := HL.out.1; omega) (HO.out.below Bu1.out) (Nat.le_trans HB.out.size Bu1.out.size) HG.out).mono ?_
        rintro e w5 ⟨⟨v5, rfl⟩, ho5, hb5⟩
        have O5 := hid ho5
        have B5 := hid ((HB.out.trans (Bu1.out.mono HB.out.size)).trans hb5)
        clear ho5 hb5
        go_wp2_with fail
        go_roundw
        case rel => exact ⟨some ⟨b, o1, none⟩, B', ca' - 1, cb', t2, [], done ++ [(x1, [], true)], rfl, rfl, ⟨⟨fun x hx => H.out.1.1 x (by simp [hx]), H.out.1.2⟩, TL1.out, H.out.2.2⟩, ⟨by have h1 := HL.out.1;  simp only [List.length_append, List.length_cons, List.length_nil] at h1 ⊢; omega, by have h1 := HL.out.2.1; simp only [List.length_cons, List.length_nil] at h1 ⊢; omega, by have h1 := HL.out.2.2; simp only [List.length_cons, List.length_nil] at h1 ⊢; omega⟩, EQ.out, O5.out, B5.out⟩
        case measure => simp [lens2] <;> omega
      · skip
        obtain ⟨b, off, A1, c1, rfl, hat1, hbv1⟩ := row_first H.out.2.1 HB.out
        obtain ⟨o1, hsl1, ho1⟩ := slR_1 b off (t2.length + 1) ca' (by omega) (by have := HL.out.2.1; simpa using this)
        rw [Nat.add_sub_cancel] at hsl1
        have SL1 := hid hsl1
        have TL1 := hid (rdx_tail H.out.2.1 HL.out.2.1 ho1)
        have AT1 := hid hat1
        have BV1 := hid hbv1
        clear hsl1 ho1 hat1 hbv1
        have p1 : (0 : Int) < (t2.length : Int) + 1 := by omega
        have p1' : (0 : Int) < ((t2.length + 1 : Nat) : Int) := by omega
        have n1 : ((t2.length : Int) + 1 == 0) = false := by rw [beq_eq_false_iff_ne]; omega
        have n1' : (((t2.length + 1 : Nat) : Int) == 0) = false := by rw [beq_eq_false_iff_ne]; omega
        simp only [List.length_cons] at hts
        have s1 : (t2.length : Int) + 1 ≤ 100000 := by omega
        obtain ⟨b2, off2, A3, c3, rfl, hat2, hbv2⟩ := row_first H.out.2.2 HB.out
        obtain ⟨o2, hsl2, ho2⟩ := slR_1 b2 off2 (l2.length + 1) cb' (by omega) (by have := HL.out.2.2; simpa using this)
        rw [Nat.add_sub_cancel] at hsl2
        have SL2 := hid hsl2
        have TL2 := hid (rdx_tail H.out.2.2 HL.out.2.2 ho2)
        have AT2 := hid hat2
        have BV2 := hid hbv2
        clear hsl2 ho2 hat2 hbv2
        have p2 : (0 : Int) < (l2.length : Int) + 1 := by omega
        have p2' : (0 : Int) < ((l2.length + 1 : Nat) : Int) := by omega
        have n2 : ((l2.length : Int) + 1 == 0) = false := by rw [beq_eq_false_iff_ne]; omega
        have n2' : (((l2.length + 1 : Nat) : Int) == 0) = false := by rw [beq_eq_false_iff_ne]; omega
        simp only [List.length_cons] at hls
        have s2 : (l2.length : Int) + 1 ≤ 100000 := by omega
        have hlb := less_bytes
        go_wp2_with fail
        refine wp_region_V [] (Below wr.heap.size wr) hmix ((Below.refl _ _).drew) ?_
        change wpAnyV _ _ _ _ _ _ _ _ _
        refine wpW (i := 0) (v := .func (.func 123) #[] #[]) (kept_below wr) rfl (DR fun w9 hS => by go_simp) ?_
        try simp only [getElem_toArray, getElem_cons_succ, getElem_cons_zero, Act.put, setIfInBounds_toArray, set_cons_succ, set_cons_zero]
        refine wpW (i := 1) (v := .slice (some ⟨b, off, none⟩) (t2.length + 1) ca') (kept_below wr) rfl (DR fun w9 hS => by go_simp) ?_
        try simp only [getElem_toArray, getElem_cons_succ, getElem_cons_zero, Act.put, setIfInBounds_toArray, set_cons_succ, set_cons_zero]
        refine wpW (i := 2) (v := .pointer (some ⟨b, off, none⟩)) (kept_below wr) rfl (DR fun w9 hS => by go_simp) ?_
        try simp only [getElem_toArray, getElem_cons_succ, getElem_cons_zero, Act.put, setIfInBounds_toArray, set_cons_succ, set_cons_zero]
        refine wpW (i := 3) (v := .agg (rwCells (x1, x2) A1 c1).toArray) (kept_below wr) rfl (DoesV.loadS (by rfl) 78 _ rfl b off rfl (rwCells (x1, x2) A1 c1) (fun w9 hS => AT1.out.below hS) _ Tryz.underlying78 rfl (infoRw (x1, x2) A1 c1)) ?_
        try simp only [getElem_toArray, getElem_cons_succ, getElem_cons_zero, Act.put, setIfInBounds_toArray, set_cons_succ, set_cons_zero]
        refine wpW (i := 4) (v := .string ⟨x1.toArray⟩) (kept_below wr) rfl (DoesV.calls 123 #[.agg (rwCells (x1, x2) A1 c1).toArray] (by rfl) (fun w9 hS => by go_simp) (fun w9 hS => keyOfRow_any (x1, x2) A1 c1 w9)) ?_
        try simp only [getElem_toArray, getElem_cons_succ, getElem_cons_zero, Act.put, setIfInBounds_toArray, set_cons_succ, set_cons_zero]
        refine wpW (i := 5) (v := .func (.func 123) #[] #[]) (kept_below wr) rfl (DR fun w9 hS => by go_simp) ?_
        try simp only [getElem_toArray, getElem_cons_succ, getElem_cons_zero, Act.put, setIfInBounds_toArray, set_cons_succ, set_cons_zero]
        refine wpW (i := 6) (v := .slice (some ⟨b2, off2, none⟩) (l2.length + 1) cb') (kept_below wr) rfl (DR fun w9 hS => by go_simp) ?_
        try simp only [getElem_toArray, getElem_cons_succ, getElem_cons_zero, Act.put, setIfInBounds_toArray, set_cons_succ, set_cons_zero]
        refine wpW (i := 7) (v := .pointer (some ⟨b2, off2, none⟩)) (kept_below wr) rfl (DR fun w9 hS => by go_simp) ?_
        try simp only [getElem_toArray, getElem_cons_succ, getElem_cons_zero, Act.put, setIfInBounds_toArray, set_cons_succ, set_cons_zero]
        refine wpW (i := 8) (v := .agg (rwCells (y1, y2) A3 c3).toArray) (kept_below wr) rfl (DoesV.loadS (by rfl) 78 _ rfl b2 off2 rfl (rwCells (y1, y2) A3 c3) (fun w9 hS => AT2.out.below hS) _ Tryz.underlying78 rfl (infoRw (y1, y2) A3 c3)) ?_
        try simp only [getElem_toArray, getElem_cons_succ, getElem_cons_zero, Act.put, setIfInBounds_toArray, set_cons_succ, set_cons_zero]
        refine wpW (i := 9) (v := .string ⟨y1.toArray⟩) (kept_below wr) rfl (DoesV.calls 123 #[.agg (rwCells (y1, y2) A3 c3).toArray] (by rfl) (fun w9 hS => by go_simp) (fun w9 hS => keyOfRow_any (y1, y2) A3 c3 w9)) ?_
        try simp only [getElem_toArray, getElem_cons_succ, getElem_cons_zero, Act.put, setIfInBounds_toArray, set_cons_succ, set_cons_zero]
        refine wpW (i := 10) (v := .int .i64 (cmpK x1 y1)) (kept_below wr) rfl (DoesV.calls 153 #[.string ⟨x1.toArray⟩, .string ⟨y1.toArray⟩] (by rfl) (fun w9 hS => by go_simp) (fun w9 hS => (Compare_any x1 y1 w9).mono fun e w' h => ⟨h.1, h.2 ▸ Below.refl _ _⟩)) ?_
        try simp only [getElem_toArray, getElem_cons_succ, getElem_cons_zero, Act.put, setIfInBounds_toArray, set_cons_succ, set_cons_zero]
        refine wpW (i := 11) (v := .int .i64 (cmpK x1 y1)) (kept_below wr) rfl (DR fun w9 hS => by go_simp) ?_
        try simp only [getElem_toArray, getElem_cons_succ, getElem_cons_zero, Act.put, setIfInBounds_toArray, set_cons_succ, set_cons_zero]
        refine wpAnyV_done (by kernel_rfl) (fun u1 hu => ?_) _
        have Bu1 := hid hu
        clear hu
        cases hlt : lessK x1 y1
        · cases hgt : lessK y1 x1
          · have hc : cmpK x1 y1 = 0 := by simp [cmpK, hlt, hgt]
            rw [hc]
            have MQ := hid (mB_eq (x := (x1, x2)) (c := (y1, y2)) t2 l2 hlt hgt)
            clear hlt hgt hc
            go_wp2_with fail
            refine wp_region_V [] (Below wr.heap.size wr) hmix (Bu1.out.drew) ?_
            change wpAnyV _ _ _ _ _ _ _ _ _
            refine wpW (i := 0) (v := .slice (some ⟨b, off, none⟩) (t2.length + 1) ca') (kept_below wr) rfl (DR fun w9 hS => by go_simp) ?_
            try simp only [getElem_toArray, getElem_cons_succ, getElem_cons_zero, Act.put, setIfInBounds_toArray, set_cons_succ, set_cons_zero]
            refine wpW (i := 1) (v := .pointer (some ⟨b, off, none⟩)) (kept_below wr) rfl (DR fun w9 hS => by go_simp) ?_
            try simp only [getElem_toArray, getElem_cons_succ, getElem_cons_zero, Act.put, setIfInBounds_toArray, set_cons_succ, set_cons_zero]
            refine wpW (i := 2) (v := .slice (some ⟨b, off, none⟩) (t2.length + 1) ca') (kept_below wr) rfl (DR fun w9 hS => by go_simp) ?_
            try simp only [getElem_toArray, getElem_cons_succ, getElem_cons_zero, Act.put, setIfInBounds_toArray, set_cons_succ, set_cons_zero]
            refine wpW (i := 3) (v := .slice (some ⟨b, o1, none⟩) t2.length (ca' - 1)) (kept_below wr) rfl (DR fun w9 hS => by have h9 := SL1.out w9; go_simp) ?_
            try simp only [getElem_toArray, getElem_cons_succ, getElem_cons_zero, Act.put, setIfInBounds_toArray, set_cons_succ, set_cons_zero]
            refine wpW (i := 4) (v := .pointer (some ⟨b, off, none⟩)) (kept_below wr) rfl (DR fun w9 hS => by go_simp) ?_
            try simp only [getElem_toArray, getElem_cons_succ, getElem_cons_zero, Act.put, setIfInBounds_toArray, set_cons_succ, set_cons_zero]
            refine wpW (i := 5) (v := .slice (some ⟨b, o1, none⟩) t2.length (ca' - 1)) (kept_below wr) rfl (DR fun w9 hS => by go_simp) ?_
            try simp only [getElem_toArray, getElem_cons_succ, getElem_cons_zero, Act.put, setIfInBounds_toArray, set_cons_succ, set_cons_zero]
            refine wpAnyV_done (by kernel_rfl) (fun u2 hu => ?_) _
            have Bu2 := hid hu
            clear hu
            go_wp2_with fail
            refine wp_region_V [] (Below wr.heap.size wr) hmix (Bu2.out.drew) ?_
            change wpAnyV _ _ _ _ _ _ _ _ _
            refine wpW (i := 0) (v := .slice (some ⟨b2, off2, none⟩) (l2.length + 1) cb') (kept_below wr) rfl (DR fun w9 hS => by go_simp) ?_
            try simp only [getElem_toArray, getElem_cons_succ, getElem_cons_zero, Act.put, setIfInBounds_toArray, set_cons_succ, set_cons_zero]
            refine wpW (i := 1) (v := .pointer (some ⟨b2, off2, none⟩)) (kept_below wr) rfl (DR fun w9 hS => by go_simp) ?_
            try simp only [getElem_toArray, getElem_cons_succ, getElem_cons_zero, Act.put, setIfInBounds_toArray, set_cons_succ, set_cons_zero]
            refine wpW (i := 2) (v := .slice (some ⟨b2, off2, none⟩) (l2.length + 1) cb') (kept_below wr) rfl (DR fun w9 hS => by go_simp) ?_
            try simp only [getElem_toArray, getElem_cons_succ, getElem_cons_zero, Act.put, setIfInBounds_toArray, set_cons_succ, set_cons_zero]
            refine wpW (i := 3) (v := .slice (some ⟨b2, o2, none⟩) l2.length (cb' - 1)) (kept_below wr) rfl (DR fun w9 hS => by have h9 := SL2.out w9; go_simp) ?_
            try simp only [getElem_toArray, getElem_cons_succ, getElem_cons_zero, Act.put, setIfInBounds_toArray, set_cons_succ, set_cons_zero]
            refine wpW (i := 4) (v := .pointer (some ⟨b2, off2, none⟩)) (kept_below wr) rfl (DR fun w9 hS => by go_simp) ?_
            try simp only [getElem_toArray, getElem_cons_succ, getElem_cons_zero, Act.put, setIfInBounds_toArray, set_cons_succ, set_cons_zero]
            refine wpW (i := 5) (v := .slice (some ⟨b2, o2, none⟩) l2.length (cb' - 1)) (kept_below wr) rfl (DR fun w9 hS => by go_simp) ?_
            try simp only [getElem_toArray, getElem_cons_succ, getElem_cons_zero, Act.put, setIfInBounds_toArray, set_cons_succ, set_cons_zero]
            refine wpAnyV_done (by kernel_rfl) (fun u3 hu => ?_) _
            have Bu3 := hid hu
            clear hu
            go_wp2_with fail
            have EQ := hid (show (done ++ putB7 (x1, x2) (y1, y2)) ++ _ = mergeB t l from by rw [← HE.out, MQ.out, List.append_assoc])
            refine (betw1_both y1 y2 b2 off2 A3 c3 F' x1 x2 b off A1 c1 F w0.heap.size G u3 done (AT2.out.below Bu3.out) (BV2.out.below Bu3.out) (H.out.1.2 (y1, y2) (by simp)) (AT1.out.below Bu3.out) (BV1.out.below Bu3.out) (by have := HL.out.1; omega) (HO.out.below Bu3.out) (Nat.le_trans HB.out.size Bu3.out.size) HG.out).mono ?_
            rintro e w5 ⟨⟨v5, rfl⟩, ho5, hb5⟩
            have O5 := hid ho5
            have B5 := hid ((HB.out.trans (Bu3.out.mono HB.out.size)).trans hb5)
            clear ho5 hb5
            go_wp2_with fail
            go_roundw
            case rel => exact ⟨some ⟨b, o1, none⟩, some ⟨b2, o2, none⟩, ca' - 1, cb' - 1, t2, l2, done ++ putB7 (x1, x2) (y1, y2), rfl, rfl, ⟨⟨fun x hx => H.out.1.1 x (by simp [hx]), fun x hx => H.out.1.2 x (by simp [hx])⟩, TL1.out, TL2.out⟩, ⟨by have h1 := HL.out.1; have h2 := putB7_len (x1, x2) (y1, y2); simp only [List.length_append, List.length_cons, List.length_nil] at h1 ⊢; omega, by have h1 := HL.out.2.1; simp only [List.length_cons, List.length_nil] at h1 ⊢; omega, by have h1 := HL.out.2.2; simp only [List.length_cons, List.length_nil] at h1 ⊢; omega⟩, EQ.out, O5.out, B5.out⟩
            case measure => simp [lens2] <;> omega
          · have hc : cmpK x1 y1 = 1 := by simp [cmpK, hlt, hgt]
            rw [hc]
            have MQ := hid (mB_gt (x := (x1, x2)) (c := (y1, y2)) t2 l2 hlt hgt)
            clear hlt hgt hc
            go_wp2_with fail
            refine wp_region_V [] (Below wr.heap.size wr) hmix (Bu1.out.drew) ?_
            change wpAnyV _ _ _ _ _ _ _ _ _
            refine wpW (i := 0) (v := .slice (some ⟨b2, off2, none⟩) (l2.length + 1) cb') (kept_below wr) rfl (DR fun w9 hS => by go_simp) ?_
            try simp only [getElem_toArray, getElem_cons_succ, getElem_cons_zero, Act.put, setIfInBounds_toArray, set_cons_succ, set_cons_zero]
            refine wpW (i := 1) (v := .pointer (some ⟨b2, off2, none⟩)) (kept_below wr) rfl (DR fun w9 hS => by go_simp) ?_
            try simp only [getElem_toArray, getElem_cons_succ, getElem_cons_zero, Act.put, setIfInBounds_toArray, set_cons_succ, set_cons_zero]
            refine wpW (i := 2) (v := .slice (some ⟨b2, off2, none⟩) (l2.length + 1) cb') (kept_below wr) rfl (DR fun w9 hS => by go_simp) ?_
            try simp only [getElem_toArray, getElem_cons_succ, getElem_cons_zero, Act.put, setIfInBounds_toArray, set_cons_succ, set_cons_zero]
            refine wpW (i := 3) (v := .slice (some ⟨b2, o2, none⟩) l2.length (cb' - 1)) (kept_below wr) rfl (DR fun w9 hS => by have h9 := SL2.out w9; go_simp) ?_
            try simp only [getElem_toArray, getElem_cons_succ, getElem_cons_zero, Act.put, setIfInBounds_toArray, set_cons_succ, set_cons_zero]
            refine wpW (i := 4) (v := .pointer (some ⟨b2, off2, none⟩)) (kept_below wr) rfl (DR fun w9 hS => by go_simp) ?_
            try simp only [getElem_toArray, getElem_cons_succ, getElem_cons_zero, Act.put, setIfInBounds_toArray, set_cons_succ, set_cons_zero]
            refine wpW (i := 5) (v := .slice (some ⟨b2, o2, none⟩) l2.length (cb' - 1)) (kept_below wr) rfl (DR fun w9 hS => by go_simp) ?_
            try simp only [getElem_toArray, getElem_cons_succ, getElem_cons_zero, Act.put, setIfInBounds_toArray, set_cons_succ, set_cons_zero]
            refine wpAnyV_done (by kernel_rfl) (fun u2 hu => ?_) _
            have Bu2 := hid hu
            clear hu
            go_wp2_with fail
            have EQ := hid (show (done ++ [(y1, y2, false)]) ++ _ = mergeB t l from by rw [← HE.out, MQ.out, List.append_assoc]; first | done | rfl)
            refine (betw1_new y1 y2 b2 off2 A3 c3 F' w0.heap.size G u2 done (AT2.out.below Bu2.out) (BV2.out.below Bu2.out) (H.out.1.2 (y1, y2) (by simp)) (by have := HL.out.1; omega) (HO.out.below Bu2.out) (Nat.le_trans HB.out.size Bu2.out.size) HG.out).mono ?_
            rintro e w5 ⟨⟨v5, rfl⟩, ho5, hb5⟩
            have O5 := hid ho5
            have B5 := hid ((HB.out.trans (Bu2.out.mono HB.out.size)).trans hb5)
            clear ho5 hb5
            go_wp2_with fail
            go_roundw
            case rel => exact ⟨some ⟨b, off, none⟩, some ⟨b2, o2, none⟩, ca', cb' - 1, (x1, x2) :: t2, l2, done ++ [(y1, y2, false)], rfl, rfl, ⟨⟨H.out.1.1, fun x hx => H.out.1.2 x (by simp [hx])⟩, H.out.2.1, TL2.out⟩, ⟨by have h1 := HL.out.1;  simp only [List.length_append, List.length_cons, List.length_nil] at h1 ⊢; omega, by have h1 := HL.out.2.1; simp only [List.length_cons, List.length_nil] at h1 ⊢; omega, by have h1 := HL.out.2.2; simp only [List.length_cons, List.length_nil] at h1 ⊢; omega⟩, EQ.out, O5.out, B5.out⟩
            case measure => simp [lens2] <;> omega
        · have hc : cmpK x1 y1 = -1 := by simp [cmpK, hlt]
          rw [hc]
          have MQ := hid (mB_lt (x := (x1, x2)) (c := (y1, y2)) t2 l2 hlt)
          clear hlt hc
          go_wp2_with fail
          refine wp_region_V [] (Below wr.heap.size wr) hmix (Bu1.out.drew) ?_
          change wpAnyV _ _ _ _ _ _ _ _ _
          refine wpW (i := 0) (v := .slice (some ⟨b, off, none⟩) (t2.length + 1) ca') (kept_below wr) rfl (DR fun w9 hS => by go_simp) ?_
          try simp only [getElem_toArray, getElem_cons_succ, getElem_cons_zero, Act.put, setIfInBounds_toArray, set_cons_succ, set_cons_zero]
          refine wpW (i := 1) (v := .pointer (some ⟨b, off, none⟩)) (kept_below wr) rfl (DR fun w9 hS => by go_simp) ?_
          try simp only [getElem_toArray, getElem_cons_succ, getElem_cons_zero, Act.put, setIfInBounds_toArray, set_cons_succ, set_cons_zero]
          refine wpW (i := 2) (v := .slice (some ⟨b, off, none⟩) (t2.length + 1) ca') (kept_below wr) rfl (DR fun w9 hS => by go_simp) ?_
          try simp only [getElem_toArray, getElem_cons_succ, getElem_cons_zero, Act.put, setIfInBounds_toArray, set_cons_succ, set_cons_zero]
          refine wpW (i := 3) (v := .slice (some ⟨b, o1, none⟩) t2.length (ca' - 1)) (kept_below wr) rfl (DR fun w9 hS => by have h9 := SL1.out w9; go_simp) ?_
          try simp only [getElem_toArray, getElem_cons_succ, getElem_cons_zero, Act.put, setIfInBounds_toArray, set_cons_succ, set_cons_zero]
          refine wpW (i := 4) (v := .pointer (some ⟨b, off, none⟩)) (kept_below wr) rfl (DR fun w9 hS => by go_simp) ?_
          try simp only [getElem_toArray, getElem_cons_succ, getElem_cons_zero, Act.put, setIfInBounds_toArray, set_cons_succ, set_cons_zero]
          refine wpW (i := 5) (v := .slice (some ⟨b, o1, none⟩) t2.length (ca' - 1)) (kept_below wr) rfl (DR fun w9 hS => by go_simp) ?_
          try simp only [getElem_toArray, getElem_cons_succ, getElem_cons_zero, Act.put, setIfInBounds_toArray, set_cons_succ, set_cons_zero]
          refine wpAnyV_done (by kernel_rfl) (fun u2 hu => ?_) _
          have Bu2 := hid hu
          clear hu
          go_wp2_with fail
          have EQ := hid (show (done ++ [(x1, [], true)]) ++ _ = mergeB t l from by rw [← HE.out, MQ.out, List.append_assoc]; first | done | rfl)
          refine (betw1_gone x1 x2 b off A1 c1 w0.heap.size G u2 done (AT1.out.below Bu2.out) (by have := HL.out.1; omega) (HO.out.below Bu2.out) (Nat.le_trans HB.out.size Bu2.out.size) HG.out).mono ?_
          rintro e w5 ⟨⟨v5, rfl⟩, ho5, hb5⟩
          have O5 := hid ho5
          have B5 := hid ((HB.out.trans (Bu2.out.mono HB.out.size)).trans hb5)
          clear ho5 hb5
          go_wp2_with fail
          go_roundw
          case rel => exact ⟨some ⟨b, o1, none⟩, some ⟨b2, off2, none⟩, ca' - 1, cb', t2, (y1, y2) :: l2, done ++ [(x1, [], true)], rfl, rfl, ⟨⟨fun x hx => H.out.1.1 x (by simp [hx]), H.out.1.2⟩, TL1.out, H.out.2.2⟩, ⟨by have h1 := HL.out.1;  simp only [List.length_append, List.length_cons, List.length_nil] at h1 ⊢; omega, by have h1 := HL.out.2.1; simp only [List.length_cons, List.length_nil] at h1 ⊢; omega, by have h1 := HL.out.2.2; simp only [List.length_cons, List.length_nil] at h1 ⊢; omega⟩, EQ.out, O5.out, B5.out⟩
          case measure => simp [lens2] <;> omega
end Go.Proofs.YtfgbpinfplllgaaGreatDoor
namespace Go.Proofs.YtfgbpinfplllgaaGreatDoor
open Go.RowKit Go.Shelf
set_option maxRecDepth 100000
theorem LsV.mono {α : Type} {E : Elem α} {w : World} {F G : Nat → Prop} {v : Value} {ls : List α} (h : LsV E w F v ls) (hF : ∀ k, k < w.heap.size → F k → G k) : LsV E w G v ls := by
  obtain ⟨A, c, h1, h2, h3⟩ := h
  exact ⟨A, c, h1, h2.mono hF, h3⟩
theorem OutX.new {α : Type} {E : Elem α} {B : Nat} {w : World} (hB : B ≤ w.heap.size) : OutX E B w.heap.size (w.alloc (.cells #[.slice none 0 0] E.sty)) [] := ⟨_, Cs.new _ _ _, OwnX.nil _ _ _⟩
theorem OutX.cell {α : Type} {E : Elem α} {B G : Nat} {w : World} {ls : List α} (h : OutX E B G w ls) : ∃ v, w.cell? ⟨G, 0, none⟩ = some v ∧ LsV E w (B ≤ ·) v ls := by
  obtain ⟨v, h1, h2⟩ := h
  exact ⟨v, h1.cell 0 rfl, h2.ls.mono fun k _ h => h.1⟩
theorem mayP_vals {t : List Rw} (h : mayP t = true) : ∀ x ∈ t, x.2.length ≤ 8192 := fun x hx => (((may_iff t).1 h).1 x hx).2.2
theorem mayC_vals {t : List Ch} (h : mayCP t = true) : ∀ x ∈ t, x.2.1.length ≤ 8192 := fun x hx => (((mayC_iff t).1 h).1 x hx).1.2.2
set_option maxHeartbeats 4000000 in
theorem Apply_any (t : List Rw) (l : List Ch) (v u : Value) (F G : Nat → Prop) (w : World) (hs : SmallR t) (hs2 : SmallC l) (ht : t.length ≤ 20000) (hl : l.length ≤ 20000) (hr : LsV rowE w F v t) (hr2 : LsV chgE w G u l) :
    Calls Tryz.prog 85 #[v, u] w fun e w' => P7Apply t l w e w' := by
  obtain ⟨A, c, rfl, hra, hca, hcm, -⟩ := hr
  obtain ⟨B, d, rfl, hrb, hdb, hdm, -⟩ := hr2
  have hm1 := fun u hb => May_any t A c F u hs (hra.below hb)
  have hm2 := fun u hb => MayC_any l B d G u hs2 (hrb.below hb)
  have HA := hid (And.intro hra hrb)
  have HC := hid (And.intro hca hdb)
  unfold P7Apply
  obtain ⟨m1, h1⟩ : ∃ m, mayP t = m := ⟨_, rfl⟩
  obtain ⟨m2, h2⟩ : ∃ m, mayCP l = m := ⟨_, rfl⟩
  rw [h1] at hm1
  rw [h2] at hm2
  rw [h1, h2]
  have M1 := hid hm1
  have M2 := hid hm2
  have H1 := hid h1
  have H2 := hid h2
  clear hs hs2 hra hrb hca hdb hcm hdm hm1 hm2 h1 h2
  cases m1
  · go_enter Tryz.func85, Tryz.ntmps85
    go_wp2_with fail
    refine (M1.out w (Below.refl _ _)).mono ?_
    rintro e w1 ⟨rfl, hb⟩
    go_wp2_with fail
    go_ret2
    exact ⟨hb, _, rfl, LsV.nil _ _⟩
  · cases m2
    · go_enter Tryz.func85, Tryz.ntmps85
      go_wp2_with fail
      refine (M1.out w (Below.refl _ _)).mono ?_
      rintro e w1 ⟨rfl, hb⟩
      go_wp2_with fail
      refine (M2.out w1 hb).mono ?_
      rintro e w2 ⟨rfl, hb2⟩
      go_wp2_with fail
      go_ret2
      exact ⟨below_chain hb hb2, _, rfl, LsV.nil _ _⟩
    · have HM := hid (merge_apply H1.out H2.out)
      go_enter Tryz.func85, Tryz.ntmps85
      go_wp2_with fail
      refine (M1.out w (Below.refl _ _)).mono ?_
      rintro e w1 ⟨rfl, hb⟩
      go_wp2_with fail
      refine (M2.out w1 hb).mono ?_
      rintro e w2 ⟨rfl, hb2⟩
      have B2 := hid (below_chain hb hb2)
      clear hb hb2
      go_wp2_with fail
      refine (side_apply t l A B c d F G w2.heap.size w _ (mayP_vals H1.out) (mayC_vals H2.out) (by omega) HC.out.1 HC.out.2 HA.out.1 HA.out.2 (B2.out.alloc B2.out.size _) B2.out.size (OutX.new (E := rowN) B2.out.size)).mono ?_
      rintro e w3 ⟨⟨v3, rfl⟩, ho, hb3⟩
      obtain ⟨v4, hc4, hv4⟩ := ho.cell
      have B3 := hid hb3
      have V4 := hid hv4
      clear ho hb3 hv4
      go_wp2_with fail
      go_ret2
      refine ⟨B3.out, _, rfl, ?_⟩
      have := V4.out
      rw [HM.out] at this
      exact this
set_option maxHeartbeats 4000000 in
theorem Between_any (t : List Rw) (l : List Rw) (v u : Value) (F G : Nat → Prop) (w : World) (hs : SmallR t) (hs2 : SmallR l) (ht : t.length ≤ 20000) (hl : l.length ≤ 20000) (hr : LsV rowE w F v t) (hr2 : LsV rowE w G u l) :
    Calls Tryz.prog 161 #[v, u] w fun e w' => P7Betw t l w e w' := by
  obtain ⟨A, c, rfl, hra, hca, hcm, -⟩ := hr
  obtain ⟨B, d, rfl, hrb, hdb, hdm, -⟩ := hr2
  have hm1 := fun u hb => May_any t A c F u hs (hra.below hb)
  have hm2 := fun u hb => May_any l B d G u hs2 (hrb.below hb)
  have HA := hid (And.intro hra hrb)
  have HC := hid (And.intro hca hdb)
  unfold P7Betw
  obtain ⟨m1, h1⟩ : ∃ m, mayP t = m := ⟨_, rfl⟩
  obtain ⟨m2, h2⟩ : ∃ m, mayP l = m := ⟨_, rfl⟩
  rw [h1] at hm1
  rw [h2] at hm2
  rw [h1, h2]
  have M1 := hid hm1
  have M2 := hid hm2
  have H1 := hid h1
  have H2 := hid h2
  clear hs hs2 hra hrb hca hdb hcm hdm hm1 hm2 h1 h2
  cases m1
  · go_enter Tryz.func161, Tryz.ntmps161
    go_wp2_with fail
    refine (M1.out w (Below.refl _ _)).mono ?_
    rintro e w1 ⟨rfl, hb⟩
    go_wp2_with fail
    go_ret2
    exact ⟨hb, _, rfl, LsV.nil _ _⟩
  · cases m2
    · go_enter Tryz.func161, Tryz.ntmps161
      go_wp2_with fail
      refine (M1.out w (Below.refl _ _)).mono ?_
      rintro e w1 ⟨rfl, hb⟩
      go_wp2_with fail
      refine (M2.out w1 hb).mono ?_
      rintro e w2 ⟨rfl, hb2⟩
      go_wp2_with fail
      go_ret2
      exact ⟨below_chain hb hb2, _, rfl, LsV.nil _ _⟩
    · have HM := hid (merge_between H1.out H2.out)
      go_enter Tryz.func161, Tryz.ntmps161
      go_wp2_with fail
      refine (M1.out w (Below.refl _ _)).mono ?_
      rintro e w1 ⟨rfl, hb⟩
      go_wp2_with fail
      refine (M2.out w1 hb).mono ?_
      rintro e w2 ⟨rfl, hb2⟩
      have B2 := hid (below_chain hb hb2)
      clear hb hb2
      go_wp2_with fail
      refine (side_between t l A B c d F G w2.heap.size w _ (mayP_vals H1.out) (mayP_vals H2.out) (by omega) HC.out.1 HC.out.2 HA.out.1 HA.out.2 (B2.out.alloc B2.out.size _) B2.out.size (OutX.new (E := chgN) B2.out.size)).mono ?_
      rintro e w3 ⟨⟨v3, rfl⟩, ho, hb3⟩
      obtain ⟨v4, hc4, hv4⟩ := ho.cell
      have B3 := hid hb3
      have V4 := hid hv4
      clear ho hb3 hv4
      go_wp2_with fail
      go_ret2
      refine ⟨B3.out, _, rfl, ?_⟩
      have := V4.out
      rw [HM.out] at this
      exact this
theorem k7 : K7 where
  put l v F w hs ht hr := by
    obtain ⟨A, c, rfl, h, -⟩ := hr
    exact (BPut_any l A c F w hs ht h).mono fun e w' ⟨hb, h⟩ => by
      refine ⟨hb, ?_⟩
      split at h
      · rename_i hm
        obtain ⟨v, he, ho⟩ := h
        refine ⟨v, by rw [if_pos hm]; exact he, ?_⟩
        rw [if_pos hm]
        exact (BsV.own ho).any
      · rename_i hm
        exact ⟨_, by rw [if_neg hm]; exact h, by rw [if_neg hm]; exact BsV.nil _ _⟩
  get b v F w hl hr := by
    obtain ⟨A, c, rfl, h1, h2, h3, h4⟩ := hr
    exact (Get_any7 b A c w hl h1.rd h3 h4).mono fun e w' ⟨hb, h⟩ => by
      refine ⟨hb, ?_⟩
      cases hg : getC b with
      | error er =>
        rw [hg] at h
        exact ⟨_, h, LsV.nil _ _⟩
      | ok l =>
        rw [hg] at h
        obtain ⟨v, g, he, ho⟩ := h
        exact ⟨v, he, ho.ls.mono fun _ _ _ => trivial⟩
  may t v F w hs hr := by
    obtain ⟨A, c, rfl, h, -⟩ := hr
    exact May_any t A c F w hs h
  mayC t v F w hs hr := by
    obtain ⟨A, c, rfl, h, -⟩ := hr
    exact MayC_any t A c F w hs h
  shared a b w ha hb := Shared_any a b w ha hb
  apply t l v u F G w hs hs2 ht hl hr hr2 := Apply_any t l v u F G w hs hs2 ht hl hr hr2
  betw a b v u F G w hs hs2 ha hb hr hr2 := Between_any a b v u F G w hs hs2 ha hb hr hr2
end Go.Proofs.YtfgbpinfplllgaaGreatDoor
