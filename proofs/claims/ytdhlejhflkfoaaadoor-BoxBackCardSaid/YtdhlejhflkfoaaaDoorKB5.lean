/- SWEPT -/
import Derived.Test.YtdhlejhflkfoaaaDoorKB3
import Derived.Test.YtdhlejhflkfoaaaDoorKB4
import Derived.Test.YtdhlejhflkfoaaaDoorKB1
/- BchDK: BatKC BatKD BatKE BatK7. -/
/- Go's library as layer 7 takes it (Compare, Equal), a load of a whole element in a region that draws, a list without its first element. -/
namespace Go.Proofs.YtdhlejhflkfoaaaDoor
open Go.RowKit Go.Shelf
set_option linter.unusedVariables false
set_option maxRecDepth 100000
set_option linter.unusedSimpArgs false

def cmpK (a b : Key) : Int := if lessK a b then -1 else if lessK b a then 1 else 0
set_option maxHeartbeats 1000000 in
theorem CompareString_any (a b : Key) (w : World) :
    Calls Tryd.prog 104 #[.string ⟨a.toArray⟩, .string ⟨b.toArray⟩] w fun e w' => e = .returned (.int .i64 (cmpK a b)) ∧ w = w' := by
  have hc : Lib.compareBytes (⟨a.toArray⟩ : ByteArray).data.toList (⟨b.toArray⟩ : ByteArray).data.toList = cmpK a b := compare_is a b
  go_enter Tryd.func104, Tryd.ntmps104
  go_wp2
  rw [run_callFunc_extern Tryd.func108 (by kernel_rfl) (by kernel_rfl) (by kernel_rfl) (e := Extern.BytealgCompare.compare) (by kernel_rfl), Lib.run_compareString, hc]
  simp only [Result.andThen]
  rw [Oper.upon_value]
  go_wp2
  go_ret
  exact ⟨rfl, rfl⟩
theorem Compare_any (a b : Key) (w : World) :
    Calls Tryd.prog 94 #[.string ⟨a.toArray⟩, .string ⟨b.toArray⟩] w fun e w' => e = .returned (.int .i64 (cmpK a b)) ∧ w = w' := by
  go_enter Tryd.func94, Tryd.ntmps94
  go_wp2_with fail
  refine (CompareString_any a b w).mono ?_
  rintro e w1 ⟨rfl, rfl⟩
  go_wp2_with fail
  go_ret
  exact ⟨rfl, rfl⟩
theorem Equal_any (p q : List UInt8) (A B : Option Addr) (c d : Nat) (w : World) (hp : Rd w A p) (hq : Rd w B q) :
    Calls Tryd.prog 63 #[.slice A p.length c, .slice B q.length d] w fun e w' => e = .returned (.bool (p == q)) ∧ w = w' := by
  have h1 := conv_rd hp c
  have h2 := conv_rd hq d
  have h3 := sv_eq p q
  clear hp hq
  go_enter Tryd.func63, Tryd.ntmps63
  go_wp2_with fail
  go_ret
  exact ⟨by first | rfl | rw [h3], rfl⟩
theorem DoesV.loadS {P : Program} {ops : Array Oper} {T : World → Prop} {o : Oper} {a : Act} (hw : Region.wanted o (yielded ops a.tmps) = true) (ty : TypeId) (x : Operand) (ho : o.op = .load ty x) (b f : Nat) (hx : a.eval x = .pointer (some ⟨b, f, none⟩)) (cs : List Value) (hc : ∀ w, T w → At w b f cs) (d : TypeDesc) (hu : P.underlying ty = some d)
    (hd : (match d with | .struct _ | .array _ _ => true | _ => false) = true) (hi : (P.info? ty).map (·.size) = some cs.length) : DoesV P ops T o (.agg cs.toArray) a :=
  DoesV.reads hw fun w hT => by
    unfold execOp
    simp only [ho, hx, Instr.loadAt, Instr.sureAddr, Sem.run_bind, Sem.run_pure, Result.andThen_ok, run_loadVar_at w ty b f cs (hc w hT) d hu hd hi]
theorem slR_1 (b o len cap : Nat) (hk : 1 ≤ len) (hl : len ≤ cap) : ∃ o', (∀ W : World, (Instr.slice 34 (.slice (some ⟨b, o, none⟩) len cap) (some (.int .i64 1)) none none).run Tryd.prog W = .ok (.slice (some ⟨b, o', none⟩) (len - 1) (cap - 1)) W) ∧ (1 < cap → o' = o + 2) := by
  have ht' : Tryd.prog.underlying 34 = some (.slice (Tryd.prog.elem 34)) := by simp [Program.elem, Tryd.underlying34]
  have he : Tryd.prog.elem 34 = 41 := by simp [Program.elem, Tryd.underlying34]
  by_cases hc : cap = 1
  · refine ⟨o, fun W => ?_, fun h => by omega⟩
    rw [run_slice_l W 34 _ _ _ ht' .i64 1 (by omega) (by omega), he, Tryd.sizeOf41]
    show Result.ok (sliced (some ⟨b, o, none⟩) 1 len cap 2) W = _
    simp [sliced, hc]
  · refine ⟨o + 2, fun W => ?_, fun _ => rfl⟩
    rw [run_slice_l W 34 _ _ _ ht' .i64 1 (by omega) (by omega), he, Tryd.sizeOf41]
    show Result.ok (sliced (some ⟨b, o, none⟩) 1 len cap 2) W = _
    simp [sliced, Addr.add, hc]
/-- a list's tail -/
theorem rdx_tail {α : Type} {E : Elem α} {w : World} {F : Nat → Prop} {b o o' cap : Nat} {x : α} {ls : List α} (h : RdX E w F (some ⟨b, o, none⟩) (x :: ls)) (hc : (x :: ls).length ≤ cap) (ho : 1 < cap → o' = o + E.n) : RdX E w F (some ⟨b, o', none⟩) ls := by
  by_cases hl : ls = []
  · exact .inl hl
  · have : 0 < ls.length := List.length_pos_iff.2 hl
    rw [List.length_cons] at hc
    rw [ho (by omega)]
    have := h.drop 1
    rwa [Nat.one_mul] at this

end Go.Proofs.YtdhlejhflkfoaaaDoor

/- batch: what Apply and Between do at each pair. -/
namespace Go.Proofs.YtdhlejhflkfoaaaDoor
open Go.RowKit Go.Shelf
set_option linter.unusedVariables false
set_option maxRecDepth 100000
set_option linter.unusedSimpArgs false

/-- a variable at G that holds a list of new memory -/
def OutX {α : Type} (E : Elem α) (B G : Nat) (w : World) (ls : List α) : Prop := ∃ v, Cs w G E.sty #[v] ∧ OwnX E w B (fun k => B ≤ k ∧ k ≠ G) v ls
theorem OutX.below {α : Type} {E : Elem α} {B G : Nat} {w w' : World} {ls : List α} (h : OutX E B G w ls) (hb : Below w.heap.size w w') : OutX E B G w' ls := by
  obtain ⟨v, h1, h2⟩ := h
  exact ⟨v, h1.below hb h1.lt, h2.below hb⟩
theorem OutX.lt {α : Type} {E : Elem α} {B G : Nat} {w : World} {ls : List α} (h : OutX E B G w ls) : G < w.heap.size := by
  obtain ⟨v, h1, h2⟩ := h
  exact h1.lt
theorem kept_belowB {B : Nat} {w : World} (h : B ≤ w.heap.size) : Kept (Below B w) := fun u u' hu hb => hu.trans (hb.mono (Nat.le_trans h hu.size))
theorem kept_newV (F : Nat → Prop) (v : Value) (l : List UInt8) : Kept fun y => NewV y F v l := fun u u' h hb => h.below hb
theorem kept_outX {α : Type} (E : Elem α) (B G : Nat) (ls : List α) : Kept fun y => OutX E B G y ls := fun u u' h hb => h.below hb
theorem newV_of {w : World} {B : Nat} {v : Value} {l : List UInt8} (hb : BsV w (B ≤ ·) v l) (ht : TyB w v) (hk : ∀ k, v.ownBlock = some k → B ≤ k) : NewV w (B ≤ ·) v l := ⟨hb, ht, fun k e => ⟨hk k e, by
  rcases ht with rfl | ⟨g, n, cap, cur, rfl, hc, -⟩
  · cases e
  · cases e; exact hc.lt⟩⟩
theorem wp_buildC {w : World} {o : Oper} {a : Act} {Q : Exit → Act → World → Prop} {K : Act → World → Prop} (x : Operand) (ho : o.op = .buildSlice 90 1 #[(0, x)]) (r : Ch) (A : Option Addr) (c n : Nat) (hn : n = r.2.1.length) (hx : a.eval x = .agg #[.string ⟨r.1.toArray⟩, .slice A n c, .bool r.2.2])
    (hK : ∀ g w', Cs w' g 123 (chCells r A c).toArray → Below w.heap.size w w' → w.heap.size ≤ g → K (a.put o.dst (.slice (some ⟨g, 0, none⟩) 1 1)) w') : o.wp Tryd.prog a w K Q := by
  subst hn
  refine wp_of_run2 (v := .slice (some ⟨w.heap.size, 0, none⟩) 1 1) (w' := w.alloc (.cells (chCells r A c).toArray 123)) ?_ (hK _ _ (Cs.new _ _ _) ((Below.refl _ _).alloc (Nat.le_refl _) _) (Nat.le_refl _))
  unfold execOp
  simp only [ho, hx, List.map_toArray, List.map_cons, List.map_nil, chCells]
  go_simp
theorem NewV.nil (w : World) (F : Nat → Prop) : NewV w F (.slice none 0 0) [] := ⟨BsV.nil _ _, .inl rfl, fun k e => by cases e⟩
set_option maxHeartbeats 4000000 in
theorem betw1_gone (x1 x2 : List UInt8) (b off : Nat) (A1 : Option Addr) (c1 : Nat) (B G : Nat) (w : World) (ls : List Ch) (hat : At w b off (rwCells (x1, x2) A1 c1)) (hl : ls.length ≤ 100000) (ho : OutX chgM B G w ls) (hB : B ≤ w.heap.size) (hG : B ≤ G) :
    Calls Tryd.prog 80 #[.pointer (some ⟨b, off, none⟩), .pointer none, .pointer (some ⟨G, 0, none⟩)] w fun e w' => (∃ v, e = .returned v) ∧ OutX chgM B G w' (ls ++ [(x1, [], true)]) ∧ Below B w w' := by
  have hmix : Tryd.prog.follows .mixedOrders = true := by kernel_rfl
  obtain ⟨v0, hcg, hox⟩ := ho
  have QG := Lib.hid (hcg.cell 0 rfl)
  have CG := Lib.hid hcg
  have OX := Lib.hid hox
  have BW := Lib.hid hB
  have BG := Lib.hid hG
  have GL := Lib.hid hcg.lt
  have OL := Lib.hid (fun q e => (hox.lt q e).2)
  clear hcg hox hB hG
  have Q1 := Lib.hid (hat 0 _ rfl)
  rw [Nat.add_zero] at Q1
  go_enter Tryd.func80, Tryd.ntmps80
  go_wp2_with fail
  refine wp_region_V [7, 8] (Below w.heap.size w) hmix ((Below.refl _ _).drew) ?_
  change wpAnyV _ _ _ _ _ _ _ _ _
  refine wpAnyV_take (i := 0) (v := v0) 8 (kept_below w) rfl (by kernel_rfl) (by kernel_rfl) (fun _ _ _ h => h) (fun _ h => h) (DoesV.reads (by rfl) fun w9 hS => by have q9 := (hS.cell (lt_of_cell QG.out)).trans QG.out; go_simp) ?_
  try simp only [nrm, Act.put]
  refine wpAnyV_take (i := 1) (v := .pointer (some ⟨b, off, none⟩)) 8 (kept_below w) rfl (by kernel_rfl) (by kernel_rfl) (fun _ _ _ h => h) (fun _ h => h) (DoesV.reads (by rfl) fun w9 hS => by go_simp) ?_
  try simp only [nrm, Act.put]
  refine wpAnyV_take (i := 2) (v := .pointer (some ⟨b, off, none⟩)) 8 (kept_below w) rfl (by kernel_rfl) (by kernel_rfl) (fun _ _ _ h => h) (fun _ h => h) (DoesV.reads (by rfl) fun w9 hS => by go_simp) ?_
  try simp only [nrm, Act.put]
  refine wpAnyV_take (i := 3) (v := .pointer (some ⟨b, off, none⟩)) 8 (kept_below w) rfl (by kernel_rfl) (by kernel_rfl) (fun _ _ _ h => h) (fun _ h => h) (DoesV.reads (by rfl) fun w9 hS => by go_simp) ?_
  try simp only [nrm, Act.put]
  refine wpAnyV_take (i := 4) (v := .string ⟨x1.toArray⟩) 8 (kept_below w) rfl (by kernel_rfl) (by kernel_rfl) (fun _ _ _ h => h) (fun _ h => h) (DoesV.reads (by rfl) fun w9 hS => by have q9 := (hS.cell (lt_of_cell Q1.out)).trans Q1.out; go_simp) ?_
  try simp only [nrm, Act.put]
  refine wpAnyV_pure (i := 5) (v := .agg #[.string ⟨x1.toArray⟩, .slice none 0 0, .bool true]) (kept_below w) rfl (by kernel_rfl) (by kernel_rfl) (fun _ _ _ h => h) (DoesV.reads (by rfl) fun w9 hS => by go_simp) ?_
  try simp only [nrm, Act.put]
  refine wpAnyV_only (i := 6) rfl (by kernel_rfl) rfl (fun y hy => wp_buildC _ rfl (x1, [], true) none 0 _ rfl rfl fun g8 y' hk hb hg => ⟨(fun y => (Below w.heap.size w y) ∧ Cs y g8 123 (chCells (x1, [], true) none 0).toArray), ⟨(below_chain hy hb), hk⟩, kept_and (kept_below w) (kept_cs _ _ _), fun _ y h => h.1, ?_⟩)
  try simp only [nrm, Act.put]
  refine wpAnyV_only (i := 7) rfl (by kernel_rfl) rfl (fun y hy => wp_append_x1 (E := chgM) _ _ rfl B (fun k => B ≤ k ∧ k ≠ G) v0 ls rfl (OX.out.below hy.1) g8 1 rfl (chCells (x1, [], true) none 0) (x1, [], true) ⟨_, rfl, NewV.nil _ _⟩ 123 hy.2 (by omega) (Nat.le_trans BW.out hy.1.size) ⟨Nat.le_trans BW.out hy.1.size, fun e => absurd GL.out (Nat.not_lt.2 (e ▸ hy.1.size))⟩ fun v3 y' ho3 hg3 => ⟨(fun y => Below B w y ∧ OwnX chgM y B (fun k => B ≤ k ∧ k ≠ G) v3 (ls ++ [(x1, [], true)]) ∧ Cs y G 90 #[v0]), ⟨(hy.1.mono BW.out).grown hg3 (Nat.le_trans BW.out hy.1.size) (fun q e => (OX.out.lt q e).1), ho3, (CG.out.below hy.1 CG.out.lt).turn (Turn.of_grown hg3) (fun e => (OX.out.sub _ e).2 rfl)⟩, kept_and (kept_belowB BW.out) (kept_and (kept_ownX _ _ _ _) (kept_cs _ _ _)), fun h => absurd (by simp) h, ?_⟩)
  try simp only [nrm, Act.put]
  refine wpAnyV_only (i := 8) rfl (by kernel_rfl) rfl (fun y hy => wp_store1 90 _ _ rfl G 0 rfl v3 rfl hy.2.1.one (by kernel_rfl) 90 _ hy.2.2 (by simp) fun y' hk ht => ⟨(fun y => Below B w y ∧ OutX chgM B G y (ls ++ [(x1, [], true)])), ⟨hy.1.trans (ht.below (Nat.le_trans BW.out hy.1.size) fun q e => e ▸ BG.out), ⟨v3, hk, hy.2.1.turn ht fun q hq e => hq.2 e⟩⟩, kept_and (kept_belowB BW.out) (kept_outX _ _ _ _), fun h => absurd (by simp) h, ?_⟩)
  try simp only [nrm, Act.put]
  refine wpAnyV_done (by kernel_rfl) (fun u hu => ?_) _
  have HU := Lib.hid hu
  clear hu
  go_wp2_with fail
  go_end0
  exact ⟨⟨_, rfl⟩, HU.out.2, HU.out.1⟩
set_option maxHeartbeats 4000000 in
theorem betw1_new (x1 x2 : List UInt8) (b off : Nat) (A1 : Option Addr) (c1 : Nat) (F : Nat → Prop) (B G : Nat) (w : World) (ls : List Ch) (hat : At w b off (rwCells (x1, x2) A1 c1)) (hbv : BsV w F (.slice A1 x2.length c1) x2) (hx : x2.length ≤ 8192) (hl : ls.length ≤ 100000) (ho : OutX chgM B G w ls) (hB : B ≤ w.heap.size) (hG : B ≤ G) :
    Calls Tryd.prog 80 #[.pointer none, .pointer (some ⟨b, off, none⟩), .pointer (some ⟨G, 0, none⟩)] w fun e w' => (∃ v, e = .returned v) ∧ OutX chgM B G w' (ls ++ [(x1, x2, false)]) ∧ Below B w w' := by
  have hmix : Tryd.prog.follows .mixedOrders = true := by kernel_rfl
  obtain ⟨v0, hcg, hox⟩ := ho
  have QG := Lib.hid (hcg.cell 0 rfl)
  have CG := Lib.hid hcg
  have OX := Lib.hid hox
  have BW := Lib.hid hB
  have BG := Lib.hid hG
  have GL := Lib.hid hcg.lt
  have OL := Lib.hid (fun q e => (hox.lt q e).2)
  clear hcg hox hB hG
  have Q1 := Lib.hid (hat 0 _ rfl)
  have Q2 := Lib.hid (hat 1 _ rfl)
  rw [Nat.add_zero] at Q1
  obtain ⟨hbr, hbn⟩ : Rd w A1 x2 ∧ (A1 = none → x2 = [] ∧ c1 = 0) := by
    obtain ⟨A', c', e, h1, h2, h3⟩ := hbv
    cases e
    exact ⟨h1.rd, h2⟩
  have hcl := fun u (hu : Below w.heap.size w u) => Clone_ty x2 A1 c1 u (by omega) (hbr.below hu) hbn
  have HCL := Lib.hid hcl
  clear hcl hbr hbn hbv
  go_enter Tryd.func80, Tryd.ntmps80
  go_wp2_with fail
  refine wp_region_V [] (Below w.heap.size w) hmix ((Below.refl _ _).drew) ?_
  change wpAnyV _ _ _ _ _ _ _ _ _
  refine wpAnyV_take (i := 0) (v := .pointer none) 8 (kept_below w) rfl (by kernel_rfl) (by kernel_rfl) (fun _ _ _ h => h) (fun _ h => h) (DoesV.reads (by rfl) fun w9 hS => by go_simp) ?_
  try simp only [nrm, Act.put]
  refine wpAnyV_take (i := 1) (v := .bool true) 8 (kept_below w) rfl (by kernel_rfl) (by kernel_rfl) (fun _ _ _ h => h) (fun _ h => h) (DoesV.reads (by rfl) fun w9 hS => by go_simp) ?_
  try simp only [nrm, Act.put]
  refine wpAnyV_take (i := 2) (v := .bool true) 8 (kept_below w) rfl (by kernel_rfl) (by kernel_rfl) (fun _ _ _ h => h) (fun _ h => h) (DoesV.reads (by rfl) fun w9 hS => by go_simp) ?_
  try simp only [nrm, Act.put]
  refine wpAnyV_take (i := 3) (v := undef) 8 (kept_below w) rfl (by kernel_rfl) (by kernel_rfl) (fun _ _ _ h => h) (fun _ h => h) (DoesV.off (by rfl)) ?_
  try simp only [nrm, Act.put]
  refine wpAnyV_take (i := 4) (v := undef) 8 (kept_below w) rfl (by kernel_rfl) (by kernel_rfl) (fun _ _ _ h => h) (fun _ h => h) (DoesV.off (by rfl)) ?_
  try simp only [nrm, Act.put]
  refine wpAnyV_take (i := 5) (v := undef) 8 (kept_below w) rfl (by kernel_rfl) (by kernel_rfl) (fun _ _ _ h => h) (fun _ h => h) (DoesV.off (by rfl)) ?_
  try simp only [nrm, Act.put]
  refine wpAnyV_take (i := 6) (v := undef) 8 (kept_below w) rfl (by kernel_rfl) (by kernel_rfl) (fun _ _ _ h => h) (fun _ h => h) (DoesV.off (by rfl)) ?_
  try simp only [nrm, Act.put]
  refine wpAnyV_take (i := 7) (v := undef) 8 (kept_below w) rfl (by kernel_rfl) (by kernel_rfl) (fun _ _ _ h => h) (fun _ h => h) (DoesV.off (by rfl)) ?_
  try simp only [nrm, Act.put]
  refine wpAnyV_take (i := 8) (v := undef) 8 (kept_below w) rfl (by kernel_rfl) (by kernel_rfl) (fun _ _ _ h => h) (fun _ h => h) (DoesV.off (by rfl)) ?_
  try simp only [nrm, Act.put]
  refine wpAnyV_take (i := 9) (v := undef) 8 (kept_below w) rfl (by kernel_rfl) (by kernel_rfl) (fun _ _ _ h => h) (fun _ h => h) (DoesV.off (by rfl)) ?_
  try simp only [nrm, Act.put]
  refine wpAnyV_take (i := 10) (v := undef) 8 (kept_below w) rfl (by kernel_rfl) (by kernel_rfl) (fun _ _ _ h => h) (fun _ h => h) (DoesV.off (by rfl)) ?_
  try simp only [nrm, Act.put]
  refine wpAnyV_take (i := 11) (v := undef) 8 (kept_below w) rfl (by kernel_rfl) (by kernel_rfl) (fun _ _ _ h => h) (fun _ h => h) (DoesV.off (by rfl)) ?_
  try simp only [nrm, Act.put]
  refine wpAnyV_take (i := 12) (v := undef) 8 (kept_below w) rfl (by kernel_rfl) (by kernel_rfl) (fun _ _ _ h => h) (fun _ h => h) (DoesV.off (by rfl)) ?_
  try simp only [nrm, Act.put]
  refine wpAnyV_take (i := 13) (v := .bool true) 8 (kept_below w) rfl (by kernel_rfl) (by kernel_rfl) (fun _ _ _ h => h) (fun _ h => h) (DoesV.reads (by rfl) fun w9 hS => by go_simp) ?_
  try simp only [nrm, Act.put]
  refine wpAnyV_take (i := 14) (v := .bool true) 8 (kept_below w) rfl (by kernel_rfl) (by kernel_rfl) (fun _ _ _ h => h) (fun _ h => h) (DoesV.reads (by rfl) fun w9 hS => by go_simp) ?_
  try simp only [nrm, Act.put]
  refine wpAnyV_done (by kernel_rfl) (fun u0 hu => ?_) _
  have HU0 := Lib.hid hu
  clear hu
  go_wp2_with fail
  refine wp_region_V [12, 13] (Below w.heap.size w) hmix (HU0.out.drew) ?_
  change wpAnyV _ _ _ _ _ _ _ _ _
  refine wpAnyV_take (i := 0) (v := v0) 8 (kept_below w) rfl (by kernel_rfl) (by kernel_rfl) (fun _ _ _ h => h) (fun _ h => h) (DoesV.reads (by rfl) fun w9 hS => by have q9 := (hS.cell (lt_of_cell QG.out)).trans QG.out; go_simp) ?_
  try simp only [nrm, Act.put]
  refine wpAnyV_take (i := 1) (v := .pointer (some ⟨b, off, none⟩)) 8 (kept_below w) rfl (by kernel_rfl) (by kernel_rfl) (fun _ _ _ h => h) (fun _ h => h) (DoesV.reads (by rfl) fun w9 hS => by go_simp) ?_
  try simp only [nrm, Act.put]
  refine wpAnyV_take (i := 2) (v := .pointer (some ⟨b, off, none⟩)) 8 (kept_below w) rfl (by kernel_rfl) (by kernel_rfl) (fun _ _ _ h => h) (fun _ h => h) (DoesV.reads (by rfl) fun w9 hS => by go_simp) ?_
  try simp only [nrm, Act.put]
  refine wpAnyV_take (i := 3) (v := .pointer (some ⟨b, off, none⟩)) 8 (kept_below w) rfl (by kernel_rfl) (by kernel_rfl) (fun _ _ _ h => h) (fun _ h => h) (DoesV.reads (by rfl) fun w9 hS => by go_simp) ?_
  try simp only [nrm, Act.put]
  refine wpAnyV_take (i := 4) (v := .string ⟨x1.toArray⟩) 8 (kept_below w) rfl (by kernel_rfl) (by kernel_rfl) (fun _ _ _ h => h) (fun _ h => h) (DoesV.reads (by rfl) fun w9 hS => by have q9 := (hS.cell (lt_of_cell Q1.out)).trans Q1.out; go_simp) ?_
  try simp only [nrm, Act.put]
  refine wpAnyV_take (i := 5) (v := .pointer (some ⟨b, off, none⟩)) 8 (kept_below w) rfl (by kernel_rfl) (by kernel_rfl) (fun _ _ _ h => h) (fun _ h => h) (DoesV.reads (by rfl) fun w9 hS => by go_simp) ?_
  try simp only [nrm, Act.put]
  refine wpAnyV_take (i := 6) (v := .pointer (some ⟨b, off, none⟩)) 8 (kept_below w) rfl (by kernel_rfl) (by kernel_rfl) (fun _ _ _ h => h) (fun _ h => h) (DoesV.reads (by rfl) fun w9 hS => by go_simp) ?_
  try simp only [nrm, Act.put]
  refine wpAnyV_take (i := 7) (v := .pointer (some ⟨b, off + 1, none⟩)) 8 (kept_below w) rfl (by kernel_rfl) (by kernel_rfl) (fun _ _ _ h => h) (fun _ h => h) (DoesV.reads (by rfl) fun w9 hS => by go_simp) ?_
  try simp only [nrm, Act.put]
  refine wpAnyV_take (i := 8) (v := .slice A1 x2.length c1) 8 (kept_below w) rfl (by kernel_rfl) (by kernel_rfl) (fun _ _ _ h => h) (fun _ h => h) (DoesV.reads (by rfl) fun w9 hS => by have q9 := (hS.cell (lt_of_cell Q2.out)).trans Q2.out; go_simp) ?_
  try simp only [nrm, Act.put]
  refine wpAnyV_only (i := 9) rfl (by kernel_rfl) rfl (fun u hS => wp_of_call (by go_simp) (HCL.out u hS) fun e u' ⟨v1, he, hv, hty, hk, hb⟩ => ⟨v1, he, (fun y => Below w.heap.size w y ∧ NewV y (w.heap.size ≤ ·) v1 x2), ⟨below_chain hS hb, (newV_of hv hty hk).mono fun q _ h => Nat.le_trans hS.size h⟩, kept_and (kept_below w) (kept_newV _ _ _), fun _ y h => h.1, ?_⟩)
  try simp only [nrm, Act.put]
  obtain ⟨A2, c2, hv2, -⟩ := id hv
  subst hv2
  refine wpAnyV_pure (i := 10) (v := .agg #[.string ⟨x1.toArray⟩, .slice A2 x2.length c2, .bool false]) (kept_and (kept_below w) (kept_newV _ _ _)) rfl (by kernel_rfl) (by kernel_rfl) (fun _ _ _ h => h) (DoesV.reads (by rfl) fun w9 hS => by go_simp) ?_
  try simp only [nrm, Act.put]
  refine wpAnyV_only (i := 11) rfl (by kernel_rfl) rfl (fun y hy => wp_buildC _ rfl (x1, x2, false) A2 c2 _ rfl rfl fun g8 y' hk hb hg => ⟨(fun y => (Below w.heap.size w y ∧ NewV y (w.heap.size ≤ ·) (.slice A2 x2.length c2) x2) ∧ Cs y g8 123 (chCells (x1, x2, false) A2 c2).toArray), ⟨⟨below_chain hy.1 hb, hy.2.below hb⟩, hk⟩, kept_and (kept_and (kept_below w) (kept_newV _ _ _)) (kept_cs _ _ _), fun _ y h => h.1, ?_⟩)
  try simp only [nrm, Act.put]
  refine wpAnyV_only (i := 12) rfl (by kernel_rfl) rfl (fun y hy => wp_append_x1 (E := chgM) _ _ rfl B (fun k => B ≤ k ∧ k ≠ G) v0 ls rfl (OX.out.below hy.1.1) g8 1 rfl (chCells (x1, x2, false) A2 c2) (x1, x2, false) ⟨_, rfl, hy.1.2.mono fun q _ hq => ⟨⟨Nat.le_trans BW.out hq, fun e => absurd (e ▸ hq) (Nat.not_le.2 GL.out)⟩, fun e => absurd hq (Nat.not_le.2 (OL.out q e))⟩⟩ 123 hy.2 (by omega) (Nat.le_trans BW.out hy.1.1.size) ⟨Nat.le_trans BW.out hy.1.1.size, fun e => absurd GL.out (Nat.not_lt.2 (e ▸ hy.1.1.size))⟩ fun v3 y' ho3 hg3 => ⟨(fun y => Below B w y ∧ OwnX chgM y B (fun k => B ≤ k ∧ k ≠ G) v3 (ls ++ [(x1, x2, false)]) ∧ Cs y G 90 #[v0]), ⟨(hy.1.1.mono BW.out).grown hg3 (Nat.le_trans BW.out hy.1.1.size) (fun q e => (OX.out.lt q e).1), ho3, (CG.out.below hy.1.1 CG.out.lt).turn (Turn.of_grown hg3) (fun e => (OX.out.sub _ e).2 rfl)⟩, kept_and (kept_belowB BW.out) (kept_and (kept_ownX _ _ _ _) (kept_cs _ _ _)), fun h => absurd (by simp) h, ?_⟩)
  try simp only [nrm, Act.put]
  refine wpAnyV_only (i := 13) rfl (by kernel_rfl) rfl (fun y hy => wp_store1 90 _ _ rfl G 0 rfl v3 rfl hy.2.1.one (by kernel_rfl) 90 _ hy.2.2 (by simp) fun y' hk ht => ⟨(fun y => Below B w y ∧ OutX chgM B G y (ls ++ [(x1, x2, false)])), ⟨hy.1.trans (ht.below (Nat.le_trans BW.out hy.1.size) fun q e => e ▸ BG.out), ⟨v3, hk, hy.2.1.turn ht fun q hq e => hq.2 e⟩⟩, kept_and (kept_belowB BW.out) (kept_outX _ _ _ _), fun h => absurd (by simp) h, ?_⟩)
  try simp only [nrm, Act.put]
  refine wpAnyV_done (by kernel_rfl) (fun u hu => ?_) _
  have HU := Lib.hid hu
  clear hu
  go_wp2_with fail
  go_end0
  exact ⟨⟨_, rfl⟩, HU.out.2, HU.out.1⟩
set_option maxHeartbeats 4000000 in
theorem betw1_both (x1 x2 : List UInt8) (b off : Nat) (A1 : Option Addr) (c1 : Nat) (F : Nat → Prop) (y1 y2 : List UInt8) (b2 off2 : Nat) (A3 : Option Addr) (c3 : Nat) (F3 : Nat → Prop) (B G : Nat) (w : World) (ls : List Ch) (hat : At w b off (rwCells (x1, x2) A1 c1)) (hbv : BsV w F (.slice A1 x2.length c1) x2) (hx : x2.length ≤ 8192) (hat3 : At w b2 off2 (rwCells (y1, y2) A3 c3)) (hbv3 : BsV w F3 (.slice A3 y2.length c3) y2) (hl : ls.length ≤ 100000) (ho : OutX chgM B G w ls) (hB : B ≤ w.heap.size) (hG : B ≤ G) :
    Calls Tryd.prog 80 #[.pointer (some ⟨b2, off2, none⟩), .pointer (some ⟨b, off, none⟩), .pointer (some ⟨G, 0, none⟩)] w fun e w' => (∃ v, e = .returned v) ∧ OutX chgM B G w' (ls ++ putB7 (y1, y2) (x1, x2)) ∧ Below B w w' := by
  have hmix : Tryd.prog.follows .mixedOrders = true := by kernel_rfl
  obtain ⟨v0, hcg, hox⟩ := ho
  have QG := Lib.hid (hcg.cell 0 rfl)
  have CG := Lib.hid hcg
  have OX := Lib.hid hox
  have BW := Lib.hid hB
  have BG := Lib.hid hG
  have GL := Lib.hid hcg.lt
  have OL := Lib.hid (fun q e => (hox.lt q e).2)
  clear hcg hox hB hG
  have Q3 := Lib.hid (hat3 1 _ rfl)
  have heq := fun u (hu : Below w.heap.size w u) => Equal_any y2 x2 A3 A1 c3 c1 u ((hbv3.at).2.1.below hu) ((hbv.at).2.1.below hu)
  have HEQ := Lib.hid heq
  clear heq hat3 hbv3
  have Q1 := Lib.hid (hat 0 _ rfl)
  have Q2 := Lib.hid (hat 1 _ rfl)
  rw [Nat.add_zero] at Q1
  obtain ⟨hbr, hbn⟩ : Rd w A1 x2 ∧ (A1 = none → x2 = [] ∧ c1 = 0) := by
    obtain ⟨A', c', e, h1, h2, h3⟩ := hbv
    cases e
    exact ⟨h1.rd, h2⟩
  have hcl := fun u (hu : Below w.heap.size w u) => Clone_ty x2 A1 c1 u (by omega) (hbr.below hu) hbn
  have HCL := Lib.hid hcl
  clear hcl hbr hbn hbv
  by_cases hv : y2 = x2
  · have e1 : (y2 == x2) = true := by simpa using hv
    have e2 : putB7 (y1, y2) (x1, x2) = [] := if_pos hv
    rw [e2, List.append_nil]
    clear hv e2
    go_enter Tryd.func80, Tryd.ntmps80
    go_wp2_with fail
    refine wp_region_V [] (Below w.heap.size w) hmix ((Below.refl _ _).drew) ?_
    change wpAnyV _ _ _ _ _ _ _ _ _
    refine wpAnyV_take (i := 0) (v := .pointer (some ⟨b2, off2, none⟩)) 8 (kept_below w) rfl (by kernel_rfl) (by kernel_rfl) (fun _ _ _ h => h) (fun _ h => h) (DoesV.reads (by rfl) fun w9 hS => by go_simp) ?_
    try simp only [nrm, Act.put]
    refine wpAnyV_take (i := 1) (v := .bool false) 8 (kept_below w) rfl (by kernel_rfl) (by kernel_rfl) (fun _ _ _ h => h) (fun _ h => h) (DoesV.reads (by rfl) fun w9 hS => by go_simp) ?_
    try simp only [nrm, Act.put]
    refine wpAnyV_take (i := 2) (v := .bool false) 8 (kept_below w) rfl (by kernel_rfl) (by kernel_rfl) (fun _ _ _ h => h) (fun _ h => h) (DoesV.reads (by rfl) fun w9 hS => by go_simp) ?_
    try simp only [nrm, Act.put]
    refine wpAnyV_take (i := 3) (v := .pointer (some ⟨b2, off2, none⟩)) 8 (kept_below w) rfl (by kernel_rfl) (by kernel_rfl) (fun _ _ _ h => h) (fun _ h => h) (DoesV.reads (by rfl) fun w9 hS => by go_simp) ?_
    try simp only [nrm, Act.put]
    refine wpAnyV_take (i := 4) (v := .pointer (some ⟨b2, off2, none⟩)) 8 (kept_below w) rfl (by kernel_rfl) (by kernel_rfl) (fun _ _ _ h => h) (fun _ h => h) (DoesV.reads (by rfl) fun w9 hS => by go_simp) ?_
    try simp only [nrm, Act.put]
    refine wpAnyV_take (i := 5) (v := .pointer (some ⟨b2, off2 + 1, none⟩)) 8 (kept_below w) rfl (by kernel_rfl) (by kernel_rfl) (fun _ _ _ h => h) (fun _ h => h) (DoesV.reads (by rfl) fun w9 hS => by go_simp) ?_
    try simp only [nrm, Act.put]
    refine wpAnyV_take (i := 6) (v := .slice A3 y2.length c3) 8 (kept_below w) rfl (by kernel_rfl) (by kernel_rfl) (fun _ _ _ h => h) (fun _ h => h) (DoesV.reads (by rfl) fun w9 hS => by have q9 := (hS.cell (lt_of_cell Q3.out)).trans Q3.out; go_simp) ?_
    try simp only [nrm, Act.put]
    refine wpAnyV_take (i := 7) (v := .pointer (some ⟨b, off, none⟩)) 8 (kept_below w) rfl (by kernel_rfl) (by kernel_rfl) (fun _ _ _ h => h) (fun _ h => h) (DoesV.reads (by rfl) fun w9 hS => by go_simp) ?_
    try simp only [nrm, Act.put]
    refine wpAnyV_take (i := 8) (v := .pointer (some ⟨b, off, none⟩)) 8 (kept_below w) rfl (by kernel_rfl) (by kernel_rfl) (fun _ _ _ h => h) (fun _ h => h) (DoesV.reads (by rfl) fun w9 hS => by go_simp) ?_
    try simp only [nrm, Act.put]
    refine wpAnyV_take (i := 9) (v := .pointer (some ⟨b, off + 1, none⟩)) 8 (kept_below w) rfl (by kernel_rfl) (by kernel_rfl) (fun _ _ _ h => h) (fun _ h => h) (DoesV.reads (by rfl) fun w9 hS => by go_simp) ?_
    try simp only [nrm, Act.put]
    refine wpAnyV_take (i := 10) (v := .slice A1 x2.length c1) 8 (kept_below w) rfl (by kernel_rfl) (by kernel_rfl) (fun _ _ _ h => h) (fun _ h => h) (DoesV.reads (by rfl) fun w9 hS => by have q9 := (hS.cell (lt_of_cell Q2.out)).trans Q2.out; go_simp) ?_
    try simp only [nrm, Act.put]
    refine wpAnyV_take (i := 11) (v := .bool (y2 == x2)) 8 (kept_below w) rfl (by kernel_rfl) (by kernel_rfl) (fun _ _ _ h => h) (fun _ h => h) (DoesV.calls 63 #[.slice A3 y2.length c3, .slice A1 x2.length c1] (by rfl) (fun w9 hS => by go_simp) (fun w9 hS => (HEQ.out w9 hS).mono fun e w' h => ⟨h.1, h.2 ▸ Below.refl _ _⟩)) ?_
    try simp only [nrm, Act.put]
    refine wpAnyV_take (i := 12) (v := .bool (!(y2 == x2))) 8 (kept_below w) rfl (by kernel_rfl) (by kernel_rfl) (fun _ _ _ h => h) (fun _ h => h) (DoesV.reads (by rfl) fun w9 hS => by go_simp) ?_
    try simp only [nrm, Act.put]
    refine wpAnyV_take (i := 13) (v := .bool (!(y2 == x2))) 8 (kept_below w) rfl (by kernel_rfl) (by kernel_rfl) (fun _ _ _ h => h) (fun _ h => h) (DoesV.reads (by rfl) fun w9 hS => by go_simp) ?_
    try simp only [nrm, Act.put]
    refine wpAnyV_take (i := 14) (v := .bool (!(y2 == x2))) 8 (kept_below w) rfl (by kernel_rfl) (by kernel_rfl) (fun _ _ _ h => h) (fun _ h => h) (DoesV.reads (by rfl) fun w9 hS => by go_simp) ?_
    try simp only [nrm, Act.put]
    refine wpAnyV_done (by kernel_rfl) (fun u0 hu => ?_) _
    have HU0 := Lib.hid hu
    clear hu
    rw [e1]
    go_wp2_with fail
    go_end0
    exact ⟨⟨_, rfl⟩, ⟨v0, CG.out.below HU0.out CG.out.lt, OX.out.below HU0.out⟩, HU0.out.mono BW.out⟩
  · have e1 : (y2 == x2) = false := by simpa using hv
    have e2 : putB7 (y1, y2) (x1, x2) = [(x1, x2, false)] := if_neg hv
    rw [e2]
    clear hv e2
    go_enter Tryd.func80, Tryd.ntmps80
    go_wp2_with fail
    refine wp_region_V [] (Below w.heap.size w) hmix ((Below.refl _ _).drew) ?_
    change wpAnyV _ _ _ _ _ _ _ _ _
    refine wpAnyV_take (i := 0) (v := .pointer (some ⟨b2, off2, none⟩)) 8 (kept_below w) rfl (by kernel_rfl) (by kernel_rfl) (fun _ _ _ h => h) (fun _ h => h) (DoesV.reads (by rfl) fun w9 hS => by go_simp) ?_
    try simp only [nrm, Act.put]
    refine wpAnyV_take (i := 1) (v := .bool false) 8 (kept_below w) rfl (by kernel_rfl) (by kernel_rfl) (fun _ _ _ h => h) (fun _ h => h) (DoesV.reads (by rfl) fun w9 hS => by go_simp) ?_
    try simp only [nrm, Act.put]
    refine wpAnyV_take (i := 2) (v := .bool false) 8 (kept_below w) rfl (by kernel_rfl) (by kernel_rfl) (fun _ _ _ h => h) (fun _ h => h) (DoesV.reads (by rfl) fun w9 hS => by go_simp) ?_
    try simp only [nrm, Act.put]
    refine wpAnyV_take (i := 3) (v := .pointer (some ⟨b2, off2, none⟩)) 8 (kept_below w) rfl (by kernel_rfl) (by kernel_rfl) (fun _ _ _ h => h) (fun _ h => h) (DoesV.reads (by rfl) fun w9 hS => by go_simp) ?_
    try simp only [nrm, Act.put]
    refine wpAnyV_take (i := 4) (v := .pointer (some ⟨b2, off2, none⟩)) 8 (kept_below w) rfl (by kernel_rfl) (by kernel_rfl) (fun _ _ _ h => h) (fun _ h => h) (DoesV.reads (by rfl) fun w9 hS => by go_simp) ?_
    try simp only [nrm, Act.put]
    refine wpAnyV_take (i := 5) (v := .pointer (some ⟨b2, off2 + 1, none⟩)) 8 (kept_below w) rfl (by kernel_rfl) (by kernel_rfl) (fun _ _ _ h => h) (fun _ h => h) (DoesV.reads (by rfl) fun w9 hS => by go_simp) ?_
    try simp only [nrm, Act.put]
    refine wpAnyV_take (i := 6) (v := .slice A3 y2.length c3) 8 (kept_below w) rfl (by kernel_rfl) (by kernel_rfl) (fun _ _ _ h => h) (fun _ h => h) (DoesV.reads (by rfl) fun w9 hS => by have q9 := (hS.cell (lt_of_cell Q3.out)).trans Q3.out; go_simp) ?_
    try simp only [nrm, Act.put]
    refine wpAnyV_take (i := 7) (v := .pointer (some ⟨b, off, none⟩)) 8 (kept_below w) rfl (by kernel_rfl) (by kernel_rfl) (fun _ _ _ h => h) (fun _ h => h) (DoesV.reads (by rfl) fun w9 hS => by go_simp) ?_
    try simp only [nrm, Act.put]
    refine wpAnyV_take (i := 8) (v := .pointer (some ⟨b, off, none⟩)) 8 (kept_below w) rfl (by kernel_rfl) (by kernel_rfl) (fun _ _ _ h => h) (fun _ h => h) (DoesV.reads (by rfl) fun w9 hS => by go_simp) ?_
    try simp only [nrm, Act.put]
    refine wpAnyV_take (i := 9) (v := .pointer (some ⟨b, off + 1, none⟩)) 8 (kept_below w) rfl (by kernel_rfl) (by kernel_rfl) (fun _ _ _ h => h) (fun _ h => h) (DoesV.reads (by rfl) fun w9 hS => by go_simp) ?_
    try simp only [nrm, Act.put]
    refine wpAnyV_take (i := 10) (v := .slice A1 x2.length c1) 8 (kept_below w) rfl (by kernel_rfl) (by kernel_rfl) (fun _ _ _ h => h) (fun _ h => h) (DoesV.reads (by rfl) fun w9 hS => by have q9 := (hS.cell (lt_of_cell Q2.out)).trans Q2.out; go_simp) ?_
    try simp only [nrm, Act.put]
    refine wpAnyV_take (i := 11) (v := .bool (y2 == x2)) 8 (kept_below w) rfl (by kernel_rfl) (by kernel_rfl) (fun _ _ _ h => h) (fun _ h => h) (DoesV.calls 63 #[.slice A3 y2.length c3, .slice A1 x2.length c1] (by rfl) (fun w9 hS => by go_simp) (fun w9 hS => (HEQ.out w9 hS).mono fun e w' h => ⟨h.1, h.2 ▸ Below.refl _ _⟩)) ?_
    try simp only [nrm, Act.put]
    refine wpAnyV_take (i := 12) (v := .bool (!(y2 == x2))) 8 (kept_below w) rfl (by kernel_rfl) (by kernel_rfl) (fun _ _ _ h => h) (fun _ h => h) (DoesV.reads (by rfl) fun w9 hS => by go_simp) ?_
    try simp only [nrm, Act.put]
    refine wpAnyV_take (i := 13) (v := .bool (!(y2 == x2))) 8 (kept_below w) rfl (by kernel_rfl) (by kernel_rfl) (fun _ _ _ h => h) (fun _ h => h) (DoesV.reads (by rfl) fun w9 hS => by go_simp) ?_
    try simp only [nrm, Act.put]
    refine wpAnyV_take (i := 14) (v := .bool (!(y2 == x2))) 8 (kept_below w) rfl (by kernel_rfl) (by kernel_rfl) (fun _ _ _ h => h) (fun _ h => h) (DoesV.reads (by rfl) fun w9 hS => by go_simp) ?_
    try simp only [nrm, Act.put]
    refine wpAnyV_done (by kernel_rfl) (fun u0 hu => ?_) _
    have HU0 := Lib.hid hu
    clear hu
    rw [e1]
    go_wp2_with fail
    refine wp_region_V [12, 13] (Below w.heap.size w) hmix (HU0.out.drew) ?_
    change wpAnyV _ _ _ _ _ _ _ _ _
    refine wpAnyV_take (i := 0) (v := v0) 8 (kept_below w) rfl (by kernel_rfl) (by kernel_rfl) (fun _ _ _ h => h) (fun _ h => h) (DoesV.reads (by rfl) fun w9 hS => by have q9 := (hS.cell (lt_of_cell QG.out)).trans QG.out; go_simp) ?_
    try simp only [nrm, Act.put]
    refine wpAnyV_take (i := 1) (v := .pointer (some ⟨b, off, none⟩)) 8 (kept_below w) rfl (by kernel_rfl) (by kernel_rfl) (fun _ _ _ h => h) (fun _ h => h) (DoesV.reads (by rfl) fun w9 hS => by go_simp) ?_
    try simp only [nrm, Act.put]
    refine wpAnyV_take (i := 2) (v := .pointer (some ⟨b, off, none⟩)) 8 (kept_below w) rfl (by kernel_rfl) (by kernel_rfl) (fun _ _ _ h => h) (fun _ h => h) (DoesV.reads (by rfl) fun w9 hS => by go_simp) ?_
    try simp only [nrm, Act.put]
    refine wpAnyV_take (i := 3) (v := .pointer (some ⟨b, off, none⟩)) 8 (kept_below w) rfl (by kernel_rfl) (by kernel_rfl) (fun _ _ _ h => h) (fun _ h => h) (DoesV.reads (by rfl) fun w9 hS => by go_simp) ?_
    try simp only [nrm, Act.put]
    refine wpAnyV_take (i := 4) (v := .string ⟨x1.toArray⟩) 8 (kept_below w) rfl (by kernel_rfl) (by kernel_rfl) (fun _ _ _ h => h) (fun _ h => h) (DoesV.reads (by rfl) fun w9 hS => by have q9 := (hS.cell (lt_of_cell Q1.out)).trans Q1.out; go_simp) ?_
    try simp only [nrm, Act.put]
    refine wpAnyV_take (i := 5) (v := .pointer (some ⟨b, off, none⟩)) 8 (kept_below w) rfl (by kernel_rfl) (by kernel_rfl) (fun _ _ _ h => h) (fun _ h => h) (DoesV.reads (by rfl) fun w9 hS => by go_simp) ?_
    try simp only [nrm, Act.put]
    refine wpAnyV_take (i := 6) (v := .pointer (some ⟨b, off, none⟩)) 8 (kept_below w) rfl (by kernel_rfl) (by kernel_rfl) (fun _ _ _ h => h) (fun _ h => h) (DoesV.reads (by rfl) fun w9 hS => by go_simp) ?_
    try simp only [nrm, Act.put]
    refine wpAnyV_take (i := 7) (v := .pointer (some ⟨b, off + 1, none⟩)) 8 (kept_below w) rfl (by kernel_rfl) (by kernel_rfl) (fun _ _ _ h => h) (fun _ h => h) (DoesV.reads (by rfl) fun w9 hS => by go_simp) ?_
    try simp only [nrm, Act.put]
    refine wpAnyV_take (i := 8) (v := .slice A1 x2.length c1) 8 (kept_below w) rfl (by kernel_rfl) (by kernel_rfl) (fun _ _ _ h => h) (fun _ h => h) (DoesV.reads (by rfl) fun w9 hS => by have q9 := (hS.cell (lt_of_cell Q2.out)).trans Q2.out; go_simp) ?_
    try simp only [nrm, Act.put]
    refine wpAnyV_only (i := 9) rfl (by kernel_rfl) rfl (fun u hS => wp_of_call (by go_simp) (HCL.out u hS) fun e u' ⟨v1, he, hv, hty, hk, hb⟩ => ⟨v1, he, (fun y => Below w.heap.size w y ∧ NewV y (w.heap.size ≤ ·) v1 x2), ⟨below_chain hS hb, (newV_of hv hty hk).mono fun q _ h => Nat.le_trans hS.size h⟩, kept_and (kept_below w) (kept_newV _ _ _), fun _ y h => h.1, ?_⟩)
    try simp only [nrm, Act.put]
    obtain ⟨A2, c2, hv2, -⟩ := id hv
    subst hv2
    refine wpAnyV_pure (i := 10) (v := .agg #[.string ⟨x1.toArray⟩, .slice A2 x2.length c2, .bool false]) (kept_and (kept_below w) (kept_newV _ _ _)) rfl (by kernel_rfl) (by kernel_rfl) (fun _ _ _ h => h) (DoesV.reads (by rfl) fun w9 hS => by go_simp) ?_
    try simp only [nrm, Act.put]
    refine wpAnyV_only (i := 11) rfl (by kernel_rfl) rfl (fun y hy => wp_buildC _ rfl (x1, x2, false) A2 c2 _ rfl rfl fun g8 y' hk hb hg => ⟨(fun y => (Below w.heap.size w y ∧ NewV y (w.heap.size ≤ ·) (.slice A2 x2.length c2) x2) ∧ Cs y g8 123 (chCells (x1, x2, false) A2 c2).toArray), ⟨⟨below_chain hy.1 hb, hy.2.below hb⟩, hk⟩, kept_and (kept_and (kept_below w) (kept_newV _ _ _)) (kept_cs _ _ _), fun _ y h => h.1, ?_⟩)
    try simp only [nrm, Act.put]
    refine wpAnyV_only (i := 12) rfl (by kernel_rfl) rfl (fun y hy => wp_append_x1 (E := chgM) _ _ rfl B (fun k => B ≤ k ∧ k ≠ G) v0 ls rfl (OX.out.below hy.1.1) g8 1 rfl (chCells (x1, x2, false) A2 c2) (x1, x2, false) ⟨_, rfl, hy.1.2.mono fun q _ hq => ⟨⟨Nat.le_trans BW.out hq, fun e => absurd (e ▸ hq) (Nat.not_le.2 GL.out)⟩, fun e => absurd hq (Nat.not_le.2 (OL.out q e))⟩⟩ 123 hy.2 (by omega) (Nat.le_trans BW.out hy.1.1.size) ⟨Nat.le_trans BW.out hy.1.1.size, fun e => absurd GL.out (Nat.not_lt.2 (e ▸ hy.1.1.size))⟩ fun v3 y' ho3 hg3 => ⟨(fun y => Below B w y ∧ OwnX chgM y B (fun k => B ≤ k ∧ k ≠ G) v3 (ls ++ [(x1, x2, false)]) ∧ Cs y G 90 #[v0]), ⟨(hy.1.1.mono BW.out).grown hg3 (Nat.le_trans BW.out hy.1.1.size) (fun q e => (OX.out.lt q e).1), ho3, (CG.out.below hy.1.1 CG.out.lt).turn (Turn.of_grown hg3) (fun e => (OX.out.sub _ e).2 rfl)⟩, kept_and (kept_belowB BW.out) (kept_and (kept_ownX _ _ _ _) (kept_cs _ _ _)), fun h => absurd (by simp) h, ?_⟩)
    try simp only [nrm, Act.put]
    refine wpAnyV_only (i := 13) rfl (by kernel_rfl) rfl (fun y hy => wp_store1 90 _ _ rfl G 0 rfl v3 rfl hy.2.1.one (by kernel_rfl) 90 _ hy.2.2 (by simp) fun y' hk ht => ⟨(fun y => Below B w y ∧ OutX chgM B G y (ls ++ [(x1, x2, false)])), ⟨hy.1.trans (ht.below (Nat.le_trans BW.out hy.1.size) fun q e => e ▸ BG.out), ⟨v3, hk, hy.2.1.turn ht fun q hq e => hq.2 e⟩⟩, kept_and (kept_belowB BW.out) (kept_outX _ _ _ _), fun h => absurd (by simp) h, ?_⟩)
    try simp only [nrm, Act.put]
    refine wpAnyV_done (by kernel_rfl) (fun u hu => ?_) _
    have HU := Lib.hid hu
    clear hu
    go_wp2_with fail
    go_end0
    exact ⟨⟨_, rfl⟩, HU.out.2, HU.out.1⟩

end Go.Proofs.YtdhlejhflkfoaaaDoor

/- batch: two lists side by side. -/
namespace Go.Proofs.YtdhlejhflkfoaaaDoor
open Go.RowKit Go.Shelf
set_option linter.unusedVariables false
set_option maxRecDepth 100000
set_option linter.unusedSimpArgs false

theorem mB_nil : mergeB [] [] = [] := by simp [mergeB]
theorem mB_row (x : Rw) (t : List Rw) : mergeB (x :: t) [] = (x.1, [], true) :: mergeB t [] := by rw [mergeB]
theorem mB_chg (c : Rw) (l : List Rw) : mergeB [] (c :: l) = (c.1, c.2, false) :: mergeB [] l := by rw [mergeB]
theorem mB_lt {x : Rw} {c : Rw} (t : List Rw) (l : List Rw) (h : lessK x.1 c.1 = true) : mergeB (x :: t) (c :: l) = (x.1, [], true) :: mergeB t (c :: l) := by rw [mergeB, if_pos h]
theorem mB_gt {x : Rw} {c : Rw} (t : List Rw) (l : List Rw) (h : lessK x.1 c.1 = false) (k : lessK c.1 x.1 = true) : mergeB (x :: t) (c :: l) = (c.1, c.2, false) :: mergeB (x :: t) l := by rw [mergeB, if_neg (by simp [h]), if_pos k]
theorem mB_eq {x : Rw} {c : Rw} (t : List Rw) (l : List Rw) (h : lessK x.1 c.1 = false) (k : lessK c.1 x.1 = false) : mergeB (x :: t) (c :: l) = putB7 x c ++ mergeB t l := by rw [mergeB, if_neg (by simp [h]), if_neg (by simp [k])]
theorem putB7_len (x y : Rw) : (putB7 x y).length ≤ 1 := by unfold putB7; split <;> simp
theorem row_first {w w' : World} {F : Nat → Prop} {A : Option Addr} {x1 x2 : List UInt8} {ls : List Rw} (h : RdX rowE w F A ((x1, x2) :: ls)) (hb : Below w.heap.size w w') : ∃ b off A' c, A = some ⟨b, off, none⟩ ∧ At w' b off (rwCells (x1, x2) A' c) ∧ BsV w' F (.slice A' x2.length c) x2 := by
  obtain ⟨b, off, A', c, e, hat, hbv⟩ := row_rd (h.below hb) 0 (by simp)
  simp only [Nat.zero_mul, Nat.add_zero, List.getElem_cons_zero] at hat hbv
  exact ⟨b, off, A', c, e, hat, hbv⟩
theorem At.below {w w' : World} {b off : Nat} {cs : List Value} (h : At w b off cs) (hb : Below w.heap.size w w') : At w' b off cs := fun j v hv => (hb.cell (lt_of_cell (h j v hv))).trans (h j v hv)
/-- the sum of two slices' lengths -/
def lens2 (a b : Value) : Nat := match a, b with
  | .slice _ n _, .slice _ m _ => n + m
  | _, _ => 0
set_option maxHeartbeats 8000000 in
theorem side_between (t : List Rw) (l : List Rw) (A B : Option Addr) (ca cb : Nat) (F F' : Nat → Prop) (G : Nat) (w0 w : World) (ht : ∀ x ∈ t, x.2.length ≤ 8192) (hl : ∀ x ∈ l, x.2.length ≤ 8192) (hlen : t.length + l.length ≤ 100000) (hca : t.length ≤ ca) (hcb : l.length ≤ cb) (hr : RdX rowE w0 F A t) (hc : RdX rowE w0 F' B l) (hb : Below w0.heap.size w0 w) (hG : w0.heap.size ≤ G) (ho : OutX chgM w0.heap.size G w []) :
    Calls Tryd.prog 79 #[.slice A t.length ca, .slice B l.length cb, .func (.func 43) #[] #[], .func (.func 43) #[] #[], .func (.func 80) #[] #[.pointer (some ⟨G, 0, none⟩)]] w fun e w' => (∃ v, e = .returned v) ∧ OutX chgM w0.heap.size G w' (mergeB t l) ∧ Below w0.heap.size w0 w' := by
  have hmix : Tryd.prog.follows .mixedOrders = true := by kernel_rfl
  have H0 := Lib.hid (And.intro (And.intro ht hl) (And.intro hr hc))
  have HL := Lib.hid (And.intro hlen (And.intro hca hcb))
  have HB := Lib.hid hb
  have HG := Lib.hid hG
  have HO := Lib.hid ho
  clear ht hl hlen hca hcb hr hc hb hG ho
  go_enter Tryd.func79, Tryd.ntmps79
  go_wp2_with fail
  go_loopw [0, 1] (fun s0 s1 wr => ∃ (A' B' : Option Addr) (ca' cb' : Nat) (t' : List Rw) (l' : List Rw) (done : List Ch), s0 = .slice A' t'.length ca' ∧ s1 = .slice B' l'.length cb' ∧ (((∀ x ∈ t', x.2.length ≤ 8192) ∧ ∀ x ∈ l', x.2.length ≤ 8192) ∧ RdX rowE w0 F A' t' ∧ RdX rowE w0 F' B' l') ∧ (done.length + (t'.length + l'.length) ≤ 100000 ∧ t'.length ≤ ca' ∧ l'.length ≤ cb') ∧ done ++ mergeB t' l' = mergeB t l ∧ OutX chgM w0.heap.size G wr done ∧ Below w0.heap.size w0 wr) (fun s0 s1 _ => lens2 s0 s1)
  case atStart => exact ⟨A, B, ca, cb, t, l, [], rfl, rfl, H0.out, ⟨by have := HL.out.1; simpa using this, HL.out.2⟩, rfl, HO.out, HB.out⟩
  case round =>
    obtain ⟨A', B', ca', cb', t', l', done, rfl, rfl, h0, hlen, hE, ho, hb⟩ := hrel
    have H := Lib.hid h0
    have HL := Lib.hid hlen
    have HE := Lib.hid hE
    have HO := Lib.hid ho
    have HB := Lib.hid hb
    have hts : t'.length ≤ 100000 := by omega
    have hls : l'.length ≤ 100000 := by omega
    clear h0 hlen hE ho hb
    rcases t' with _ | ⟨⟨x1, x2⟩, t2⟩
    · rcases l' with _ | ⟨⟨y1, y2⟩, l2⟩
      · go_wp2_with fail
        go_end0
        have hE := HE.out
        rw [mB_nil, List.append_nil] at hE
        rw [← hE]
        exact ⟨⟨_, rfl⟩, HO.out, HB.out⟩
      · skip
        obtain ⟨b2, off2, A3, c3, rfl, hat2, hbv2⟩ := row_first H.out.2.2 HB.out
        obtain ⟨o2, hsl2, ho2⟩ := slR_1 b2 off2 (l2.length + 1) cb' (by omega) (by have := HL.out.2.2; simpa using this)
        rw [Nat.add_sub_cancel] at hsl2
        have SL2 := Lib.hid hsl2
        have TL2 := Lib.hid (rdx_tail H.out.2.2 HL.out.2.2 ho2)
        have AT2 := Lib.hid hat2
        have BV2 := Lib.hid hbv2
        clear hsl2 ho2 hat2 hbv2
        have p2 : (0 : Int) < (l2.length : Int) + 1 := by omega
        have p2' : (0 : Int) < ((l2.length + 1 : Nat) : Int) := by omega
        have n2 : ((l2.length : Int) + 1 == 0) = false := by rw [beq_eq_false_iff_ne]; omega
        have n2' : (((l2.length + 1 : Nat) : Int) == 0) = false := by rw [beq_eq_false_iff_ne]; omega
        simp only [List.length_cons] at hls
        have s2 : (l2.length : Int) + 1 ≤ 100000 := by omega
        go_wp2_with fail
        refine wp_region_V [] (Below wr.heap.size wr) hmix ((Below.refl _ _).drew) ?_
        change wpAnyV _ _ _ _ _ _ _ _ _
        refine wpAnyV_take (i := 0) (v := .slice (some ⟨b2, off2, none⟩) (l2.length + 1) cb') 8 (kept_below wr) rfl (by kernel_rfl) (by kernel_rfl) (fun _ _ _ h => h) (fun _ h => h) (DoesV.reads (by rfl) fun w9 hS => by go_simp) ?_
        try simp only [nrm, Act.put]
        refine wpAnyV_take (i := 1) (v := .pointer (some ⟨b2, off2, none⟩)) 8 (kept_below wr) rfl (by kernel_rfl) (by kernel_rfl) (fun _ _ _ h => h) (fun _ h => h) (DoesV.reads (by rfl) fun w9 hS => by go_simp) ?_
        try simp only [nrm, Act.put]
        refine wpAnyV_take (i := 2) (v := .slice (some ⟨b2, off2, none⟩) (l2.length + 1) cb') 8 (kept_below wr) rfl (by kernel_rfl) (by kernel_rfl) (fun _ _ _ h => h) (fun _ h => h) (DoesV.reads (by rfl) fun w9 hS => by go_simp) ?_
        try simp only [nrm, Act.put]
        refine wpAnyV_take (i := 3) (v := .slice (some ⟨b2, o2, none⟩) l2.length (cb' - 1)) 8 (kept_below wr) rfl (by kernel_rfl) (by kernel_rfl) (fun _ _ _ h => h) (fun _ h => h) (DoesV.reads (by rfl) fun w9 hS => by have h9 := SL2.out w9; go_simp) ?_
        try simp only [nrm, Act.put]
        refine wpAnyV_take (i := 4) (v := .pointer (some ⟨b2, off2, none⟩)) 8 (kept_below wr) rfl (by kernel_rfl) (by kernel_rfl) (fun _ _ _ h => h) (fun _ h => h) (DoesV.reads (by rfl) fun w9 hS => by go_simp) ?_
        try simp only [nrm, Act.put]
        refine wpAnyV_take (i := 5) (v := .slice (some ⟨b2, o2, none⟩) l2.length (cb' - 1)) 8 (kept_below wr) rfl (by kernel_rfl) (by kernel_rfl) (fun _ _ _ h => h) (fun _ h => h) (DoesV.reads (by rfl) fun w9 hS => by go_simp) ?_
        try simp only [nrm, Act.put]
        refine wpAnyV_done (by kernel_rfl) (fun u1 hu => ?_) _
        have Bu1 := Lib.hid hu
        clear hu
        go_wp2_with fail
        have EQ := Lib.hid (show (done ++ [(y1, y2, false)]) ++ _ = mergeB t l from by rw [← HE.out, mB_chg, List.append_assoc]; first | done | rfl)
        refine (betw1_new y1 y2 b2 off2 A3 c3 F' w0.heap.size G u1 done (AT2.out.below Bu1.out) (BV2.out.below Bu1.out) (H.out.1.2 (y1, y2) (by simp)) (by have := HL.out.1; omega) (HO.out.below Bu1.out) (Nat.le_trans HB.out.size Bu1.out.size) HG.out).mono ?_
        rintro e w5 ⟨⟨v5, rfl⟩, ho5, hb5⟩
        have O5 := Lib.hid ho5
        have B5 := Lib.hid ((HB.out.trans (Bu1.out.mono HB.out.size)).trans hb5)
        clear ho5 hb5
        go_wp2_with fail
        go_roundw
        case rel => exact ⟨A', some ⟨b2, o2, none⟩, ca', cb' - 1, [], l2, done ++ [(y1, y2, false)], rfl, rfl, ⟨⟨H.out.1.1, fun x hx => H.out.1.2 x (by simp [hx])⟩, H.out.2.1, TL2.out⟩, ⟨by have h1 := HL.out.1;  simp only [List.length_append, List.length_cons, List.length_nil] at h1 ⊢; omega, by have h1 := HL.out.2.1; simp only [List.length_cons, List.length_nil] at h1 ⊢; omega, by have h1 := HL.out.2.2; simp only [List.length_cons, List.length_nil] at h1 ⊢; omega⟩, EQ.out, O5.out, B5.out⟩
        case measure => simp [lens2] <;> omega
    · rcases l' with _ | ⟨⟨y1, y2⟩, l2⟩
      · skip
        obtain ⟨b, off, A1, c1, rfl, hat1, hbv1⟩ := row_first H.out.2.1 HB.out
        obtain ⟨o1, hsl1, ho1⟩ := slR_1 b off (t2.length + 1) ca' (by omega) (by have := HL.out.2.1; simpa using this)
        rw [Nat.add_sub_cancel] at hsl1
        have SL1 := Lib.hid hsl1
        have TL1 := Lib.hid (rdx_tail H.out.2.1 HL.out.2.1 ho1)
        have AT1 := Lib.hid hat1
        have BV1 := Lib.hid hbv1
        clear hsl1 ho1 hat1 hbv1
        have p1 : (0 : Int) < (t2.length : Int) + 1 := by omega
        have p1' : (0 : Int) < ((t2.length + 1 : Nat) : Int) := by omega
        have n1 : ((t2.length : Int) + 1 == 0) = false := by rw [beq_eq_false_iff_ne]; omega
        have n1' : (((t2.length + 1 : Nat) : Int) == 0) = false := by rw [beq_eq_false_iff_ne]; omega
        simp only [List.length_cons] at hts
        have s1 : (t2.length : Int) + 1 ≤ 100000 := by omega
        go_wp2_with fail
        refine wp_region_V [] (Below wr.heap.size wr) hmix ((Below.refl _ _).drew) ?_
        change wpAnyV _ _ _ _ _ _ _ _ _
        refine wpAnyV_take (i := 0) (v := .slice (some ⟨b, off, none⟩) (t2.length + 1) ca') 8 (kept_below wr) rfl (by kernel_rfl) (by kernel_rfl) (fun _ _ _ h => h) (fun _ h => h) (DoesV.reads (by rfl) fun w9 hS => by go_simp) ?_
        try simp only [nrm, Act.put]
        refine wpAnyV_take (i := 1) (v := .pointer (some ⟨b, off, none⟩)) 8 (kept_below wr) rfl (by kernel_rfl) (by kernel_rfl) (fun _ _ _ h => h) (fun _ h => h) (DoesV.reads (by rfl) fun w9 hS => by go_simp) ?_
        try simp only [nrm, Act.put]
        refine wpAnyV_take (i := 2) (v := .slice (some ⟨b, off, none⟩) (t2.length + 1) ca') 8 (kept_below wr) rfl (by kernel_rfl) (by kernel_rfl) (fun _ _ _ h => h) (fun _ h => h) (DoesV.reads (by rfl) fun w9 hS => by go_simp) ?_
        try simp only [nrm, Act.put]
        refine wpAnyV_take (i := 3) (v := .slice (some ⟨b, o1, none⟩) t2.length (ca' - 1)) 8 (kept_below wr) rfl (by kernel_rfl) (by kernel_rfl) (fun _ _ _ h => h) (fun _ h => h) (DoesV.reads (by rfl) fun w9 hS => by have h9 := SL1.out w9; go_simp) ?_
        try simp only [nrm, Act.put]
        refine wpAnyV_take (i := 4) (v := .pointer (some ⟨b, off, none⟩)) 8 (kept_below wr) rfl (by kernel_rfl) (by kernel_rfl) (fun _ _ _ h => h) (fun _ h => h) (DoesV.reads (by rfl) fun w9 hS => by go_simp) ?_
        try simp only [nrm, Act.put]
        refine wpAnyV_take (i := 5) (v := .slice (some ⟨b, o1, none⟩) t2.length (ca' - 1)) 8 (kept_below wr) rfl (by kernel_rfl) (by kernel_rfl) (fun _ _ _ h => h) (fun _ h => h) (DoesV.reads (by rfl) fun w9 hS => by go_simp) ?_
        try simp only [nrm, Act.put]
        refine wpAnyV_done (by kernel_rfl) (fun u1 hu => ?_) _
        have Bu1 := Lib.hid hu
        clear hu
        go_wp2_with fail
        have EQ := Lib.hid (show (done ++ [(x1, [], true)]) ++ _ = mergeB t l from by rw [← HE.out, mB_row, List.append_assoc]; first | done | rfl)
        refine (betw1_gone x1 x2 b off A1 c1 w0.heap.size G u1 done (AT1.out.below Bu1.out) (by have := HL.out.1; omega) (HO.out.below Bu1.out) (Nat.le_trans HB.out.size Bu1.out.size) HG.out).mono ?_
        rintro e w5 ⟨⟨v5, rfl⟩, ho5, hb5⟩
        have O5 := Lib.hid ho5
        have B5 := Lib.hid ((HB.out.trans (Bu1.out.mono HB.out.size)).trans hb5)
        clear ho5 hb5
        go_wp2_with fail
        go_roundw
        case rel => exact ⟨some ⟨b, o1, none⟩, B', ca' - 1, cb', t2, [], done ++ [(x1, [], true)], rfl, rfl, ⟨⟨fun x hx => H.out.1.1 x (by simp [hx]), H.out.1.2⟩, TL1.out, H.out.2.2⟩, ⟨by have h1 := HL.out.1;  simp only [List.length_append, List.length_cons, List.length_nil] at h1 ⊢; omega, by have h1 := HL.out.2.1; simp only [List.length_cons, List.length_nil] at h1 ⊢; omega, by have h1 := HL.out.2.2; simp only [List.length_cons, List.length_nil] at h1 ⊢; omega⟩, EQ.out, O5.out, B5.out⟩
        case measure => simp [lens2] <;> omega
      · skip
        obtain ⟨b, off, A1, c1, rfl, hat1, hbv1⟩ := row_first H.out.2.1 HB.out
        obtain ⟨o1, hsl1, ho1⟩ := slR_1 b off (t2.length + 1) ca' (by omega) (by have := HL.out.2.1; simpa using this)
        rw [Nat.add_sub_cancel] at hsl1
        have SL1 := Lib.hid hsl1
        have TL1 := Lib.hid (rdx_tail H.out.2.1 HL.out.2.1 ho1)
        have AT1 := Lib.hid hat1
        have BV1 := Lib.hid hbv1
        clear hsl1 ho1 hat1 hbv1
        have p1 : (0 : Int) < (t2.length : Int) + 1 := by omega
        have p1' : (0 : Int) < ((t2.length + 1 : Nat) : Int) := by omega
        have n1 : ((t2.length : Int) + 1 == 0) = false := by rw [beq_eq_false_iff_ne]; omega
        have n1' : (((t2.length + 1 : Nat) : Int) == 0) = false := by rw [beq_eq_false_iff_ne]; omega
        simp only [List.length_cons] at hts
        have s1 : (t2.length : Int) + 1 ≤ 100000 := by omega
        obtain ⟨b2, off2, A3, c3, rfl, hat2, hbv2⟩ := row_first H.out.2.2 HB.out
        obtain ⟨o2, hsl2, ho2⟩ := slR_1 b2 off2 (l2.length + 1) cb' (by omega) (by have := HL.out.2.2; simpa using this)
        rw [Nat.add_sub_cancel] at hsl2
        have SL2 := Lib.hid hsl2
        have TL2 := Lib.hid (rdx_tail H.out.2.2 HL.out.2.2 ho2)
        have AT2 := Lib.hid hat2
        have BV2 := Lib.hid hbv2
        clear hsl2 ho2 hat2 hbv2
        have p2 : (0 : Int) < (l2.length : Int) + 1 := by omega
        have p2' : (0 : Int) < ((l2.length + 1 : Nat) : Int) := by omega
        have n2 : ((l2.length : Int) + 1 == 0) = false := by rw [beq_eq_false_iff_ne]; omega
        have n2' : (((l2.length + 1 : Nat) : Int) == 0) = false := by rw [beq_eq_false_iff_ne]; omega
        simp only [List.length_cons] at hls
        have s2 : (l2.length : Int) + 1 ≤ 100000 := by omega
        have hlb := less_bytes
        go_wp2_with fail
        refine wp_region_V [] (Below wr.heap.size wr) hmix ((Below.refl _ _).drew) ?_
        change wpAnyV _ _ _ _ _ _ _ _ _
        refine wpAnyV_take (i := 0) (v := .func (.func 43) #[] #[]) 8 (kept_below wr) rfl (by kernel_rfl) (by kernel_rfl) (fun _ _ _ h => h) (fun _ h => h) (DoesV.reads (by rfl) fun w9 hS => by go_simp) ?_
        try simp only [nrm, Act.put]
        refine wpAnyV_take (i := 1) (v := .slice (some ⟨b, off, none⟩) (t2.length + 1) ca') 8 (kept_below wr) rfl (by kernel_rfl) (by kernel_rfl) (fun _ _ _ h => h) (fun _ h => h) (DoesV.reads (by rfl) fun w9 hS => by go_simp) ?_
        try simp only [nrm, Act.put]
        refine wpAnyV_take (i := 2) (v := .pointer (some ⟨b, off, none⟩)) 8 (kept_below wr) rfl (by kernel_rfl) (by kernel_rfl) (fun _ _ _ h => h) (fun _ h => h) (DoesV.reads (by rfl) fun w9 hS => by go_simp) ?_
        try simp only [nrm, Act.put]
        refine wpAnyV_take (i := 3) (v := .agg (rwCells (x1, x2) A1 c1).toArray) 8 (kept_below wr) rfl (by kernel_rfl) (by kernel_rfl) (fun _ _ _ h => h) (fun _ h => h) (DoesV.loadS (by rfl) 41 _ rfl b off rfl (rwCells (x1, x2) A1 c1) (fun w9 hS => AT1.out.below hS) _ Tryd.underlying41 rfl (infoRw (x1, x2) A1 c1)) ?_
        try simp only [nrm, Act.put]
        refine wpAnyV_take (i := 4) (v := .string ⟨x1.toArray⟩) 8 (kept_below wr) rfl (by kernel_rfl) (by kernel_rfl) (fun _ _ _ h => h) (fun _ h => h) (DoesV.calls 43 #[.agg (rwCells (x1, x2) A1 c1).toArray] (by rfl) (fun w9 hS => by go_simp) (fun w9 hS => keyOfRow_any (x1, x2) A1 c1 w9)) ?_
        try simp only [nrm, Act.put]
        refine wpAnyV_take (i := 5) (v := .func (.func 43) #[] #[]) 8 (kept_below wr) rfl (by kernel_rfl) (by kernel_rfl) (fun _ _ _ h => h) (fun _ h => h) (DoesV.reads (by rfl) fun w9 hS => by go_simp) ?_
        try simp only [nrm, Act.put]
        refine wpAnyV_take (i := 6) (v := .slice (some ⟨b2, off2, none⟩) (l2.length + 1) cb') 8 (kept_below wr) rfl (by kernel_rfl) (by kernel_rfl) (fun _ _ _ h => h) (fun _ h => h) (DoesV.reads (by rfl) fun w9 hS => by go_simp) ?_
        try simp only [nrm, Act.put]
        refine wpAnyV_take (i := 7) (v := .pointer (some ⟨b2, off2, none⟩)) 8 (kept_below wr) rfl (by kernel_rfl) (by kernel_rfl) (fun _ _ _ h => h) (fun _ h => h) (DoesV.reads (by rfl) fun w9 hS => by go_simp) ?_
        try simp only [nrm, Act.put]
        refine wpAnyV_take (i := 8) (v := .agg (rwCells (y1, y2) A3 c3).toArray) 8 (kept_below wr) rfl (by kernel_rfl) (by kernel_rfl) (fun _ _ _ h => h) (fun _ h => h) (DoesV.loadS (by rfl) 41 _ rfl b2 off2 rfl (rwCells (y1, y2) A3 c3) (fun w9 hS => AT2.out.below hS) _ Tryd.underlying41 rfl (infoRw (y1, y2) A3 c3)) ?_
        try simp only [nrm, Act.put]
        refine wpAnyV_take (i := 9) (v := .string ⟨y1.toArray⟩) 8 (kept_below wr) rfl (by kernel_rfl) (by kernel_rfl) (fun _ _ _ h => h) (fun _ h => h) (DoesV.calls 43 #[.agg (rwCells (y1, y2) A3 c3).toArray] (by rfl) (fun w9 hS => by go_simp) (fun w9 hS => keyOfRow_any (y1, y2) A3 c3 w9)) ?_
        try simp only [nrm, Act.put]
        refine wpAnyV_take (i := 10) (v := .int .i64 (cmpK x1 y1)) 8 (kept_below wr) rfl (by kernel_rfl) (by kernel_rfl) (fun _ _ _ h => h) (fun _ h => h) (DoesV.calls 94 #[.string ⟨x1.toArray⟩, .string ⟨y1.toArray⟩] (by rfl) (fun w9 hS => by go_simp) (fun w9 hS => (Compare_any x1 y1 w9).mono fun e w' h => ⟨h.1, h.2 ▸ Below.refl _ _⟩)) ?_
        try simp only [nrm, Act.put]
        refine wpAnyV_take (i := 11) (v := .int .i64 (cmpK x1 y1)) 8 (kept_below wr) rfl (by kernel_rfl) (by kernel_rfl) (fun _ _ _ h => h) (fun _ h => h) (DoesV.reads (by rfl) fun w9 hS => by go_simp) ?_
        try simp only [nrm, Act.put]
        refine wpAnyV_done (by kernel_rfl) (fun u1 hu => ?_) _
        have Bu1 := Lib.hid hu
        clear hu
        cases hlt : lessK x1 y1
        · cases hgt : lessK y1 x1
          · have hc : cmpK x1 y1 = 0 := by simp [cmpK, hlt, hgt]
            rw [hc]
            have MQ := Lib.hid (mB_eq (x := (x1, x2)) (c := (y1, y2)) t2 l2 hlt hgt)
            clear hlt hgt hc
            go_wp2_with fail
            refine wp_region_V [] (Below wr.heap.size wr) hmix (Bu1.out.drew) ?_
            change wpAnyV _ _ _ _ _ _ _ _ _
            refine wpAnyV_take (i := 0) (v := .slice (some ⟨b, off, none⟩) (t2.length + 1) ca') 8 (kept_below wr) rfl (by kernel_rfl) (by kernel_rfl) (fun _ _ _ h => h) (fun _ h => h) (DoesV.reads (by rfl) fun w9 hS => by go_simp) ?_
            try simp only [nrm, Act.put]
            refine wpAnyV_take (i := 1) (v := .pointer (some ⟨b, off, none⟩)) 8 (kept_below wr) rfl (by kernel_rfl) (by kernel_rfl) (fun _ _ _ h => h) (fun _ h => h) (DoesV.reads (by rfl) fun w9 hS => by go_simp) ?_
            try simp only [nrm, Act.put]
            refine wpAnyV_take (i := 2) (v := .slice (some ⟨b, off, none⟩) (t2.length + 1) ca') 8 (kept_below wr) rfl (by kernel_rfl) (by kernel_rfl) (fun _ _ _ h => h) (fun _ h => h) (DoesV.reads (by rfl) fun w9 hS => by go_simp) ?_
            try simp only [nrm, Act.put]
            refine wpAnyV_take (i := 3) (v := .slice (some ⟨b, o1, none⟩) t2.length (ca' - 1)) 8 (kept_below wr) rfl (by kernel_rfl) (by kernel_rfl) (fun _ _ _ h => h) (fun _ h => h) (DoesV.reads (by rfl) fun w9 hS => by have h9 := SL1.out w9; go_simp) ?_
            try simp only [nrm, Act.put]
            refine wpAnyV_take (i := 4) (v := .pointer (some ⟨b, off, none⟩)) 8 (kept_below wr) rfl (by kernel_rfl) (by kernel_rfl) (fun _ _ _ h => h) (fun _ h => h) (DoesV.reads (by rfl) fun w9 hS => by go_simp) ?_
            try simp only [nrm, Act.put]
            refine wpAnyV_take (i := 5) (v := .slice (some ⟨b, o1, none⟩) t2.length (ca' - 1)) 8 (kept_below wr) rfl (by kernel_rfl) (by kernel_rfl) (fun _ _ _ h => h) (fun _ h => h) (DoesV.reads (by rfl) fun w9 hS => by go_simp) ?_
            try simp only [nrm, Act.put]
            refine wpAnyV_done (by kernel_rfl) (fun u2 hu => ?_) _
            have Bu2 := Lib.hid hu
            clear hu
            go_wp2_with fail
            refine wp_region_V [] (Below wr.heap.size wr) hmix (Bu2.out.drew) ?_
            change wpAnyV _ _ _ _ _ _ _ _ _
            refine wpAnyV_take (i := 0) (v := .slice (some ⟨b2, off2, none⟩) (l2.length + 1) cb') 8 (kept_below wr) rfl (by kernel_rfl) (by kernel_rfl) (fun _ _ _ h => h) (fun _ h => h) (DoesV.reads (by rfl) fun w9 hS => by go_simp) ?_
            try simp only [nrm, Act.put]
            refine wpAnyV_take (i := 1) (v := .pointer (some ⟨b2, off2, none⟩)) 8 (kept_below wr) rfl (by kernel_rfl) (by kernel_rfl) (fun _ _ _ h => h) (fun _ h => h) (DoesV.reads (by rfl) fun w9 hS => by go_simp) ?_
            try simp only [nrm, Act.put]
            refine wpAnyV_take (i := 2) (v := .slice (some ⟨b2, off2, none⟩) (l2.length + 1) cb') 8 (kept_below wr) rfl (by kernel_rfl) (by kernel_rfl) (fun _ _ _ h => h) (fun _ h => h) (DoesV.reads (by rfl) fun w9 hS => by go_simp) ?_
            try simp only [nrm, Act.put]
            refine wpAnyV_take (i := 3) (v := .slice (some ⟨b2, o2, none⟩) l2.length (cb' - 1)) 8 (kept_below wr) rfl (by kernel_rfl) (by kernel_rfl) (fun _ _ _ h => h) (fun _ h => h) (DoesV.reads (by rfl) fun w9 hS => by have h9 := SL2.out w9; go_simp) ?_
            try simp only [nrm, Act.put]
            refine wpAnyV_take (i := 4) (v := .pointer (some ⟨b2, off2, none⟩)) 8 (kept_below wr) rfl (by kernel_rfl) (by kernel_rfl) (fun _ _ _ h => h) (fun _ h => h) (DoesV.reads (by rfl) fun w9 hS => by go_simp) ?_
            try simp only [nrm, Act.put]
            refine wpAnyV_take (i := 5) (v := .slice (some ⟨b2, o2, none⟩) l2.length (cb' - 1)) 8 (kept_below wr) rfl (by kernel_rfl) (by kernel_rfl) (fun _ _ _ h => h) (fun _ h => h) (DoesV.reads (by rfl) fun w9 hS => by go_simp) ?_
            try simp only [nrm, Act.put]
            refine wpAnyV_done (by kernel_rfl) (fun u3 hu => ?_) _
            have Bu3 := Lib.hid hu
            clear hu
            go_wp2_with fail
            have EQ := Lib.hid (show (done ++ putB7 (x1, x2) (y1, y2)) ++ _ = mergeB t l from by rw [← HE.out, MQ.out, List.append_assoc])
            refine (betw1_both y1 y2 b2 off2 A3 c3 F' x1 x2 b off A1 c1 F w0.heap.size G u3 done (AT2.out.below Bu3.out) (BV2.out.below Bu3.out) (H.out.1.2 (y1, y2) (by simp)) (AT1.out.below Bu3.out) (BV1.out.below Bu3.out) (by have := HL.out.1; omega) (HO.out.below Bu3.out) (Nat.le_trans HB.out.size Bu3.out.size) HG.out).mono ?_
            rintro e w5 ⟨⟨v5, rfl⟩, ho5, hb5⟩
            have O5 := Lib.hid ho5
            have B5 := Lib.hid ((HB.out.trans (Bu3.out.mono HB.out.size)).trans hb5)
            clear ho5 hb5
            go_wp2_with fail
            go_roundw
            case rel => exact ⟨some ⟨b, o1, none⟩, some ⟨b2, o2, none⟩, ca' - 1, cb' - 1, t2, l2, done ++ putB7 (x1, x2) (y1, y2), rfl, rfl, ⟨⟨fun x hx => H.out.1.1 x (by simp [hx]), fun x hx => H.out.1.2 x (by simp [hx])⟩, TL1.out, TL2.out⟩, ⟨by have h1 := HL.out.1; have h2 := putB7_len (x1, x2) (y1, y2); simp only [List.length_append, List.length_cons, List.length_nil] at h1 ⊢; omega, by have h1 := HL.out.2.1; simp only [List.length_cons, List.length_nil] at h1 ⊢; omega, by have h1 := HL.out.2.2; simp only [List.length_cons, List.length_nil] at h1 ⊢; omega⟩, EQ.out, O5.out, B5.out⟩
            case measure => simp [lens2] <;> omega
          · have hc : cmpK x1 y1 = 1 := by simp [cmpK, hlt, hgt]
            rw [hc]
            have MQ := Lib.hid (mB_gt (x := (x1, x2)) (c := (y1, y2)) t2 l2 hlt hgt)
            clear hlt hgt hc
            go_wp2_with fail
            refine wp_region_V [] (Below wr.heap.size wr) hmix (Bu1.out.drew) ?_
            change wpAnyV _ _ _ _ _ _ _ _ _
            refine wpAnyV_take (i := 0) (v := .slice (some ⟨b2, off2, none⟩) (l2.length + 1) cb') 8 (kept_below wr) rfl (by kernel_rfl) (by kernel_rfl) (fun _ _ _ h => h) (fun _ h => h) (DoesV.reads (by rfl) fun w9 hS => by go_simp) ?_
            try simp only [nrm, Act.put]
            refine wpAnyV_take (i := 1) (v := .pointer (some ⟨b2, off2, none⟩)) 8 (kept_below wr) rfl (by kernel_rfl) (by kernel_rfl) (fun _ _ _ h => h) (fun _ h => h) (DoesV.reads (by rfl) fun w9 hS => by go_simp) ?_
            try simp only [nrm, Act.put]
            refine wpAnyV_take (i := 2) (v := .slice (some ⟨b2, off2, none⟩) (l2.length + 1) cb') 8 (kept_below wr) rfl (by kernel_rfl) (by kernel_rfl) (fun _ _ _ h => h) (fun _ h => h) (DoesV.reads (by rfl) fun w9 hS => by go_simp) ?_
            try simp only [nrm, Act.put]
            refine wpAnyV_take (i := 3) (v := .slice (some ⟨b2, o2, none⟩) l2.length (cb' - 1)) 8 (kept_below wr) rfl (by kernel_rfl) (by kernel_rfl) (fun _ _ _ h => h) (fun _ h => h) (DoesV.reads (by rfl) fun w9 hS => by have h9 := SL2.out w9; go_simp) ?_
            try simp only [nrm, Act.put]
            refine wpAnyV_take (i := 4) (v := .pointer (some ⟨b2, off2, none⟩)) 8 (kept_below wr) rfl (by kernel_rfl) (by kernel_rfl) (fun _ _ _ h => h) (fun _ h => h) (DoesV.reads (by rfl) fun w9 hS => by go_simp) ?_
            try simp only [nrm, Act.put]
            refine wpAnyV_take (i := 5) (v := .slice (some ⟨b2, o2, none⟩) l2.length (cb' - 1)) 8 (kept_below wr) rfl (by kernel_rfl) (by kernel_rfl) (fun _ _ _ h => h) (fun _ h => h) (DoesV.reads (by rfl) fun w9 hS => by go_simp) ?_
            try simp only [nrm, Act.put]
            refine wpAnyV_done (by kernel_rfl) (fun u2 hu => ?_) _
            have Bu2 := Lib.hid hu
            clear hu
            go_wp2_with fail
            have EQ := Lib.hid (show (done ++ [(y1, y2, false)]) ++ _ = mergeB t l from by rw [← HE.out, MQ.out, List.append_assoc]; first | done | rfl)
            refine (betw1_new y1 y2 b2 off2 A3 c3 F' w0.heap.size G u2 done (AT2.out.below Bu2.out) (BV2.out.below Bu2.out) (H.out.1.2 (y1, y2) (by simp)) (by have := HL.out.1; omega) (HO.out.below Bu2.out) (Nat.le_trans HB.out.size Bu2.out.size) HG.out).mono ?_
            rintro e w5 ⟨⟨v5, rfl⟩, ho5, hb5⟩
            have O5 := Lib.hid ho5
            have B5 := Lib.hid ((HB.out.trans (Bu2.out.mono HB.out.size)).trans hb5)
            clear ho5 hb5
            go_wp2_with fail
            go_roundw
            case rel => exact ⟨some ⟨b, off, none⟩, some ⟨b2, o2, none⟩, ca', cb' - 1, (x1, x2) :: t2, l2, done ++ [(y1, y2, false)], rfl, rfl, ⟨⟨H.out.1.1, fun x hx => H.out.1.2 x (by simp [hx])⟩, H.out.2.1, TL2.out⟩, ⟨by have h1 := HL.out.1;  simp only [List.length_append, List.length_cons, List.length_nil] at h1 ⊢; omega, by have h1 := HL.out.2.1; simp only [List.length_cons, List.length_nil] at h1 ⊢; omega, by have h1 := HL.out.2.2; simp only [List.length_cons, List.length_nil] at h1 ⊢; omega⟩, EQ.out, O5.out, B5.out⟩
            case measure => simp [lens2] <;> omega
        · have hc : cmpK x1 y1 = -1 := by simp [cmpK, hlt]
          rw [hc]
          have MQ := Lib.hid (mB_lt (x := (x1, x2)) (c := (y1, y2)) t2 l2 hlt)
          clear hlt hc
          go_wp2_with fail
          refine wp_region_V [] (Below wr.heap.size wr) hmix (Bu1.out.drew) ?_
          change wpAnyV _ _ _ _ _ _ _ _ _
          refine wpAnyV_take (i := 0) (v := .slice (some ⟨b, off, none⟩) (t2.length + 1) ca') 8 (kept_below wr) rfl (by kernel_rfl) (by kernel_rfl) (fun _ _ _ h => h) (fun _ h => h) (DoesV.reads (by rfl) fun w9 hS => by go_simp) ?_
          try simp only [nrm, Act.put]
          refine wpAnyV_take (i := 1) (v := .pointer (some ⟨b, off, none⟩)) 8 (kept_below wr) rfl (by kernel_rfl) (by kernel_rfl) (fun _ _ _ h => h) (fun _ h => h) (DoesV.reads (by rfl) fun w9 hS => by go_simp) ?_
          try simp only [nrm, Act.put]
          refine wpAnyV_take (i := 2) (v := .slice (some ⟨b, off, none⟩) (t2.length + 1) ca') 8 (kept_below wr) rfl (by kernel_rfl) (by kernel_rfl) (fun _ _ _ h => h) (fun _ h => h) (DoesV.reads (by rfl) fun w9 hS => by go_simp) ?_
          try simp only [nrm, Act.put]
          refine wpAnyV_take (i := 3) (v := .slice (some ⟨b, o1, none⟩) t2.length (ca' - 1)) 8 (kept_below wr) rfl (by kernel_rfl) (by kernel_rfl) (fun _ _ _ h => h) (fun _ h => h) (DoesV.reads (by rfl) fun w9 hS => by have h9 := SL1.out w9; go_simp) ?_
          try simp only [nrm, Act.put]
          refine wpAnyV_take (i := 4) (v := .pointer (some ⟨b, off, none⟩)) 8 (kept_below wr) rfl (by kernel_rfl) (by kernel_rfl) (fun _ _ _ h => h) (fun _ h => h) (DoesV.reads (by rfl) fun w9 hS => by go_simp) ?_
          try simp only [nrm, Act.put]
          refine wpAnyV_take (i := 5) (v := .slice (some ⟨b, o1, none⟩) t2.length (ca' - 1)) 8 (kept_below wr) rfl (by kernel_rfl) (by kernel_rfl) (fun _ _ _ h => h) (fun _ h => h) (DoesV.reads (by rfl) fun w9 hS => by go_simp) ?_
          try simp only [nrm, Act.put]
          refine wpAnyV_done (by kernel_rfl) (fun u2 hu => ?_) _
          have Bu2 := Lib.hid hu
          clear hu
          go_wp2_with fail
          have EQ := Lib.hid (show (done ++ [(x1, [], true)]) ++ _ = mergeB t l from by rw [← HE.out, MQ.out, List.append_assoc]; first | done | rfl)
          refine (betw1_gone x1 x2 b off A1 c1 w0.heap.size G u2 done (AT1.out.below Bu2.out) (by have := HL.out.1; omega) (HO.out.below Bu2.out) (Nat.le_trans HB.out.size Bu2.out.size) HG.out).mono ?_
          rintro e w5 ⟨⟨v5, rfl⟩, ho5, hb5⟩
          have O5 := Lib.hid ho5
          have B5 := Lib.hid ((HB.out.trans (Bu2.out.mono HB.out.size)).trans hb5)
          clear ho5 hb5
          go_wp2_with fail
          go_roundw
          case rel => exact ⟨some ⟨b, o1, none⟩, some ⟨b2, off2, none⟩, ca' - 1, cb', t2, (y1, y2) :: l2, done ++ [(x1, [], true)], rfl, rfl, ⟨⟨fun x hx => H.out.1.1 x (by simp [hx]), H.out.1.2⟩, TL1.out, H.out.2.2⟩, ⟨by have h1 := HL.out.1;  simp only [List.length_append, List.length_cons, List.length_nil] at h1 ⊢; omega, by have h1 := HL.out.2.1; simp only [List.length_cons, List.length_nil] at h1 ⊢; omega, by have h1 := HL.out.2.2; simp only [List.length_cons, List.length_nil] at h1 ⊢; omega⟩, EQ.out, O5.out, B5.out⟩
          case measure => simp [lens2] <;> omega

end Go.Proofs.YtdhlejhflkfoaaaDoor

/- What layer 7's program answers: Put, Get, May, MayChange, Shared, Find, Apply, Between. -/
namespace Go.Proofs.YtdhlejhflkfoaaaDoor
open Go.RowKit Go.Shelf
set_option linter.unusedVariables false
set_option maxRecDepth 100000
set_option linter.unusedSimpArgs false

theorem LsW.mono {α : Type} {E : Elem α} {w : World} {F G : Nat → Prop} {v : Value} {ls : List α} (h : LsW E w F v ls) (hF : ∀ k, k < w.heap.size → F k → G k) : LsW E w G v ls := by
  obtain ⟨A, c, h1, h2, h3⟩ := h
  exact ⟨A, c, h1, h2.mono hF, h3⟩
theorem OutX.new {α : Type} {E : Elem α} {B : Nat} {w : World} (hB : B ≤ w.heap.size) : OutX E B w.heap.size (w.alloc (.cells #[.slice none 0 0] E.sty)) [] := ⟨_, Cs.new _ _ _, OwnX.nil _ _ _⟩
theorem OutX.cell {α : Type} {E : Elem α} {B G : Nat} {w : World} {ls : List α} (h : OutX E B G w ls) : ∃ v, w.cell? ⟨G, 0, none⟩ = some v ∧ LsW E w (B ≤ ·) v ls := by
  obtain ⟨v, h1, h2⟩ := h
  exact ⟨v, h1.cell 0 rfl, h2.lsW.mono fun k _ h => h.1⟩
theorem mayP_vals {t : List Rw} (h : mayP t = true) : ∀ x ∈ t, x.2.length ≤ 8192 := fun x hx => (((may_iff t).1 h).1 x hx).2.2
set_option maxHeartbeats 4000000 in
theorem Between_any (t : List Rw) (l : List Rw) (v u : Value) (F G : Nat → Prop) (w : World) (hs : SmallR t) (hs2 : SmallR l) (ht : t.length ≤ 20000) (hl : l.length ≤ 20000) (hr : LsW rowE w F v t) (hr2 : LsW rowE w G u l) :
    Calls Tryd.prog 59 #[v, u] w fun e w' => P7Betw t l w e w' := by
  obtain ⟨A, c, rfl, hra, hca, hcm, -⟩ := hr
  obtain ⟨B, d, rfl, hrb, hdb, hdm, -⟩ := hr2
  have hm1 := fun u hb => May_any t A c F u hs (hra.below hb)
  have hm2 := fun u hb => May_any l B d G u hs2 (hrb.below hb)
  have HA := Lib.hid (And.intro hra hrb)
  have HC := Lib.hid (And.intro hca hdb)
  unfold P7Betw
  obtain ⟨m1, h1⟩ : ∃ m, mayP t = m := ⟨_, rfl⟩
  obtain ⟨m2, h2⟩ : ∃ m, mayP l = m := ⟨_, rfl⟩
  rw [h1] at hm1
  rw [h2] at hm2
  rw [h1, h2]
  have M1 := Lib.hid hm1
  have M2 := Lib.hid hm2
  have H1 := Lib.hid h1
  have H2 := Lib.hid h2
  clear hs hs2 hra hrb hca hdb hcm hdm hm1 hm2 h1 h2
  cases m1
  · go_enter Tryd.func59, Tryd.ntmps59
    go_wp2_with fail
    refine (M1.out w (Below.refl _ _)).mono ?_
    rintro e w1 ⟨rfl, hb⟩
    go_wp2_with fail
    go_ret2
    exact ⟨hb, _, rfl, LsW.nil _ _⟩
  · cases m2
    · go_enter Tryd.func59, Tryd.ntmps59
      go_wp2_with fail
      refine (M1.out w (Below.refl _ _)).mono ?_
      rintro e w1 ⟨rfl, hb⟩
      go_wp2_with fail
      refine (M2.out w1 hb).mono ?_
      rintro e w2 ⟨rfl, hb2⟩
      go_wp2_with fail
      go_ret2
      exact ⟨below_chain hb hb2, _, rfl, LsW.nil _ _⟩
    · have HM := Lib.hid (merge_between H1.out H2.out)
      go_enter Tryd.func59, Tryd.ntmps59
      go_wp2_with fail
      refine (M1.out w (Below.refl _ _)).mono ?_
      rintro e w1 ⟨rfl, hb⟩
      go_wp2_with fail
      refine (M2.out w1 hb).mono ?_
      rintro e w2 ⟨rfl, hb2⟩
      have B2 := Lib.hid (below_chain hb hb2)
      clear hb hb2
      go_wp2_with fail
      refine (side_between t l A B c d F G w2.heap.size w _ (mayP_vals H1.out) (mayP_vals H2.out) (by omega) HC.out.1 HC.out.2 HA.out.1 HA.out.2 (B2.out.alloc B2.out.size _) B2.out.size (OutX.new (E := chgM) B2.out.size)).mono ?_
      rintro e w3 ⟨⟨v3, rfl⟩, ho, hb3⟩
      obtain ⟨v4, hc4, hv4⟩ := ho.cell
      have B3 := Lib.hid hb3
      have V4 := Lib.hid hv4
      clear ho hb3 hv4
      go_wp2_with fail
      go_ret2
      refine ⟨B3.out, _, rfl, ?_⟩
      have := V4.out
      rw [HM.out] at this
      exact this
end Go.Proofs.YtdhlejhflkfoaaaDoor
/- A region that draws its order, beside calls and stores that change memory: what is read (T0) no operation changes but the barriers bs, which all wait for the reader. Of no program. -/
namespace Go.Proofs.YtdhlejhflkfoaaaDoor
open Go.RowKit Go.Shelf
set_option linter.unusedVariables false
set_option maxRecDepth 100000

section
variable {P : Program} {ops : Array Oper} {Q : Exit → Act → World → Prop} {md : Region.Mode}
/-- whatever order is picked from here on, in whatever world that meets S; T0 is met until a barrier came -/
def wpAnyX (P : Program) (md : Region.Mode) (ops : Array Oper) (Q : Exit → Act → World → Prop) (bs : List Nat) (T0 : World → Prop) : (World → Prop) → Nat → Array Bool → Act → Prop
  | S, 0, listed, a => Region.ready md ops listed = [] ∧ ∀ w, S w → Q .normal a w
  | S, fuel + 1, listed, a => (Region.ready md ops listed = [] → ∀ w, S w → Q .normal a w) ∧
      ∀ i ∈ Region.ready md ops listed, ∀ w, S w → wpOp P ops Q i (fun a' w' => ∃ (S' : World → Prop), S' w' ∧ Kept S' ∧ (i ∉ bs → ∀ u, S' u → T0 u) ∧ wpAnyX P md ops Q bs T0 S' fuel (listed.setIfInBounds i true) a') a w
theorem wpAny_of_X {bs : List Nat} {T0 : World → Prop} : ∀ (fuel : Nat) (S : World → Prop) (listed : Array Bool) (a : Act) (w : World), S w → wpAnyX P md ops Q bs T0 S fuel listed a → wpAny P md ops Q fuel listed a w
  | 0, _, _, _, w, hS, h => ⟨h.1, h.2 w hS⟩
  | fuel + 1, _, _, _, w, hS, h => ⟨fun hr => h.1 hr w hS, fun i hi => wpOp_mono (fun a' w' ⟨S', h1, _, _, h2⟩ => wpAny_of_X fuel S' _ a' w' h1 h2) (h.2 i hi w hS)⟩
theorem wpAnyX_first {bs : List Nat} {T0 : World → Prop} {i : Nat} {o : Oper} {v : Value} (hi : ops[i]? = some o) (hib : i ∉ bs) (hsel : ∀ (j : Nat) (p : Oper) cs b, ops[j]? = some p → p.op ≠ .select cs b) (hQ : ∀ c a w, Q (.panic c) (a.put o.dst v) w → Q (.panic c) a w)
    (hbar : ∃ f, ∀ b ∈ bs, waitsR md ops f b i = true) :
    ∀ (fuel : Nat) (S : World → Prop) (listed : Array Bool) (a : Act), Kept S → (∀ w, S w → T0 w) → Whole md ops listed → Clear md ops i o listed → i ∈ Region.ready md ops listed → DoesV P ops T0 o v a → wpAnyX P md ops Q bs T0 S fuel (listed.setIfInBounds i true) (a.put o.dst v) → wpAnyX P md ops Q bs T0 S (fuel + 1) listed a
  | fuel, S, listed, a, hk, hST, hwh, hc, hr, hd, H => ⟨fun h => absurd h (List.ne_nil_of_mem hr), fun j hj w hS => by
      by_cases e : j = i
      · rw [e]
        exact hd.op hi (hST w hS) fun w' hb => ⟨S, hk w w' hS hb, hk, fun _ u h => hST u h, H⟩
      · have later := ready_mono hj e
        cases fuel with
        | zero => exact absurd H.1 (List.ne_nil_of_mem later)
        | succ fuel =>
          obtain ⟨hl, p, hp, hw⟩ := ready_two hr hj
          refine wpOp_mono (fun b w' hb => ?_) (opV_behind hp (hc j p hp e hl hw) (hsel i o · · hi) (hsel j p · · hp) hQ hd (H.2 j later w hS))
          obtain ⟨hdb, S', h1, h2, h3, hrest⟩ := hb
          rw [Array.setIfInBounds_comm _ _ (Ne.symm e)] at hrest
          obtain ⟨f, hf⟩ := id hbar
          have hjb : j ∉ bs := fun hm => by
            have hli := waitsR_listed hwh f j i (hf j hm) fun q hq e' he' hb' => by
              obtain ⟨_, q', hq', hall⟩ := mem_ready.1 hj
              have : q = q' := Option.some.inj (hq.symm.trans hq')
              subst this
              exact hall e' he' hb'
            exact getD_both (mem_ready.1 hr).1 hli
          exact ⟨S', h1, h2, h3, wpAnyX_first hi hib hsel hQ hbar fuel S' _ b h2 (h3 hjb) (hwh.set hj) (hc.less hl) (ready_mono hr (Ne.symm e)) hdb hrest⟩⟩
theorem wpAnyX_take {bs : List Nat} {T0 S : World → Prop} {i : Nat} {oi : Oper} {v : Value} {fuel : Nat} {listed : Array Bool} {a : Act} (f : Nat) (hk : Kept S) (hST : ∀ w, S w → T0 w) (hi : ops[i]? = some oi) (hs : Region.noSelect ops = true)
    (hchk : (Region.free md ops listed i && (Region.ready md ops listed).contains i && wholeB md ops listed && bs.all (fun b => (b != i) && waitsR md ops f b i)) = true)
    (hQ : ∀ c a w, Q (.panic c) (a.put oi.dst v) w → Q (.panic c) a w) (hd : DoesV P ops T0 oi v a) (h : wpAnyX P md ops Q bs T0 S fuel (listed.setIfInBounds i true) (a.put oi.dst v)) : wpAnyX P md ops Q bs T0 S (fuel + 1) listed a := by
  simp only [Bool.and_eq_true, List.all_eq_true, bne_iff_ne, ne_eq] at hchk
  obtain ⟨⟨⟨hf, hr⟩, hwh⟩, hb⟩ := hchk
  exact wpAnyX_first hi (fun hm => (hb i hm).1 rfl) (Region.noSelect_spec hs) hQ ⟨f, fun b hm => (hb b hm).2⟩ fuel S listed a hk hST (wholeB_spec hwh) (Region.free_spec hi hf) (by simpa using hr) hd h
/-- the only one that may come up: whatever it does -/
theorem wpAnyX_only {bs : List Nat} {T0 S : World → Prop} {i : Nat} {o : Oper} {fuel : Nat} {listed : Array Bool} {a : Act} (hi : ops[i]? = some o) (hr : Region.ready md ops listed = [i]) (hg : o.guard = none)
    (h : ∀ w, S w → Oper.wp P o a w (fun a' w' => ∃ (S' : World → Prop), S' w' ∧ Kept S' ∧ (i ∉ bs → ∀ u, S' u → T0 u) ∧ wpAnyX P md ops Q bs T0 S' fuel (listed.setIfInBounds i true) a') Q) : wpAnyX P md ops Q bs T0 S (fuel + 1) listed a :=
  ⟨fun e => (by rw [hr] at e; cases e), fun j hj w hS => by
    rw [hr, List.mem_singleton] at hj
    subst hj
    unfold wpOp
    simp only [hi]
    rw [if_pos (by simp [Region.wanted, hg])]
    exact .inl (h w hS)⟩
theorem wpAnyX_done {bs : List Nat} {T0 S : World → Prop} {listed : Array Bool} {a : Act} (hr : Region.ready md ops listed = []) (h : ∀ w, S w → Q .normal a w) : ∀ fuel, wpAnyX P md ops Q bs T0 S fuel listed a
  | 0 => ⟨hr, h⟩
  | _ + 1 => ⟨fun _ => h, by rw [hr]; simp⟩
theorem wp_region_X {id : Nat} {a : Act} {w : World} (bs : List Nat) (T0 S : World → Prop) (hm : P.follows .mixedOrders = true) (hS : S w.drew) (h : wpAnyX P .any ops Q bs T0 S ops.size (Array.replicate ops.size false) a) : (Code.region id ops true).wp P Q a w :=
  wp_region_any hm (wpAny_of_X _ _ _ _ _ hS h)
end

end Go.Proofs.YtdhlejhflkfoaaaDoor
/- Slices of slices of bytes: from a place on, up to a place, between two. -/
namespace Go.Proofs.YtdhlejhflkfoaaaDoor
open Go.RowKit Go.Shelf
set_option linter.unusedVariables false
set_option maxRecDepth 100000
set_option linter.unusedSimpArgs false

/-- where a slice from place k on starts -/
def cutA (A : Option Addr) (k c : Nat) : Option Addr := if c = k then A else A.map (·.add (k * 1))
theorem cutA_none {A : Option Addr} {k c : Nat} (h : cutA A k c = none) : A = none := by
  unfold cutA at h
  split at h
  · exact h
  · simpa using h
theorem cutA_zero (A : Option Addr) (c : Nat) : cutA A 0 c = A := by
  unfold cutA
  split
  · rfl
  · cases A <;> simp [Addr.add]
theorem RdF.cut {w : World} {F : Nat → Prop} {A : Option Addr} {l : List UInt8} {c k : Nat} (h : RdF w F A l) (hk : k ≤ l.length) (hc : l.length ≤ c) : RdF w F (cutA A k c) (l.drop k) := by
  by_cases h0 : k = l.length
  · left; rw [h0]; simp
  rcases h with h | ⟨b, off, rfl, hF, hce⟩
  · rw [h] at hk h0; simp at hk h0; omega
  · refine .inr ⟨b, off + k, ?_, hF, fun j hj => ?_⟩
    · unfold cutA
      rw [if_neg (by omega)]
      by_cases hz : k = 0
      · subst hz; simp [Addr.add]
      · simp [Addr.add, hz]
    · rw [List.length_drop] at hj
      have := hce (k + j) (by omega)
      rw [← Nat.add_assoc] at this
      rw [this, List.getElem_drop]
theorem RdF.take {w : World} {F : Nat → Prop} {A : Option Addr} {l : List UInt8} (h : RdF w F A l) (k : Nat) : RdF w F A (l.take k) := by
  rcases h with h | ⟨b, off, rfl, hF, hce⟩
  · left; rw [h]; simp
  · refine .inr ⟨b, off, rfl, hF, fun j hj => ?_⟩
    rw [List.length_take] at hj
    rw [hce j (by omega), List.getElem_take]
theorem BsV.cut {w : World} {F : Nat → Prop} {A : Option Addr} {n c : Nat} {l : List UInt8} (h : BsV w F (.slice A n c) l) (k : Nat) (hk : k ≤ l.length) : BsV w F (.slice (cutA A k c) (l.length - k) (c - k)) (l.drop k) := by
  obtain ⟨A', c', e, h1, h2, h3, h4⟩ := h
  cases e
  refine ⟨_, _, by rw [List.length_drop], h1.cut hk h3, fun e => ?_, by rw [List.length_drop]; omega, by omega⟩
  obtain ⟨rfl, rfl⟩ := h2 (cutA_none e)
  simp
theorem BsV.upto {w : World} {F : Nat → Prop} {A : Option Addr} {n c : Nat} {l : List UInt8} (h : BsV w F (.slice A n c) l) (k : Nat) (hk : k ≤ l.length) : BsV w F (.slice A k c) (l.take k) := by
  obtain ⟨A', c', e, h1, h2, h3, h4⟩ := h
  cases e
  refine ⟨A, c, by rw [List.length_take, Nat.min_eq_left hk], h1.take k, fun e => ?_, by rw [List.length_take]; omega, h4⟩
  obtain ⟨rfl, rfl⟩ := h2 e
  simp
end Go.Proofs.YtdhlejhflkfoaaaDoor
/- A region that draws its order, beside calls that change memory: what is read is what no operation of the region changes (T0); such operations are taken first, one by one, whatever order comes. Of no program. -/
namespace Go.Proofs.YtdhlejhflkfoaaaDoor
open Go.RowKit Go.Shelf
set_option linter.unusedVariables false
set_option maxRecDepth 100000

section
variable {P : Program} {ops : Array Oper} {Q : Exit → Act → World → Prop} {md : Region.Mode}
/-- whatever order is picked from here on, in whatever world that meets S; T0 is met throughout -/
def wpAnyW (P : Program) (md : Region.Mode) (ops : Array Oper) (Q : Exit → Act → World → Prop) (T0 : World → Prop) : (World → Prop) → Nat → Array Bool → Act → Prop
  | S, 0, listed, a => Region.ready md ops listed = [] ∧ ∀ w, S w → Q .normal a w
  | S, fuel + 1, listed, a => (Region.ready md ops listed = [] → ∀ w, S w → Q .normal a w) ∧
      ∀ i ∈ Region.ready md ops listed, ∀ w, S w → wpOp P ops Q i (fun a' w' => ∃ (S' : World → Prop), S' w' ∧ Kept S' ∧ (∀ u, S' u → T0 u) ∧ wpAnyW P md ops Q T0 S' fuel (listed.setIfInBounds i true) a') a w
theorem wpAny_of_W {T0 : World → Prop} : ∀ (fuel : Nat) (S : World → Prop) (listed : Array Bool) (a : Act) (w : World), S w → wpAnyW P md ops Q T0 S fuel listed a → wpAny P md ops Q fuel listed a w
  | 0, _, _, _, w, hS, h => ⟨h.1, h.2 w hS⟩
  | fuel + 1, _, _, _, w, hS, h => ⟨fun hr => h.1 hr w hS, fun i hi => wpOp_mono (fun a' w' ⟨S', h1, _, _, h2⟩ => wpAny_of_W fuel S' _ a' w' h1 h2) (h.2 i hi w hS)⟩
theorem wpAnyW_first {T0 : World → Prop} {i : Nat} {o : Oper} {v : Value} (hi : ops[i]? = some o) (hsel : ∀ (j : Nat) (p : Oper) cs b, ops[j]? = some p → p.op ≠ .select cs b) (hQ : ∀ c a w, Q (.panic c) (a.put o.dst v) w → Q (.panic c) a w) :
    ∀ (fuel : Nat) (S : World → Prop) (listed : Array Bool) (a : Act), Kept S → (∀ w, S w → T0 w) → Clear md ops i o listed → i ∈ Region.ready md ops listed → DoesV P ops T0 o v a → wpAnyW P md ops Q T0 S fuel (listed.setIfInBounds i true) (a.put o.dst v) → wpAnyW P md ops Q T0 S (fuel + 1) listed a
  | fuel, S, listed, a, hk, hST, hc, hr, hd, H => ⟨fun h => absurd h (List.ne_nil_of_mem hr), fun j hj w hS => by
      by_cases e : j = i
      · rw [e]
        exact hd.op hi (hST w hS) fun w' hb => ⟨S, hk w w' hS hb, hk, hST, H⟩
      · have later := ready_mono hj e
        cases fuel with
        | zero => exact absurd H.1 (List.ne_nil_of_mem later)
        | succ fuel =>
          obtain ⟨hl, p, hp, hw⟩ := ready_two hr hj
          refine wpOp_mono (fun b w' hb => ?_) (opV_behind hp (hc j p hp e hl hw) (hsel i o · · hi) (hsel j p · · hp) hQ hd (H.2 j later w hS))
          obtain ⟨hdb, S', h1, h2, h3, hrest⟩ := hb
          rw [Array.setIfInBounds_comm _ _ (Ne.symm e)] at hrest
          exact ⟨S', h1, h2, h3, wpAnyW_first hi hsel hQ fuel S' _ b h2 h3 (hc.less hl) (ready_mono hr (Ne.symm e)) hdb hrest⟩⟩
theorem wpAnyW_take {T0 S : World → Prop} {i : Nat} {oi : Oper} {v : Value} {fuel : Nat} {listed : Array Bool} {a : Act} (hk : Kept S) (hST : ∀ w, S w → T0 w) (hi : ops[i]? = some oi) (hs : Region.noSelect ops = true)
    (hchk : (Region.free md ops listed i && (Region.ready md ops listed).contains i) = true)
    (hQ : ∀ c a w, Q (.panic c) (a.put oi.dst v) w → Q (.panic c) a w) (hd : DoesV P ops T0 oi v a) (h : wpAnyW P md ops Q T0 S fuel (listed.setIfInBounds i true) (a.put oi.dst v)) : wpAnyW P md ops Q T0 S (fuel + 1) listed a := by
  simp only [Bool.and_eq_true] at hchk
  exact wpAnyW_first hi (Region.noSelect_spec hs) hQ fuel S listed a hk hST (Region.free_spec hi hchk.1) (by simpa using hchk.2) hd h
/-- the only one that may come up: whatever it does -/
theorem wpAnyW_only {T0 S : World → Prop} {i : Nat} {o : Oper} {fuel : Nat} {listed : Array Bool} {a : Act} (hi : ops[i]? = some o) (hr : Region.ready md ops listed = [i]) (hg : o.guard = none)
    (h : ∀ w, S w → Oper.wp P o a w (fun a' w' => ∃ (S' : World → Prop), S' w' ∧ Kept S' ∧ (∀ u, S' u → T0 u) ∧ wpAnyW P md ops Q T0 S' fuel (listed.setIfInBounds i true) a') Q) : wpAnyW P md ops Q T0 S (fuel + 1) listed a :=
  ⟨fun e => (by rw [hr] at e; cases e), fun j hj w hS => by
    rw [hr, List.mem_singleton] at hj
    subst hj
    unfold wpOp
    simp only [hi]
    rw [if_pos (by simp [Region.wanted, hg])]
    exact .inl (h w hS)⟩
theorem wpAnyW_done {T0 S : World → Prop} {listed : Array Bool} {a : Act} (hr : Region.ready md ops listed = []) (h : ∀ w, S w → Q .normal a w) : ∀ fuel, wpAnyW P md ops Q T0 S fuel listed a
  | 0 => ⟨hr, h⟩
  | _ + 1 => ⟨fun _ => h, by rw [hr]; simp⟩
theorem wp_region_W {id : Nat} {a : Act} {w : World} (T0 S : World → Prop) (hm : P.follows .mixedOrders = true) (hS : S w.drew) (h : wpAnyW P .any ops Q T0 S ops.size (Array.replicate ops.size false) a) : (Code.region id ops true).wp P Q a w :=
  wp_region_any hm (wpAny_of_W _ _ _ _ _ hS h)
end

end Go.Proofs.YtdhlejhflkfoaaaDoor
