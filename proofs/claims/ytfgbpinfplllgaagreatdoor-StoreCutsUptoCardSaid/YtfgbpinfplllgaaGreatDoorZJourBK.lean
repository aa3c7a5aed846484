/- SWEPT -/
import Derived.Test.YtfgbpinfplllgaaGreatDoorZJourAK
import Derived.Test.YtfgbpinfplllgaaGreatDoorZWordsK
set_option linter.unusedVariables false
set_option linter.unusedSimpArgs false
open List (getElem_toArray getElem_cons_succ getElem_cons_zero setIfInBounds_toArray set_cons_succ set_cons_zero)
open Go.Lib (hid)
namespace Go.Proofs.YtfgbpinfplllgaaGreatDoor
open Go.RowKit Go.Shelf
set_option maxRecDepth 100000
theorem cells_set (l : List UInt8) (i : Nat) (c : UInt8) : (cellsOf l).toArray.setIfInBounds i (.int .u8 (c.toNat : Int)) = (cellsOf (l.set i c)).toArray := by
  simp [cellsOf, List.map_set]
def bodyL (last : Bool) (p : List UInt8) : List UInt8 := fullOf (leafBody last p)
theorem bodyL_len (last : Bool) (p : List UInt8) (h : p.length ≤ 42) : (bodyL last p).length = 44 := fullOf_len _ (by rw [leafBody_len]; omega)
theorem fullOf_44 (b : List UInt8) (h : b.length = 44) : fullOf b = b := by simp [fullOf, h]
theorem putN_body (n : Int) (last : Bool) (p : List UInt8) (h : p.length ≤ 42) : putN n (bodyL last p) = putN n (leafBody last p) := by
  unfold putN allOf bodyL
  rw [fullOf_44 (fullOf (leafBody last p)) (fullOf_len _ (by rw [leafBody_len]; omega))]
theorem mkz (k : Nat) (hk : k ≤ 64) (W : World) : (Instr.makeSlice 60 (.int .i64 (k : Int)) (.int .i64 (k : Int))).run Tryz.prog W = .ok (.slice (some ⟨W.heap.size, 0, none⟩) k k) (W.alloc (.cells (cellsOf (List.replicate k 0)).toArray 5)) := by
  obtain ⟨i0, hi, hz0, hz1, hz2⟩ := info_parts Try_info5
  have h := run_make (P := Tryz.prog) W 60 5 i0 (.int .u8 0) Tryz.underlying60 hi hz0 .i64 .i64 (k : Int) (k : Int) (by omega) (Int.le_refl _) (by rw [hz2]; omega) (by omega)
  rw [h, hz1]
  simp only [Int.toNat_natCast, Nat.mul_one]
  congr 3
  apply Array.ext
  · simp [cellsOf, size_madeCells]
  · intro j h1 h2
    simp [madeCells, cellsOf, Value.cells, Nat.mod_one]
theorem mk44 (W : World) : (Instr.makeSlice 60 (.int .i64 44) (.int .i64 44)).run Tryz.prog W = .ok (.slice (some ⟨W.heap.size, 0, none⟩) 44 44) (W.alloc (.cells (cellsOf z44).toArray 5)) := mkz 44 (by decide) W
theorem body_lay (last : Bool) (p : List UInt8) (hp : p.length ≤ 42) : layAt ((if last then z44.set 0 1 else z44).set 1 (UInt8.ofNat p.length)) 2 (p.take 42) = bodyL last p := by
  have e : (if last then z44.set 0 1 else z44).set 1 (UInt8.ofNat p.length) = (if last then 1 else 0) :: UInt8.ofNat p.length :: List.replicate 42 0 := by
    cases last <;> rfl
  rw [e]
  unfold layAt bodyL fullOf leafBody
  rw [List.take_of_length_le hp]
  simp only [List.take_succ_cons, List.take_zero, List.cons_append, List.nil_append, List.length_cons]
  rw [show 2 + p.length = p.length + 1 + 1 by omega, List.drop_succ_cons, List.drop_succ_cons, List.drop_replicate, show 44 - (p.length + 1 + 1) = 42 - p.length by omega]
theorem wpList_mk44 {w : World} {ops : Array Oper} {rest : List Oper} {o : Oper} {a : Act} {Q : Exit → Act → World → Prop} (hgd : o.guard = none) (l c : Operand) (ho : o.op = .makeSlice 60 l c) (hl : a.eval l = .int .i64 44) (hc : a.eval c = .int .i64 44)
    (hK : ∀ g w', Cs w' g 5 (cellsOf z44).toArray → Below w.heap.size w w' → w.heap.size ≤ g → wpList Tryz.prog ops Q rest (a.put o.dst (.slice (some ⟨g, 0, none⟩) 44 44)) w') : wpList Tryz.prog ops Q (o :: rest) a w := by
  refine wpList_plain hgd fun K hK' => ?_
  unfold Oper.wp
  simp [execOp, ho, hl, hc, mk44, Result.andThen]
  exact hK' _ _ (hK _ _ (Cs.new _ _ _) ((Below.refl _ _).alloc (Nat.le_refl _) _) (Nat.le_refl _))
theorem infoU8 : (Tryz.prog.info? 5).map (·.size) = some 1 := by kernel_rfl
theorem body_conv {w : World} {g : Nat} {t : TypeId} {x y : List UInt8} (h : x = y) (hc : Cs w g t (cellsOf x).toArray) : Cs w g t (cellsOf y).toArray := by rwa [h] at hc
def BodyRet (b : List UInt8) (w : World) (e : Ending) (w' : World) : Prop := ∃ g, e = .returned (.slice (some ⟨g, 0, none⟩) 44 44) ∧ Cs w' g 5 (cellsOf b).toArray ∧ w.heap.size ≤ g ∧ Below w.heap.size w w'
set_option maxHeartbeats 2000000 in
theorem bodyOf_any (p : List UInt8) (last : Bool) (A : Option Addr) (c : Nat) (w : World) (hp : p.length ≤ 42) (hr : Rd w A p) :
    Calls Tryz.prog 145 #[.slice A p.length c, .bool last] w fun e w' => BodyRet (bodyL last p) w e w' := by
  have hmk := mk44
  have HB := hid (body_lay last p hp)
  have HR := hid hr
  have HP := hid hp
  have hp' : (p.length : Int) ≤ 42 := by omega
  have hc8 : IntKind.u8.wrap (p.length : Int) = ((UInt8.ofNat p.length).toNat : Int) := by
    rw [IntKind.wrap_u8, UInt8.toNat_ofNat']
    omega
  have hc9 : ((UInt8.ofNat p.length).toNat : Int) = (p.length : Int) := by rw [UInt8.toNat_ofNat']; omega
  have HC := hid hc9
  have hsl : ∀ W g, (Instr.slice 60 (.slice (some ⟨g, 0, none⟩) 44 44) (some (.int .i64 2)) none none).run Tryz.prog W = .ok (.slice (some ⟨g, 2, none⟩) 42 42) W := fun W g => by
    have ht' : Tryz.prog.underlying 60 = some (.slice (Tryz.prog.elem 60)) := by simp [Program.elem, Tryz.underlying60]
    have he : Tryz.prog.elem 60 = 5 := by simp [Program.elem, Tryz.underlying60]
    rw [run_slice_l W 60 _ _ _ ht' .i64 _ (by omega) (by omega), he, Tryz.sizeOf5]
    rfl
  clear hp hr hc8 hc9
  cases last
  · go_enter Tryz.func145, Tryz.ntmps145
    go_wp2_with (first
        | ((with_reducible show wpList _ _ _ _ _ w); refine wpList_mk44 rfl _ _ rfl rfl rfl ?_; intro g w1 hk hb hg; go_frame; have K1 := hid hk; have B1 := hid hb; have G1 := hid hg; clear hk hb hg)
        | ((with_reducible show wpList _ _ _ _ _ w1); refine wpList_store1 rfl 5 _ _ rfl g 1 rfl (.int .u8 ((UInt8.ofNat p.length).toNat : Int)) (congrArg (Value.int .u8) HC.out.symm) rfl infoU8 5 _ K1.out (by simp [cellsOf_length, z44_len]) ?_; intro w3 hk ht; go_frame; rw [cells_set] at hk; have K3 := hid hk; have B3 := hid (below_turn B1.out ht B1.out.size G1.out); clear hk ht)
        | ((with_reducible show wpList _ _ _ _ _ w3); refine wpList_copy_rd rfl _ _ rfl g 2 42 42 p.length c A 5 _ p rfl rfl rfl (HR.out.below B3.out) K3.out (by simp [z44_len]; have := HP.out; omega) p.length (by have := HP.out; omega) ?_; intro w4 hk hg; go_frame; have K4 := hid hk; have B4 := hid (keep_own B3.out hg G1.out); clear hk hg))
    go_ret
    exact ⟨g, rfl, body_conv HB.out K4.out, G1.out, B4.out⟩
  · go_enter Tryz.func145, Tryz.ntmps145
    go_wp2_with (first
        | ((with_reducible show wpList _ _ _ _ _ w); refine wpList_mk44 rfl _ _ rfl rfl rfl ?_; intro g w1 hk hb hg; go_frame; have K1 := hid hk; have B1 := hid hb; have G1 := hid hg; clear hk hb hg)
        | ((with_reducible show wpList _ _ _ _ _ w1); refine wpList_store1 rfl 5 _ _ rfl g 0 rfl (.int .u8 (((1 : UInt8)).toNat : Int)) rfl rfl infoU8 5 _ K1.out (by simp [cellsOf_length, z44_len]) ?_; intro w2 hk ht; go_frame; rw [cells_set] at hk; have K2 := hid hk; have B2 := hid (below_turn B1.out ht B1.out.size G1.out); clear hk ht)
        | ((with_reducible show wpList _ _ _ _ _ w2); refine wpList_store1 rfl 5 _ _ rfl g 1 rfl (.int .u8 ((UInt8.ofNat p.length).toNat : Int)) (congrArg (Value.int .u8) HC.out.symm) rfl infoU8 5 _ K2.out (by simp [cellsOf_length, z44_len]) ?_; intro w3 hk ht; go_frame; rw [cells_set] at hk; have K3 := hid hk; have B3 := hid (below_turn B2.out ht B2.out.size G1.out); clear hk ht)
        | ((with_reducible show wpList _ _ _ _ _ w3); refine wpList_copy_rd rfl _ _ rfl g 2 42 42 p.length c A 5 _ p rfl rfl rfl (HR.out.below B3.out) K3.out (by simp [z44_len]; have := HP.out; omega) p.length (by have := HP.out; omega) ?_; intro w4 hk hg; go_frame; have K4 := hid hk; have B4 := hid (keep_own B3.out hg G1.out); clear hk hg))
    go_ret
    exact ⟨g, rfl, body_conv (by simpa using HB.out) K4.out, G1.out, B4.out⟩
end Go.Proofs.YtfgbpinfplllgaaGreatDoor
namespace Go.Proofs.YtfgbpinfplllgaaGreatDoor
open Go.RowKit Go.Shelf
set_option maxRecDepth 100000
abbrev Doing := DS → DS × Int
def wrG (n : Int) (l : Blk) : Doing := fun s => (writeS s n l, writeE s n)
def flG : Doing := fun s => (flushS s, flushE s)
theorem wrG_grow (n : Int) (l : Blk) (s : DS) : (wrG n l s).1.steps ≤ s.steps + 1 ∧ (wrG n l s).1.q.length ≤ s.q.length + 1 := by
  unfold wrG writeS
  dsimp only
  split
  · exact ⟨by omega, by omega⟩
  · split
    · split
      · exact ⟨by show s.steps ≤ _; omega, by show s.q.length ≤ _; omega⟩
      · exact ⟨Nat.le_refl _, by show (s.q ++ [(n, l)]).length ≤ _; simp⟩
    · exact ⟨by omega, by omega⟩
theorem flG_grow (s : DS) : (flG s).1.steps ≤ s.steps + 1 ∧ (flG s).1.q.length ≤ s.q.length + 1 := by
  unfold flG flushS
  dsimp only
  split
  · exact ⟨by omega, by omega⟩
  · split
    · exact ⟨by show s.steps ≤ _; omega, by show s.q.length ≤ _; omega⟩
    · exact ⟨Nat.le_refl _, by show ([] : List (Int × Blk)).length ≤ _; simp⟩
def StepOk (w : World) (v : Value) (d : Nat) (F : Nat → Prop) (g : Doing) : Prop :=
  ∃ f lb, (v = .func (.func f) #[] lb ∨ v = .func (.func f) lb #[]) ∧ (∀ args w, (callFunc f args).run Tryz.prog w = .ok (.enter f args) w) ∧
    ∀ W s, Turn w W F → DiskV W d s F → s.steps + 1 < 4611686018427387904 → s.q.length < 1099511627776 → Calls Tryz.prog f lb W fun e W' => e = .returned (.int .i64 (g s).2) ∧ DiskV W' d (g s).1 F ∧ Turn W W' F
theorem hF_up {w W : World} {F : Nat → Prop} (hF : ∀ k, w.heap.size ≤ k → F k) (ht : Turn w W F) : ∀ k, W.heap.size ≤ k → F k := fun k hk => hF k (Nat.le_trans ht.size hk)
theorem flush_step (w : World) (d : Nat) (F : Nat → Prop) (hF : ∀ k, w.heap.size ≤ k → F k) : StepOk w (.func (.func 66) #[.pointer (some ⟨d, 0, none⟩)] #[]) d F flG :=
  ⟨_, _, .inr rfl, enters_of Tryz.func66 (by kernel_rfl) rfl, fun W s ht hd hs hq => Flush_v hd (hF_up hF ht) hs hq⟩
def After (W : World) (d : Nat) (s : DS) (F : Nat → Prop) (u : World) : Prop := DiskV u d s F ∧ Turn W u F
theorem After.kept (W : World) (d : Nat) (s : DS) (F : Nat → Prop) : Kept (After W d s F) := fun u u' h hb => ⟨h.1.below hb, h.2.trans (Turn.of_below hb F) fun _ _ h => h⟩
theorem cell_below {W u : World} (hb : Below W.heap.size W u) {p : Addr} {v : Value} (h : W.cell? p = some v) : u.cell? p = some v := (hb.cell (lt_of_cell h)).trans h
theorem wp_allocB {w : World} {ops : Array Oper} {o : Oper} {a : Act} {Q : Exit → Act → World → Prop} {K : Act → World → Prop} (ho : o.op = .alloc 112)
    (hK : ∀ g w', Cs w' g 112 (cellsOf zb).toArray → Below w.heap.size w w' → w.heap.size ≤ g → K (a.put o.dst (.pointer (some ⟨g, 0, none⟩))) w') : o.wp Tryz.prog a w K Q := wp_allocS _ ho (cellsOf zb) zero30 hK
theorem wp_storeB {w : World} {o : Oper} {a : Act} {Q : Exit → Act → World → Prop} {K : Act → World → Prop} (x y : Operand) (ho : o.op = .store 112 x y) (g : Nat) (hx : a.eval x = .pointer (some ⟨g, 0, none⟩)) (l : Blk) (hy : a.eval y = bv l) (hl : l.length = 64) (hg : Cs w g 112 (cellsOf zb).toArray)
    (hK : ∀ w', Cs w' g 112 (cellsOf l).toArray → Turn w w' (· = g) → K (a.put o.dst undef) w') : o.wp Tryz.prog a w K Q :=
  wp_storeW 112 x y ho g hx (cellsOf l) (cellsOf zb) hy hg (by rw [cellsOf_length, cellsOf_length, hl, zb_len]) (cellsOf_one l) (info30' l hl) hK
theorem run_build_zero {w : World} {o : Oper} {a : Act} (ho : o.op = .build 112 #[]) : (execOp a.eval o).run Tryz.prog w = .ok (.value (bv zb)) w := by
  have hz := zero30
  unfold execOp
  have hs := Tryz.sizeOf5
  simp only [ho, Instr.build, Array.map_empty, hz, Sem.run_bind, Sem.run_pure, Result.andThen_ok, run_underlying Tryz.underlying112, hs, Instr.fill]
  rfl
set_option maxHeartbeats 2000000 in
theorem wiping1_v {W : World} {bj ba jb d : Nat} {n : Int} {s : DS} {F : Nat → Prop} (cj : W.cell? ⟨bj, 0, none⟩ = some (.pointer (some ⟨jb, 0, none⟩))) (ca : W.cell? ⟨ba, 0, none⟩ = some (.int .i64 n)) (cd : W.cell? ⟨jb, 0, none⟩ = some (.pointer (some ⟨d, 0, none⟩)))
    (hd : DiskV W d s F) (hF : ∀ k, W.heap.size ≤ k → F k) (hs : s.steps + 1 < 4611686018427387904) (hq : s.q.length < 1099511627776) :
    Calls Tryz.prog 106 #[.pointer (some ⟨bj, 0, none⟩), .pointer (some ⟨ba, 0, none⟩)] W fun e W' => e = .returned (.int .i64 (writeE s n)) ∧ DiskV W' d (writeS s n zb) F ∧ Turn W W' F := by
  have h0 : writeE s n = writeE s n := rfl
  have HD := hid hd
  have hmix : Tryz.prog.follows .mixedOrders = true := by kernel_rfl
  clear hd h0
  have hwr := fun u (hb : Below W.heap.size W u) => Write_v (HD.out.below hb) (fun k hk => hF k (Nat.le_trans hb.size hk)) n zb zb_len hs hq
  have HW := hid hwr
  clear hwr
  go_enter Tryz.func106, Tryz.ntmps106
  go_wp2_with fail
  refine wp_region_V [6] (Below W.heap.size W) hmix ((Below.refl _ _).drew) ?_
  change wpAnyV _ _ _ _ _ _ _ _ _
  refine wpW (i := 0) (v := .pointer (some ⟨jb, 0, none⟩)) (kept_below W) rfl (DR fun w9 hS => by have q0 := cell_below hS cj; go_simp) ?_
  try simp only [getElem_toArray, getElem_cons_succ, getElem_cons_zero, Act.put, setIfInBounds_toArray, set_cons_succ, set_cons_zero]
  refine wpW (i := 1) (v := .pointer (some ⟨jb, 0, none⟩)) (kept_below W) rfl (DR fun w9 hS => by have q0 := cell_below hS cd; go_simp) ?_
  try simp only [getElem_toArray, getElem_cons_succ, getElem_cons_zero, Act.put, setIfInBounds_toArray, set_cons_succ, set_cons_zero]
  refine wpW (i := 2) (v := .pointer (some ⟨jb, 0, none⟩)) (kept_below W) rfl (DR fun w9 hS => by go_simp) ?_
  try simp only [getElem_toArray, getElem_cons_succ, getElem_cons_zero, Act.put, setIfInBounds_toArray, set_cons_succ, set_cons_zero]
  refine wpW (i := 3) (v := .pointer (some ⟨d, 0, none⟩)) (kept_below W) rfl (DR fun w9 hS => by have q0 := cell_below hS cd; go_simp) ?_
  try simp only [getElem_toArray, getElem_cons_succ, getElem_cons_zero, Act.put, setIfInBounds_toArray, set_cons_succ, set_cons_zero]
  refine wpW (i := 4) (v := .int .i64 n) (kept_below W) rfl (DR fun w9 hS => by have q0 := cell_below hS ca; go_simp) ?_
  try simp only [getElem_toArray, getElem_cons_succ, getElem_cons_zero, Act.put, setIfInBounds_toArray, set_cons_succ, set_cons_zero]
  refine wpW (i := 5) (v := bv zb) (kept_below W) rfl (DR fun w9 hS => run_build_zero rfl) ?_
  try simp only [getElem_toArray, getElem_cons_succ, getElem_cons_zero, Act.put, setIfInBounds_toArray, set_cons_succ, set_cons_zero]
  refine wpAnyV_only (i := 6) rfl (by kernel_rfl) rfl (fun u hS => wp_of_call (by go_simp) (HW.out u hS) fun e u' ⟨he, h1, h2⟩ => ⟨_, he, After W d (writeS s n zb) F, ⟨h1, (Turn.of_below hS F).trans h2 fun _ _ h => h⟩, After.kept _ _ _ _, fun h => absurd (by simp) h, ?_⟩)
  try simp only [getElem_toArray, getElem_cons_succ, getElem_cons_zero, Act.put, setIfInBounds_toArray, set_cons_succ, set_cons_zero]
  refine wpAnyV_pure (i := 7) (v := .int .i64 (writeE s n)) (After.kept _ _ _ _) rfl (by kernel_rfl) (by kernel_rfl) (fun _ _ _ h => h) (DR fun w9 hS => by go_simp) ?_
  try simp only [getElem_toArray, getElem_cons_succ, getElem_cons_zero, Act.put, setIfInBounds_toArray, set_cons_succ, set_cons_zero]
  refine wpAnyV_done (by kernel_rfl) (fun y hu => ?_) _
  go_wp2_with fail
  go_ret
  exact ⟨rfl, hu.1, hu.2⟩
set_option maxHeartbeats 4000000 in
theorem laying1_v {W : World} {bj bi bb ba jb d g : Nat} {n N : Int} {i : Nat} {b : List UInt8} {s : DS} {F : Nat → Prop} (cj : W.cell? ⟨bj, 0, none⟩ = some (.pointer (some ⟨jb, 0, none⟩))) (ci : W.cell? ⟨bi, 0, none⟩ = some (.int .i64 (i : Int))) (cb : W.cell? ⟨bb, 0, none⟩ = some (.slice (some ⟨g, 0, none⟩) 44 44))
    (ca : W.cell? ⟨ba, 0, none⟩ = some (.int .i64 n)) (cd : W.cell? ⟨jb, 0, none⟩ = some (.pointer (some ⟨d, 0, none⟩))) (cn : W.cell? ⟨jb, 5, none⟩ = some (.int .u64 N)) (hr : Rd W (some ⟨g, 0, none⟩) b) (hb : b.length = 44)
    (hn : 0 ≤ n ∧ n + (i : Int) ≤ 1000000) (h1 : 0 < N ∧ N + (i : Int) < 4294967296)
    (hd : DiskV W d s F) (hF : ∀ k, W.heap.size ≤ k → F k) (hs : s.steps + 1 < 4611686018427387904) (hq : s.q.length < 1099511627776) :
    Calls Tryz.prog 110 #[.pointer (some ⟨bj, 0, none⟩), .pointer (some ⟨bi, 0, none⟩), .pointer (some ⟨bb, 0, none⟩), .pointer (some ⟨ba, 0, none⟩)] W fun e W' =>
      e = .returned (.int .i64 (writeE s (n + (i : Int)))) ∧ DiskV W' d (writeS s (n + (i : Int)) (putN (N + (i : Int)) b)) F ∧ Turn W W' F := by
  have HD := hid hd
  have hmix : Tryz.prog.follows .mixedOrders = true := by kernel_rfl
  clear hd
  have HW := hid (fun u (hb : Below W.heap.size W u) => Write_v (HD.out.below hb) (fun k hk => hF k (Nat.le_trans hb.size hk)) (n + (i : Int)) (putN (N + (i : Int)) b) (putN_len _ _ (by omega)) hs hq)
  have HPL := hid (putN_len (N + (i : Int)) b (by omega))
  have hput := fun u (hr : Rd u (some ⟨g, 0, none⟩) b) => Put_any (N + (i : Int)) b (some ⟨g, 0, none⟩) 44 u (by omega) (by omega) (by omega) hr
  have hpe : putE (N + (i : Int)) b = 0 := by unfold putE; rw [if_neg (by omega), if_neg (by omega)]
  have hpb : putB (N + (i : Int)) b = putN (N + (i : Int)) b := by unfold putB; rw [if_pos hpe]
  rw [hpe, hpb, hb] at hput
  generalize hbe : putN (N + (i : Int)) b = x at *
  have HPT := hid hput
  have HR := hid hr
  have HB0 := hid hb
  have nb : N + (i : Int) ≤ 4294967295 := by omega
  have i0 : (i : Int) ≤ 4294967295 := by omega
  have n0 : 0 ≤ N := by omega
  have n9 : N ≤ 4294967295 := by omega
  clear hput hpe hpb hbe hr hb h1
  go_enter Tryz.func110, Tryz.ntmps110
  go_wp2_with fail
  refine wp_region_V [14] (Below W.heap.size W) hmix ((Below.refl _ _).drew) ?_
  change wpAnyV _ _ _ _ _ _ _ _ _
  refine wpW (i := 0) (v := .pointer (some ⟨jb, 0, none⟩)) (kept_below W) rfl (DR fun w9 hS => by have q0 := cell_below hS cj; go_simp) ?_
  try simp only [getElem_toArray, getElem_cons_succ, getElem_cons_zero, Act.put, setIfInBounds_toArray, set_cons_succ, set_cons_zero]
  refine wpW (i := 1) (v := .pointer (some ⟨jb, 0, none⟩)) (kept_below W) rfl (DR fun w9 hS => by have q0 := cell_below hS cd; go_simp) ?_
  try simp only [getElem_toArray, getElem_cons_succ, getElem_cons_zero, Act.put, setIfInBounds_toArray, set_cons_succ, set_cons_zero]
  refine wpW (i := 2) (v := .pointer (some ⟨jb, 5, none⟩)) (kept_below W) rfl (DR fun w9 hS => by go_simp) ?_
  try simp only [getElem_toArray, getElem_cons_succ, getElem_cons_zero, Act.put, setIfInBounds_toArray, set_cons_succ, set_cons_zero]
  refine wpW (i := 3) (v := .int .u64 N) (kept_below W) rfl (DR fun w9 hS => by have q0 := cell_below hS cn; go_simp) ?_
  try simp only [getElem_toArray, getElem_cons_succ, getElem_cons_zero, Act.put, setIfInBounds_toArray, set_cons_succ, set_cons_zero]
  refine wpW (i := 4) (v := .int .u32 N) (kept_below W) rfl (DR fun w9 hS => by go_simp; simp (disch := omega) only [IntWalk.i64_in, IntWalk.u32_in, IntWalk.u64_in]) ?_
  try simp only [getElem_toArray, getElem_cons_succ, getElem_cons_zero, Act.put, setIfInBounds_toArray, set_cons_succ, set_cons_zero]
  refine wpW (i := 5) (v := .int .i64 (i : Int)) (kept_below W) rfl (DR fun w9 hS => by have q0 := cell_below hS ci; go_simp) ?_
  try simp only [getElem_toArray, getElem_cons_succ, getElem_cons_zero, Act.put, setIfInBounds_toArray, set_cons_succ, set_cons_zero]
  refine wpW (i := 6) (v := .int .u32 (i : Int)) (kept_below W) rfl (DR fun w9 hS => by go_simp; simp (disch := omega) only [IntWalk.i64_in, IntWalk.u32_in, IntWalk.u64_in]) ?_
  try simp only [getElem_toArray, getElem_cons_succ, getElem_cons_zero, Act.put, setIfInBounds_toArray, set_cons_succ, set_cons_zero]
  refine wpW (i := 7) (v := .int .u32 (N + (i : Int))) (kept_below W) rfl (DR fun w9 hS => by go_simp; simp (disch := omega) only [IntWalk.i64_in, IntWalk.u32_in, IntWalk.u64_in]) ?_
  try simp only [getElem_toArray, getElem_cons_succ, getElem_cons_zero, Act.put, setIfInBounds_toArray, set_cons_succ, set_cons_zero]
  refine wpW (i := 8) (v := .slice (some ⟨g, 0, none⟩) 44 44) (kept_below W) rfl (DR fun w9 hS => by have q0 := cell_below hS cb; go_simp) ?_
  try simp only [getElem_toArray, getElem_cons_succ, getElem_cons_zero, Act.put, setIfInBounds_toArray, set_cons_succ, set_cons_zero]
  refine wpW (i := 9) (v := .tuple #[bv x, .int .i64 0]) (kept_below W) rfl (DoesV.calls 111 #[.int .u32 (N + (i : Int)), .slice (some ⟨g, 0, none⟩) 44 44] (by rfl) (fun w9 hS => by go_simp) (fun w9 hS => HPT.out w9 (HR.out.below hS))) ?_
  try simp only [getElem_toArray, getElem_cons_succ, getElem_cons_zero, Act.put, setIfInBounds_toArray, set_cons_succ, set_cons_zero]
  refine wpW (i := 10) (v := .tuple #[bv x, .int .i64 0]) (kept_below W) rfl (DR fun w9 hS => by go_simp) ?_
  try simp only [getElem_toArray, getElem_cons_succ, getElem_cons_zero, Act.put, setIfInBounds_toArray, set_cons_succ, set_cons_zero]
  refine wpW (i := 11) (v := bv x) (kept_below W) rfl (DR fun w9 hS => by go_simp) ?_
  try simp only [getElem_toArray, getElem_cons_succ, getElem_cons_zero, Act.put, setIfInBounds_toArray, set_cons_succ, set_cons_zero]
  refine wpAnyV_pure (i := 12) (v := .int .i64 0) (kept_below W) rfl (by kernel_rfl) (by kernel_rfl) (fun _ _ _ h => h) (DR fun w9 hS => by go_simp) ?_
  try simp only [getElem_toArray, getElem_cons_succ, getElem_cons_zero, Act.put, setIfInBounds_toArray, set_cons_succ, set_cons_zero]
  refine wpAnyV_only (i := 13) rfl (by kernel_rfl) rfl (fun u hS => wp_allocB (ops := #[]) rfl fun g5 u' hk hb hg => ⟨fun u => Below W.heap.size W u ∧ Cs u g5 112 (cellsOf zb).toArray, ⟨below_chain hS hb, hk⟩, kept_and (kept_below W) (kept_cs _ _ _), fun _ u h => h.1, ?_⟩)
  try simp only [getElem_toArray, getElem_cons_succ, getElem_cons_zero, Act.put, setIfInBounds_toArray, set_cons_succ, set_cons_zero]
  have hg5 : W.heap.size ≤ g5 := Nat.le_trans hS.size hg
  refine wpAnyV_only (i := 14) rfl (by kernel_rfl) rfl (fun u hS => wp_storeB _ _ rfl g5 rfl x rfl HPL.out hS.2 fun u' hk ht => ⟨fun u => Below W.heap.size W u ∧ Cs u g5 112 (cellsOf x).toArray, ⟨below_turn hS.1 ht hS.1.size hg5, hk⟩, kept_and (kept_below W) (kept_cs _ _ _), fun h => absurd (by simp) h, ?_⟩)
  try simp only [getElem_toArray, getElem_cons_succ, getElem_cons_zero, Act.put, setIfInBounds_toArray, set_cons_succ, set_cons_zero]
  refine wpAnyV_pure (i := 15) (v := .int .i64 0) (kept_and (kept_below W) (kept_cs _ _ _)) rfl (by kernel_rfl) (by kernel_rfl) (fun _ _ _ h => h) (DR fun w9 hS => by go_simp) ?_
  try simp only [getElem_toArray, getElem_cons_succ, getElem_cons_zero, Act.put, setIfInBounds_toArray, set_cons_succ, set_cons_zero]
  refine wpAnyV_done (by kernel_rfl) (fun y hu => ?_) _
  have BY := hid hu.1
  have K5 := hid hu.2
  clear hu
  go_wp2_with fail
  refine wp_region_V [8] (fun u => Below W.heap.size W u ∧ Cs u g5 112 (cellsOf x).toArray) hmix (⟨BY.out.drew, K5.out⟩) ?_
  change wpAnyV _ _ _ _ _ _ _ _ _
  refine wpW (i := 0) (v := .pointer (some ⟨jb, 0, none⟩)) (kept_and (kept_below W) (kept_cs _ _ _)) rfl (DR fun w9 hS => by have q0 := cell_below hS.1 cj; go_simp) ?_
  try simp only [getElem_toArray, getElem_cons_succ, getElem_cons_zero, Act.put, setIfInBounds_toArray, set_cons_succ, set_cons_zero]
  refine wpW (i := 1) (v := .pointer (some ⟨jb, 0, none⟩)) (kept_and (kept_below W) (kept_cs _ _ _)) rfl (DR fun w9 hS => by have q0 := cell_below hS.1 cd; go_simp) ?_
  try simp only [getElem_toArray, getElem_cons_succ, getElem_cons_zero, Act.put, setIfInBounds_toArray, set_cons_succ, set_cons_zero]
  refine wpW (i := 2) (v := .pointer (some ⟨jb, 0, none⟩)) (kept_and (kept_below W) (kept_cs _ _ _)) rfl (DR fun w9 hS => by go_simp) ?_
  try simp only [getElem_toArray, getElem_cons_succ, getElem_cons_zero, Act.put, setIfInBounds_toArray, set_cons_succ, set_cons_zero]
  refine wpW (i := 3) (v := .pointer (some ⟨d, 0, none⟩)) (kept_and (kept_below W) (kept_cs _ _ _)) rfl (DR fun w9 hS => by have q0 := cell_below hS.1 cd; go_simp) ?_
  try simp only [getElem_toArray, getElem_cons_succ, getElem_cons_zero, Act.put, setIfInBounds_toArray, set_cons_succ, set_cons_zero]
  refine wpW (i := 4) (v := .int .i64 n) (kept_and (kept_below W) (kept_cs _ _ _)) rfl (DR fun w9 hS => by have q0 := cell_below hS.1 ca; go_simp) ?_
  try simp only [getElem_toArray, getElem_cons_succ, getElem_cons_zero, Act.put, setIfInBounds_toArray, set_cons_succ, set_cons_zero]
  refine wpW (i := 5) (v := .int .i64 (i : Int)) (kept_and (kept_below W) (kept_cs _ _ _)) rfl (DR fun w9 hS => by have q0 := cell_below hS.1 ci; go_simp) ?_
  try simp only [getElem_toArray, getElem_cons_succ, getElem_cons_zero, Act.put, setIfInBounds_toArray, set_cons_succ, set_cons_zero]
  refine wpW (i := 6) (v := .int .i64 (n + (i : Int))) (kept_and (kept_below W) (kept_cs _ _ _)) rfl (DR fun w9 hS => by go_simp; simp (disch := omega) only [IntWalk.i64_in, IntWalk.u32_in, IntWalk.u64_in]) ?_
  try simp only [getElem_toArray, getElem_cons_succ, getElem_cons_zero, Act.put, setIfInBounds_toArray, set_cons_succ, set_cons_zero]
  refine wpW (i := 7) (v := bv x) (kept_and (kept_below W) (kept_cs _ _ _)) rfl (DR fun w9 hS => exec_load_blk _ rfl g5 0 rfl x HPL.out (At.whole hS.2)) ?_
  try simp only [getElem_toArray, getElem_cons_succ, getElem_cons_zero, Act.put, setIfInBounds_toArray, set_cons_succ, set_cons_zero]
  refine wpAnyV_only (i := 8) rfl (by kernel_rfl) rfl (fun u hS => wp_of_call (by go_simp) (HW.out u hS.1) fun e u' ⟨he, h1, h2⟩ => ⟨_, he, After W d (writeS s (n + (i : Int)) x) F, ⟨h1, (Turn.of_below hS.1 F).trans h2 fun _ _ h => h⟩, After.kept _ _ _ _, fun h => absurd (by simp) h, ?_⟩)
  try simp only [getElem_toArray, getElem_cons_succ, getElem_cons_zero, Act.put, setIfInBounds_toArray, set_cons_succ, set_cons_zero]
  refine wpAnyV_pure (i := 9) (v := .int .i64 (writeE s (n + (i : Int)))) (After.kept _ _ _ _) rfl (by kernel_rfl) (by kernel_rfl) (fun _ _ _ h => h) (DR fun w9 hS => by go_simp) ?_
  try simp only [getElem_toArray, getElem_cons_succ, getElem_cons_zero, Act.put, setIfInBounds_toArray, set_cons_succ, set_cons_zero]
  refine wpAnyV_done (by kernel_rfl) (fun y9 hu => ?_) _
  go_wp2_with fail
  go_ret
  exact ⟨rfl, hu.1, hu.2⟩
end Go.Proofs.YtfgbpinfplllgaaGreatDoor
namespace Go.Proofs.YtfgbpinfplllgaaGreatDoor
open Go.RowKit Go.Shelf
set_option maxRecDepth 100000
def runG : List Doing → DS → DS × Int
  | [], s => (s, 0)
  | g :: gs, s => if (g s).2 = 0 then runG gs (g s).1 else g s
theorem runG_cons (g : Doing) (gs : List Doing) (s : DS) : runG (g :: gs) s = if (g s).2 = 0 then runG gs (g s).1 else g s := rfl
def Grows (g : Doing) : Prop := ∀ s, (g s).1.steps ≤ s.steps + 1 ∧ (g s).1.q.length ≤ s.q.length + 1
def Steps (w : World) (vs : List Value) (d : Nat) (F : Nat → Prop) (gs : List Doing) : Prop := vs.length = gs.length ∧ ∀ k (h : k < gs.length), ∃ v, vs[k]? = some v ∧ StepOk w v d F gs[k]
theorem Steps.nil (w : World) (d : Nat) (F : Nat → Prop) : Steps w [] d F [] := ⟨rfl, fun k h => by simp at h⟩
theorem Steps.snoc {w : World} {vs : List Value} {d : Nat} {F : Nat → Prop} {gs : List Doing} {v : Value} {g : Doing} (h : Steps w vs d F gs) (hv : StepOk w v d F g) : Steps w (vs ++ [v]) d F (gs ++ [g]) := by
  refine ⟨by simp [h.1], fun j hj => ?_⟩
  by_cases hk : j < gs.length
  · obtain ⟨u, h1, h2⟩ := h.2 j hk
    exact ⟨u, by rw [List.getElem?_append_left (by rw [h.1]; exact hk)]; exact h1, by rw [List.getElem_append_left hk]; exact h2⟩
  · have e : j = gs.length := by simp at hj; omega
    subst e
    exact ⟨v, by rw [← h.1]; simp, by simpa using hv⟩
theorem Steps.append {w : World} {vs us : List Value} {d : Nat} {F : Nat → Prop} {gs hs : List Doing} (h : Steps w vs d F gs) (hu : Steps w us d F hs) : Steps w (vs ++ us) d F (gs ++ hs) := by
  refine ⟨by simp [h.1, hu.1], fun j hj => ?_⟩
  by_cases hk : j < gs.length
  · obtain ⟨u, h1, h2⟩ := h.2 j hk
    exact ⟨u, by rw [List.getElem?_append_left (by rw [h.1]; exact hk)]; exact h1, by rw [List.getElem_append_left hk]; exact h2⟩
  · simp only [List.length_append] at hj
    obtain ⟨u, h1, h2⟩ := hu.2 (j - gs.length) (by omega)
    exact ⟨u, by rw [List.getElem?_append_right (by rw [h.1]; omega), h.1]; exact h1, by rw [List.getElem_append_right (by omega)]; exact h2⟩
def StepsAt (w : World) (A : Option Addr) (d : Nat) (F : Nat → Prop) (gs : List Doing) : Prop := ∃ vs, Steps w vs d F gs ∧ (gs = [] ∨ ∃ b off, A = some ⟨b, off, none⟩ ∧ ¬ F b ∧ ∀ j v, vs[j]? = some v → w.cell? ⟨b, off + j, none⟩ = some v)
def DI (w : World) (d : Nat) (F : Nat → Prop) (gs : List Doing) (s : DS) (k : Nat) (t : DS) (u : World) : Prop := k ≤ gs.length ∧ runG gs s = runG (gs.drop k) t ∧ t.steps ≤ s.steps + k ∧ t.q.length ≤ s.q.length + k ∧ After w d t F u
set_option maxHeartbeats 2000000 in
theorem do_v {w : World} {d : Nat} {s : DS} {F : Nat → Prop} {A : Option Addr} {c : Nat} {gs : List Doing} (hd : DiskV w d s F) (hst : StepsAt w A d F gs) (hg : ∀ g ∈ gs, Grows g) (hs : s.steps + gs.length + 1 < 4611686018427387904) (hq : s.q.length + gs.length < 1099511627776) :
    Calls Tryz.prog 67 #[.slice A gs.length c] w fun e w' => e = .returned (.int .i64 (runG gs s).2) ∧ After w d (runG gs s).1 F w' := by
  obtain ⟨vs, hsteps, hcells⟩ := hst
  have HI := hid (show DI w d F gs s 0 s w from ⟨Nat.zero_le _, rfl, by omega, by omega, hd, Turn.refl _ _⟩)
  have HS := hid hsteps
  have HC := hid hcells
  have HG := hid hg
  have hbig : (gs.length : Int) ≤ 1099511627776 := by omega
  have HN := hid hs
  have HQ := hid hq
  clear hd hsteps hcells hg hs hq
  go_enter Tryz.func67, Tryz.ntmps67
  go_wp2_with fail
  go_loopw [8] (fun i wr => ∃ (k : Nat) (t : DS), i = .int .i64 (k : Int) ∧ DI w d F gs s k t wr) (fun i _ => gs.length - (intOf i).toNat)
  case atStart => exact ⟨0, s, rfl, HI.out⟩
  case round =>
    obtain ⟨k, t, rfl, hi⟩ := hrel
    have HK := hid hi
    clear hi HI
    by_cases hlt : k < gs.length
    · have hlt' : (k : Int) < (gs.length : Int) := by omega
      obtain ⟨v, hv, f, lb, hform, he, hrun⟩ := HS.out.2 k hlt
      obtain ⟨b, off, rfl, hb, hcell⟩ : ∃ b off, A = some ⟨b, off, none⟩ ∧ ¬ F b ∧ ∀ j v, vs[j]? = some v → w.cell? ⟨b, off + j, none⟩ = some v := by
        rcases HC.out with h | h
        · rw [h] at hlt; simp at hlt
        · exact h
      have c0 := hcell k v hv
      have c1 : wr.cell? ⟨b, off + k, none⟩ = some v := (World.cell?_of_block (w := w) (HK.out.2.2.2.2.2.block b (lt_of_cell c0) hb)).trans c0
      have hcall := hrun wr t HK.out.2.2.2.2.2 HK.out.2.2.2.2.1 (by have := HK.out.2.2.1; have := HN.out; omega) (by have := HK.out.2.2.2.1; have := HQ.out; omega)
      have hgr := HG.out gs[k] (List.getElem_mem hlt) t
      have hdrop : gs.drop k = gs[k] :: gs.drop (k + 1) := List.drop_eq_getElem_cons hlt
      generalize gs[k] = g at *
      have HD := hid hdrop
      have HGR := hid hgr
      have HL := hid hlt
      obtain ⟨er, her⟩ : ∃ er, (g t).2 = er := ⟨_, rfl⟩
      rw [her] at hcall
      have HER := hid her
      clear hcell hrun hdrop hgr hlt her c0 hv
      have fin : er ≠ 0 → ∀ u, After wr d (g t).1 F u → (Ending.returned (.int .i64 er) = .returned (.int .i64 (runG gs s).2) ∧ After w d (runG gs s).1 F u) := fun hne u hu => by
        have e : runG gs s = g t := by rw [HK.out.2.1, HD.out, runG_cons, if_neg (by rw [HER.out]; exact hne)]
        rw [e, HER.out]
        exact ⟨rfl, hu.1, HK.out.2.2.2.2.2.trans hu.2 fun _ _ h => h⟩
      have FIN := hid fin
      have nxt : er = 0 → ∀ u, After wr d (g t).1 F u → DI w d F gs s (k + 1) (g t).1 u := fun h0 u hu => by
        refine ⟨HL.out, ?_, by have := HGR.out.1; have := HK.out.2.2.1; omega, by have := HGR.out.2; have := HK.out.2.2.2.1; omega, hu.1, HK.out.2.2.2.2.2.trans hu.2 fun _ _ h => h⟩
        rw [HK.out.2.1, HD.out, runG_cons, if_pos (by rw [HER.out]; exact h0)]
      have NXT := hid nxt
      clear fin nxt
      by_cases h0 : er = 0
      · have e0 : (er == 0) = true := by simp [h0]
        have H0 := hid h0
        clear h0
        rcases hform with rfl | rfl
        all_goals
          go_wp2_with fail
          refine hcall.mono ?_
          clear hcall
          rintro e u ⟨rfl, hu⟩
          have HU := hid hu
          clear hu
          go_wp2_with fail
          go_roundw
          case rel => exact ⟨k + 1, _, by go_num, NXT.out H0.out _ HU.out⟩
          case measure => have := HL.out; simp [intOf]; omega
      · have e0 : (er == 0) = false := by simpa using h0
        have e1 : (er != 0) = true := by rw [bne, e0]; rfl
        have H0 := hid h0
        clear h0
        rcases hform with rfl | rfl
        all_goals
          go_wp2_with fail
          refine hcall.mono ?_
          clear hcall
          rintro e u ⟨rfl, hu⟩
          have HU := hid hu
          clear hu
          go_wp2_with fail
          go_ret
          exact FIN.out H0.out _ HU.out
    · have hk : k = gs.length := by have := HK.out.1; omega
      have hfin : runG gs s = (t, 0) := by
        rw [HK.out.2.1, List.drop_eq_nil_of_le (by omega)]
        rfl
      have HF := hid hfin
      have hge : (gs.length : Int) ≤ (k : Int) := by omega
      clear hfin hlt hk
      go_wp2_with fail
      go_ret
      rw [HF.out]
      exact ⟨rfl, HK.out.2.2.2.2⟩
def gsOf : Int → List Blk → List Doing
  | _, [] => [flG]
  | n, l :: ls => wrG n l :: gsOf (n + 1) ls
theorem gsOf_len : ∀ (n : Int) (ls : List Blk), (gsOf n ls).length = ls.length + 1
  | _, [] => rfl
  | n, l :: ls => by show (gsOf (n + 1) ls).length + 1 = _; rw [gsOf_len]; rfl
theorem gsOf_grows : ∀ (n : Int) (ls : List Blk), ∀ g ∈ gsOf n ls, Grows g
  | n, [], g, h => by
    simp only [gsOf, List.mem_singleton] at h
    subst h
    exact flG_grow
  | n, l :: ls, g, h => by
    rcases List.mem_cons.1 (show g ∈ wrG n l :: gsOf (n + 1) ls from h) with rfl | h
    · exact wrG_grow n l
    · exact gsOf_grows (n + 1) ls g h
theorem run_wrs : ∀ (ls : List Blk) (n : Int) (s : DS), runG (gsOf n ls) s = wrs s n ls
  | [], n, s => by
    show (if flushE s = 0 then ((flushS s), (0 : Int)) else (flushS s, flushE s)) = (flushS s, flushE s)
    split
    · rename_i h; rw [h]
    · rfl
  | l :: ls, n, s => by
    show (if writeE s n = 0 then runG (gsOf (n + 1) ls) (writeS s n l) else (writeS s n l, writeE s n)) = _
    rw [run_wrs ls (n + 1)]
    rfl
theorem gsOf_get : ∀ (ls : List Blk) (n : Int) (k : Nat) (l : Blk), ls[k]? = some l → (gsOf n ls)[k]? = some (wrG (n + (k : Int)) l)
  | [], n, k, l, h => by simp at h
  | x :: ls, n, 0, l, h => by
    simp only [List.getElem?_cons_zero, Option.some.injEq] at h
    subst h
    show some (wrG n x) = _
    congr 2
    omega
  | x :: ls, n, k + 1, l, h => by
    rw [List.getElem?_cons_succ] at h
    show (gsOf (n + 1) ls)[k]? = _
    rw [gsOf_get ls (n + 1) k l h]
    congr 2
    omega
theorem gsOf_last : ∀ (ls : List Blk) (n : Int), (gsOf n ls)[ls.length]? = some flG
  | [], n => rfl
  | x :: ls, n => gsOf_last ls (n + 1)
theorem steps_of {w : World} {vs : List Value} {d : Nat} {F : Nat → Prop} {n : Int} {ls : List Blk} (hl : vs.length = ls.length + 1) (h : ∀ (k : Nat) (l : Blk), ls[k]? = some l → ∃ v, vs[k]? = some v ∧ StepOk w v d F (wrG (n + (k : Int)) l)) (hf : ∃ v, vs[ls.length]? = some v ∧ StepOk w v d F flG) : Steps w vs d F (gsOf n ls) := by
  refine ⟨by rw [gsOf_len, hl], fun k hk => ?_⟩
  rw [gsOf_len] at hk
  by_cases hlt : k < ls.length
  · obtain ⟨v, h1, h2⟩ := h k _ (List.getElem?_eq_getElem hlt)
    have := gsOf_get ls n k _ (List.getElem?_eq_getElem hlt)
    rw [List.getElem?_eq_getElem (by rw [gsOf_len]; omega)] at this
    exact ⟨v, h1, by rw [Option.some.inj this]; exact h2⟩
  · obtain rfl : k = ls.length := by omega
    obtain ⟨v, h1, h2⟩ := hf
    have := gsOf_last ls n
    rw [List.getElem?_eq_getElem (by rw [gsOf_len]; omega)] at this
    exact ⟨v, h1, by rw [Option.some.inj this]; exact h2⟩
theorem newBlks_get : ∀ (ps : List (List UInt8)) (N : Int) (k : Nat) (p : List UInt8), ps[k]? = some p → (newBlks N ps)[k]? = some (putN (N + (k : Int)) (leafBody (decide (k + 1 = ps.length)) p))
  | [], N, k, p, h => by simp at h
  | [x], N, 0, p, h => by
    simp only [List.getElem?_cons_zero, Option.some.injEq] at h
    subst h
    rw [newBlks_one]
    simp
  | [x], N, k + 1, p, h => by simp at h
  | x :: y :: ps, N, 0, p, h => by
    simp only [List.getElem?_cons_zero, Option.some.injEq] at h
    subst h
    rw [newBlks_more]
    simp
  | x :: y :: ps, N, k + 1, p, h => by
    rw [List.getElem?_cons_succ] at h
    rw [newBlks_more, List.getElem?_cons_succ, newBlks_get (y :: ps) (N + 1) k p h]
    simp only [List.length_cons, Option.some.injEq]
    rw [show N + 1 + (k : Int) = N + ((k + 1 : Nat) : Int) by omega]
    congr 2
    rw [decide_eq_decide]
    omega
end Go.Proofs.YtfgbpinfplllgaaGreatDoor
namespace Go.Proofs.YtfgbpinfplllgaaGreatDoor
open Go.RowKit Go.Shelf
set_option maxRecDepth 100000
attribute [local go_sem] Oper.semAt_some
theorem rd_window {W : World} {A : Option Addr} {l : List UInt8} {c lo hi : Nat} (hr : Rd W A l) (hA : A = none → l = [] ∧ c = 0) (hc : l.length ≤ c) (h1 : lo ≤ hi) (h2 : hi ≤ l.length) :
    ∃ A' c', (∀ W, (Instr.slice 60 (.slice A l.length c) (some (.int .i64 (lo : Int))) (some (.int .i64 (hi : Int))) none).run Tryz.prog W = .ok (.slice A' (hi - lo) c') W) ∧ Rd W A' ((l.drop lo).take (hi - lo)) := by
  have ht' : Tryz.prog.underlying 60 = some (.slice (Tryz.prog.elem 60)) := by simp [Program.elem, Tryz.underlying60]
  have he : Tryz.prog.elem 60 = 5 := by simp [Program.elem, Tryz.underlying60]
  rcases A with _ | ⟨b, off, sp⟩
  · obtain ⟨rfl, rfl⟩ := hA rfl
    simp only [List.length_nil, Nat.le_zero] at h2
    subst h2
    simp only [Nat.le_zero] at h1
    subst h1
    refine ⟨none, 0, fun W => ?_, .inl (by simp)⟩
    rw [run_slice_lh W 60 _ _ _ ht' .i64 .i64 _ _ (by omega) (by omega) (by simp), he, Tryz.sizeOf5]
    rfl
  · rcases hr with rfl | ⟨b', off', e, hcell⟩
    · simp only [List.length_nil, Nat.le_zero] at h2
      subst h2
      simp only [Nat.le_zero] at h1
      subst h1
      refine ⟨some ⟨b, off, sp⟩, c, fun W => ?_, .inl (by simp)⟩
      rw [run_slice_lh W 60 _ _ _ ht' .i64 .i64 _ _ (by omega) (by omega) (by simp), he, Tryz.sizeOf5]
      simp [sliced, Result.andThen, Addr.add]
    · cases e
      obtain ⟨A', hrun, hA', _⟩ := slice_cut b off l.length c lo hi h1 (by omega)
      refine ⟨A', c - lo, hrun, ?_⟩
      by_cases h0 : lo < hi
      · rw [hA' (by omega)]
        refine .inr ⟨b, off + lo, rfl, fun j hj => ?_⟩
        rw [List.length_take, List.length_drop] at hj
        have := hcell (lo + j) (by omega)
        rw [Nat.add_assoc, this]
        simp
      · exact .inl (by rw [show hi - lo = 0 by omega]; rfl)
def manyL (l : List UInt8) : Nat := (partsOf l).length
theorem many_is (l : List UInt8) : manyL l = max ((l.length + 41) / 42) 1 := parts_len l
theorem cutFrom_get : ∀ (f : Nat) (b : List UInt8) (i : Nat), b.length ≤ 42 * (f + 1) → i < (cutFrom f b).length → (cutFrom f b)[i]? = some ((b.drop (42 * i)).take 42)
  | 0, b, i, h, hi => by
    simp only [cutFrom, List.length_singleton] at hi ⊢
    obtain rfl : i = 0 := by omega
    rw [Nat.mul_zero, List.drop_zero, List.take_of_length_le (by omega)]
    rfl
  | f + 1, b, i, h, hi => by
    rw [cutFrom] at hi ⊢
    split
    · rename_i h42
      rw [if_pos h42] at hi
      simp only [List.length_singleton] at hi
      obtain rfl : i = 0 := by omega
      rw [Nat.mul_zero, List.drop_zero, List.take_of_length_le (by omega)]
      rfl
    · rename_i h42
      rw [if_neg h42] at hi
      cases i with
      | zero => simp
      | succ i =>
        simp only [List.length_cons] at hi
        rw [List.getElem?_cons_succ, cutFrom_get f (b.drop 42) i (by rw [List.length_drop]; omega) (by omega), List.drop_drop]
        congr 3
        omega
theorem parts_get (l : List UInt8) (i : Nat) (h : i < manyL l) : (partsOf l)[i]? = some ((l.drop (42 * i)).take 42) := cutFrom_get _ _ _ (by omega) h
def bodyI (l : List UInt8) (i : Nat) : List UInt8 := bodyL (decide (i + 1 = manyL l)) ((l.drop (42 * i)).take 42)
def encLf (x : Nat × Nat) : Array Value := #[.int .i64 (x.1 : Int), .slice (some ⟨x.2, 0, none⟩) 44 44]
def KeepL (Bs : Nat) (A : Option Addr) (l : List UInt8) (c : Nat) (X Y : World) : Prop := (Cs X Bs 60 #[.slice A l.length c] → Cs Y Bs 60 #[.slice A l.length c]) ∧ (Rd X A l → Rd Y A l) ∧ X.heap.size ≤ Y.heap.size
theorem KeepL.trans {Bs : Nat} {A : Option Addr} {l : List UInt8} {c : Nat} {X Y Z : World} (h : KeepL Bs A l c X Y) (k : KeepL Bs A l c Y Z) : KeepL Bs A l c X Z := ⟨fun x => k.1 (h.1 x), fun x => k.2.1 (h.2.1 x), Nat.le_trans h.2.2 k.2.2⟩
theorem keepL_b {Bs : Nat} {A : Option Addr} {l : List UInt8} {c : Nat} (W : World) (q : Nat) (o o' : Obj) (h : W.heap[q]? = some o) (hc : o.isCells = false) : KeepL Bs A l c W (W.putObj q o') :=
  ⟨fun x => (grownBy_keeps_cells (grownBy_putObj' W q o') (fun r e => by cases e; exact ⟨_, h, hc⟩) x rfl).trans x, fun x => x.keep fun p v hv => cell_kept hv (grownBy_putObj' W q o') (fun r e => by cases e; exact ⟨_, h, hc⟩), (grownBy_putObj' W q o').size⟩
theorem keepL_below {Bs : Nat} {A : Option Addr} {l : List UInt8} {c : Nat} {X Y : World} (hb : Below X.heap.size X Y) : KeepL Bs A l c X Y := ⟨fun x => x.below hb x.lt, fun x => x.below hb, hb.size⟩
theorem grown_below {X Y : World} (hb : Below X.heap.size X Y) : X.grownBy Y none := ⟨hb.os, hb.tape, hb.output, hb.size, fun k hk _ => hb.block k hk⟩
def FxL (B : Nat) (l : List UInt8) (x : Nat × Nat) (W : World) : Prop := Cs W x.2 5 (cellsOf (bodyI l x.1)).toArray ∧ B ≤ x.2
set_option maxRecDepth 100000 in
set_option maxHeartbeats 4000000 in
theorem leaves_seq (n : Nat) (hn : 1 ≤ n) (Bs : Nat) (A : Option Addr) (l : List UInt8) (c : Nat) (w : World) (hBs : Cs w Bs 60 #[.slice A l.length c]) (hr : Rd w A l) (hA : A = none → l = [] ∧ c = 0) (hc : l.length ≤ c) (hbig : l.length ≤ 524288) :
    SeqItem Fence.wide n Tryz.prog 144 #[.pointer (some ⟨Bs, 0, none⟩)] encLf (KeepL Bs A l c) (FxL w.heap.size l) (fun xs => xs.map (·.1) = List.range (manyL l)) (fun pre => ∃ k, pre.map (·.1) = List.range k) (manyL l) w := by
  intro q J Jx W hW hJ hJx hY h0
  have hcount := fun X => count_any A l.length c X (by simp only [maxLen]; omega)
  rw [← many_is] at hcount
  have hmany : 42 * (manyL l - 1) ≤ l.length ∧ l.length ≤ 42 * manyL l ∧ 1 ≤ manyL l := by rw [many_is]; omega
  have hbody : ∀ i, bodyI l i = bodyL (decide (i + 1 = manyL l)) ((l.drop (42 * i)).take 42) := fun i => rfl
  generalize manyL l = m at *
  have hm : (m : Int) ≤ 12484 := by omega
  have HM := hid hmany
  have HC := hid hcount
  have HBD := hid hbody
  have HWS := hid hW.size
  clear hbody hmany
  refine callsIn_of_wp Tryz.func144 rfl trivial ?_ rfl
  simp only [Tryz.ntmps144, List.size_toArray, List.length_cons, List.length_nil, Nat.reduceAdd, Nat.reduceSub, Array.replicate_succ, Array.replicate_zero, List.push_toArray, List.append_toArray, List.nil_append, List.cons_append]
  have KB := hid (hBs.below hW hBs.lt)
  have cb := KB.out.cell 0 rfl
  gi_wp2_with (refine ⟨trivial, ?_⟩; gi_at_call 105; refine (callsIn_wide.2 (hcount _)).mono ?_; rintro e _ ⟨rfl, rfl⟩)
  gi_loopw [9] (fun i wr => ∃ (k : Nat) (pre : List (Nat × Nat)), i = .int .i64 (k : Int) ∧ k ≤ m ∧ pre.map (·.1) = List.range k ∧ J pre wr ∧ Cs wr Bs 60 #[.slice A l.length c] ∧ Rd wr A l ∧ W.heap.size ≤ wr.heap.size) (fun i _ => m - (intOf i).toNat)
  case atStart => exact ⟨0, [], rfl, by omega, rfl, h0, KB.out, hr.below hW, Nat.le_refl _⟩
  case round =>
    obtain ⟨k, pre, rfl, hk, hpre, hJr, hcs, hrd, hsz⟩ := hrel
    have hcell := hcs.cell 0 rfl
    have HP := hid hpre
    have HJr := hid hJr
    have HR := hid hrd
    have HSZ := hid hsz
    have HCL := hid hcs
    have hplen : pre.length = k := by have := congrArg List.length hpre; simpa using this
    have HPL := hid hplen
    clear hpre hJr hrd hsz hplen h0 cb hcs
    by_cases hlt : k < m
    · have hlt' : (k : Int) < (m : Int) := by omega
      have hlo : k * 42 ≤ min l.length ((k + 1) * 42) := by have := HM.out; omega
      obtain ⟨A', c', hsl, hrp⟩ := rd_window HR.out hA hc hlo (Nat.min_le_left _ _)
      have epiece : (l.drop (k * 42)).take (min l.length ((k + 1) * 42) - k * 42) = (l.drop (42 * k)).take 42 := by
        rw [Nat.mul_comm k 42]
        rcases Nat.le_total l.length ((k + 1) * 42) with h | h
        · rw [Nat.min_eq_left h, List.take_of_length_le (by rw [List.length_drop]; exact Nat.le_refl _), List.take_of_length_le (by rw [List.length_drop]; omega)]
        · rw [Nat.min_eq_right h, show (k + 1) * 42 - 42 * k = 42 by omega]
      have eplen : ((l.drop (42 * k)).take 42).length = min l.length ((k + 1) * 42) - k * 42 := by
        rw [List.length_take, List.length_drop]
        omega
      rw [epiece] at hrp
      rw [show ((k * 42 : Nat) : Int) = (k : Int) * 42 by omega, show ((min l.length ((k + 1) * 42) : Nat) : Int) = min (l.length : Int) (((k : Int) + 1) * 42) by omega, ← eplen] at hsl
      have hbd := fun b => bodyOf_any ((l.drop (42 * k)).take 42) b A' c' wr (by rw [List.length_take]; omega) hrp
      have hbi := HBD.out k
      have HLT := hid hlt
      have k42 : (k : Int) ≤ 12484 := by omega
      have hres : ∀ X, Below wr.heap.size wr X → J pre X := fun X hb => hJ _ _ _ none HJr.out (grown_below hb) (fun r e => by cases e)
      have HRES := hid hres
      have hmin0 : (0 : Int) ≤ (k : Int) * 42 := by omega
      have hmin1 : (k : Int) * 42 ≤ min (l.length : Int) (((k : Int) + 1) * 42) := by omega
      generalize (l.drop (42 * k)).take 42 = p at *
      have HBI := hid hbi
      have HBF := hid hbd
      clear hlo hrp epiece eplen hbd hbi hlt hk hres
      have last : ∀ t : Bool, t = decide (k + 1 = m) → ((k : Int) == (m : Int) - 1) = t := fun t ht => by
        subst ht
        by_cases e : k + 1 = m
        · rw [decide_eq_true e]
          simp
          omega
        · rw [decide_eq_false e]
          rw [beq_eq_false_iff_ne]
          omega
      obtain ⟨t, ht⟩ : ∃ t, t = decide (k + 1 = m) := ⟨_, rfl⟩
      have hl1 := last t ht
      rw [← ht] at HBI
      have HT := hid ht
      clear last ht
      cases t
      all_goals
        gi_wp2_with (refine ⟨trivial, ?_⟩; gi_at_call 145; refine (callsIn_wide.2 (HBF.out _)).mono ?_; rintro e X ⟨g, rfl, hcg, hg, hbX⟩; have HX := hid hbX; obtain ⟨fn, tmps, assign, body, hy, hR⟩ := hY pre (k, g) X (HRES.out X hbX) ⟨by rw [HBI.out]; exact hcg, Nat.le_trans HWS.out (Nat.le_trans HSZ.out hg)⟩ (by rw [HPL.out]; exact HLT.out); dsimp only [encLf] at hy; clear hcg hg hbX)
        refine hR.mono ?_
        clear hR hy
        rintro e W3 (⟨rfl, hJ3, hk3⟩ | ⟨rfl, hJx3⟩)
        · have H3 := hid hJ3
          have HK3 := hid hk3
          clear hJ3 hk3
          gi_wp2
          go_roundw
          case rel => exact ⟨k + 1, pre ++ [(k, g)], by go_num, HLT.out, by rw [List.map_append, HP.out, List.range_succ]; rfl, H3.out, HK3.out.1 (HCL.out.below HX.out HCL.out.lt), HK3.out.2.1 (HR.out.below HX.out), Nat.le_trans HSZ.out (Nat.le_trans HX.out.size HK3.out.2.2)⟩
          case measure => have := HLT.out; simp [intOf]; omega
        · have H3 := hid hJx3
          clear hJx3
          gi_wp2
          refine bodyPost_ret (results_none rfl _ _ _) rfl ?_
          exact ⟨⟨_, rfl⟩, .inr ⟨_, ⟨k + 1, by rw [List.map_append, HP.out, List.range_succ]; rfl⟩, H3.out⟩⟩
    · obtain rfl : k = m := by omega
      gi_wp2
      go_end0
      exact ⟨⟨_, rfl⟩, .inl ⟨pre, HP.out, HJr.out⟩⟩
end Go.Proofs.YtfgbpinfplllgaaGreatDoor
namespace Go.Proofs.YtfgbpinfplllgaaGreatDoor
open Go.RowKit Go.Shelf
set_option maxRecDepth 100000
attribute [local go_sem] Oper.semAt_some
theorem keepsFrom_below {B : Nat} {W W' : World} (hb : Below W.heap.size W W') : KeepsFrom B W W' := ⟨hb.size, fun k o _ hk _ => (hb.block k (Array.getElem?_eq_some_iff.1 hk).1).trans hk⟩
theorem cs_grown {B : Nat} {W W' : World} {row : Option Nat} (hg : W.grownBy W' row) (hr : ∀ r, row = some r → B ≤ r ∧ ∃ o : Obj, W.heap[r]? = some o ∧ o.isCells = false) {g : Nat} {t : TypeId} {cs : Array Value} (h : Cs W g t cs) : Cs W' g t cs :=
  (grownBy_keeps_cells hg (fun r e => (hr r e).2) h rfl).trans h
theorem own_grown {B : Nat} {W W' : World} {row : Option Nat} (hg : W.grownBy W' row) (hr : ∀ r, row = some r → B ≤ r ∧ ∃ o : Obj, W.heap[r]? = some o ∧ o.isCells = false) {base n size : Nat} {e : TypeId} {v : Value} {xs : List Value} (h : W.ownsRow base e size v n xs) : W'.ownsRow base e size v n xs := by
  refine ⟨h.1, ?_⟩
  rcases h.2 with h | ⟨g', cap, cur, hv, hb, hg', r⟩
  · exact .inl h
  · exact .inr ⟨g', cap, cur, hv, hb, cs_grown hg hr (show Cs W g' e cur from hg'), r⟩
theorem below_grownRow {B B' : Nat} {w W W' : World} {row : Option Nat} (hb : Below B w W) (hg : W.grownBy W' row) (hr : ∀ r, row = some r → B' ≤ r ∧ ∃ o : Obj, W.heap[r]? = some o ∧ o.isCells = false) (hB : B ≤ B') (hs : B ≤ W.heap.size) : Below B w W' :=
  hb.grown hg hs fun k e => Nat.le_trans hB (hr k e).1
def onlyN (Q : Exit → Act → World → Prop) : Exit → Act → World → Prop
  | .normal, a, w => Q .normal a w
  | _, _, _ => False
theorem onlyN_ok {Q : Exit → Act → World → Prop} : ∀ e a w, onlyN Q e a w → Q e a w
  | .normal, _, _, h => h
  | .ret, _, _, h => h.elim
  | .exit _, _, _, h => h.elim
  | .goto _, _, _, h => h.elim
  | .panic _, _, _, h => h.elim
  | .outgrown, _, _, h => h.elim
def clos (bj ba : Nat) (y : Nat × Nat) : Value := .func (.func 110) #[] #[.pointer (some ⟨bj, 0, none⟩), .pointer (some ⟨y.1, 0, none⟩), .pointer (some ⟨y.2, 0, none⟩), .pointer (some ⟨ba, 0, none⟩)]
structure Vars (W : World) (B : Nat) (l : List UInt8) (x y : Nat × Nat) : Prop where
  num : Cs W y.1 3 #[.int .i64 (x.1 : Int)]
  sl : Cs W y.2 60 #[.slice (some ⟨x.2, 0, none⟩) 44 44]
  body : Cs W x.2 5 (cellsOf (bodyI l x.1)).toArray
  new : B ≤ y.1 ∧ B ≤ y.2 ∧ B ≤ x.2
theorem Vars.grown {B B' : Nat} {W W' : World} {row : Option Nat} (hg : W.grownBy W' row) (hr : ∀ r, row = some r → B' ≤ r ∧ ∃ o : Obj, W.heap[r]? = some o ∧ o.isCells = false) {l : List UInt8} {x y : Nat × Nat} (h : Vars W B l x y) : Vars W' B l x y :=
  ⟨cs_grown hg hr h.num, cs_grown hg hr h.sl, cs_grown hg hr h.body, h.new⟩
theorem Vars.turn {B : Nat} {W W' : World} {G : Nat → Prop} (ht : Turn W W' G) {l : List UInt8} {x y : Nat × Nat} (h : Vars W B l x y) (h1 : ¬ G y.1) (h2 : ¬ G y.2) (h3 : ¬ G x.2) : Vars W' B l x y :=
  ⟨h.num.turn ht h1, h.sl.turn ht h2, h.body.turn ht h3, h.new⟩
theorem Vars.below {B : Nat} {W W' : World} (hb : Below W.heap.size W W') {l : List UInt8} {x y : Nat × Nat} (h : Vars W B l x y) : Vars W' B l x y := h.turn (Turn.of_below hb fun _ => False) (fun h => h) (fun h => h) (fun h => h)
theorem own_cell {w : World} {base n g cap : Nat} {e : TypeId} {xs : List Value} (ho : w.ownsRow base e 1 (.slice (some ⟨g, 0, none⟩) n cap) n xs) {j : Nat} {x : Value} (hx : xs[j]? = some x) : w.cell? ⟨g, j, none⟩ = some x := by
  rcases ho.2 with ⟨h0, _⟩ | ⟨g', cap', cur, h0, _, hg', _, _, _, h5⟩
  · cases h0
  · cases h0
    refine (show Cs w g e cur from hg').cell j ?_
    rw [← h5, List.getElem?_take] at hx
    split at hx
    · rw [← Array.getElem?_toList]; exact hx
    · cases hx
theorem Turn.kf {B : Nat} {W W' : World} {G : Nat → Prop} (h : Turn W W' G) (hG : ∀ k, G k → ∃ t cs, Cs W k t cs) : KeepsFrom B W W' :=
  ⟨h.size, fun k o _ hk hc => (h.block k (Array.getElem?_eq_some_iff.1 hk).1 fun g => by
    obtain ⟨t, cs, hh⟩ := hG k g
    unfold Cs at hh
    rw [hk] at hh
    cases hh
    cases hc).trans hk⟩
theorem rd_turn {w W W' : World} {A : Option Addr} {l : List UInt8} {G : Nat → Prop} (h0 : Rd w A l) (ht : Turn W W' G) (hG : ∀ k, k < w.heap.size → ¬ G k) (h : Rd W A l) : Rd W' A l := by
  rcases h with h | ⟨b, off, e, hc⟩
  · exact .inl h
  · rcases h0 with h0 | ⟨b', off', e', hc'⟩
    · exact .inl h0
    · rw [e] at e'
      cases e'
      exact .inr ⟨b, off, e, fun j hj => (World.cell?_of_block (w := W) (ht.block _ (lt_of_cell (hc j hj)) (hG _ (lt_of_cell (hc' j hj))))).trans (hc j hj)⟩
theorem Turn.set1 (W : World) (b : Nat) (v : Value) : Turn W (W.setCell ⟨b, 0, none⟩ v) (· = b) := (Turn.of_grown (grownBy_setCell' W b v)).mono fun i _ h => by cases h; rfl
def LI (B bj ba g7 jb : Nat) (at' : Int) (l : List UInt8) (w : World) (pre : List (Nat × Nat)) (W : World) : Prop :=
  ∃ (v : Value) (bs : List (Nat × Nat)), bs.length = pre.length ∧ Cs W g7 128 #[v] ∧ W.ownsRow B 126 1 v pre.length (bs.map (clos bj ba)) ∧
    (∀ (k : Nat) x y, pre[k]? = some x → bs[k]? = some y → Vars W B l x y) ∧ Cs W bj 54 #[.pointer (some ⟨jb, 0, none⟩)] ∧ Cs W ba 3 #[.int .i64 at'] ∧ Below w.heap.size w W
theorem LI.own {B B' bj ba g7 jb : Nat} {at' : Int} {l : List UInt8} {w : World} (hB : w.heap.size ≤ B') : OwnFrom B' (LI B bj ba g7 jb at' l w) := by
  rintro s W W' row ⟨v, bs, h1, h2, h3, h4, h5, h6, h7⟩ hg hr
  exact ⟨v, bs, h1, cs_grown hg hr h2, own_grown hg hr h3, fun k x y hx hy => (h4 k x y hx hy).grown hg hr, cs_grown hg hr h5, cs_grown hg hr h6, below_grownRow h7 hg hr hB h7.size⟩
theorem LI.below {B bj ba g7 jb : Nat} {at' : Int} {l : List UInt8} {w W W' : World} {pre : List (Nat × Nat)} (h : LI B bj ba g7 jb at' l w pre W) (hb : Below W.heap.size W W') : LI B bj ba g7 jb at' l w pre W' := by
  obtain ⟨v, bs, h1, h2, h3, h4, h5, h6, h7⟩ := h
  exact ⟨v, bs, h1, h2.below hb h2.lt, own_below h3 hb, fun k x y hx hy => (h4 k x y hx hy).below hb, h5.below hb h5.lt, h6.below hb h6.lt, below_chain h7 hb⟩
theorem infoStep : (Tryz.prog.info? 126).map (fun i => (i.zero, i.size, i.bytes)) = some (some .nilFunc, 1, 8) := by kernel_rfl
set_option maxHeartbeats 1000000 in
theorem leaves_in (n : Nat) (A : Option Addr) (len cap : Nat) (w : World) :
    CallsIn Fence.wide n Tryz.prog 109 #[.slice A len cap] w fun e w' => e = .returned (.func (.func 144) #[] #[.pointer (some ⟨w.heap.size, 0, none⟩)]) ∧ w' = w.alloc (.cells #[.slice A len cap] 60) := by
  refine callsIn_of_wp Tryz.func109 rfl trivial ?_ rfl
  simp only [Tryz.ntmps109, List.size_toArray, List.length_cons, List.length_nil, Nat.reduceAdd, Nat.reduceSub, Array.replicate_succ, Array.replicate_zero, List.push_toArray, List.append_toArray, List.nil_append, List.cons_append]
  gi_wp2
  go_ret
  exact ⟨rfl, rfl⟩
theorem clos_step {w : World} {B bj ba jb d : Nat} {at' N : Int} {l : List UInt8} {x y : Nat × Nat} {F : Nat → Prop} (hv : Vars w B l x y) (hj : Cs w bj 54 #[.pointer (some ⟨jb, 0, none⟩)]) (ha : Cs w ba 3 #[.int .i64 at'])
    (cd : w.cell? ⟨jb, 0, none⟩ = some (.pointer (some ⟨d, 0, none⟩))) (cn : w.cell? ⟨jb, 5, none⟩ = some (.int .u64 N)) (hb : (bodyI l x.1).length = 44) (hat : 0 ≤ at' ∧ at' + (x.1 : Int) ≤ 1000000) (hN : 0 < N ∧ N + (x.1 : Int) < 4294967296)
    (hF : ∀ k, w.heap.size ≤ k → F k) (f1 : ¬ F bj) (f2 : ¬ F ba) (f3 : ¬ F jb) (f4 : ¬ F y.1) (f5 : ¬ F y.2) (f6 : ¬ F x.2) : StepOk w (clos bj ba y) d F (wrG (at' + (x.1 : Int)) (putN (N + (x.1 : Int)) (bodyI l x.1))) := by
  refine ⟨_, _, .inl rfl, enters_of Tryz.func110 (by kernel_rfl) rfl, fun W s ht hd hs hq => ?_⟩
  have tc : ∀ {p : Addr} {v : Value}, w.cell? p = some v → ¬ F p.block → W.cell? p = some v := fun hc hn => (World.cell?_of_block (w := w) (ht.block _ (lt_of_cell hc) hn)).trans hc
  exact laying1_v (tc (hj.cell 0 rfl) f1) (tc (hv.num.cell 0 rfl) f4) (tc (hv.sl.cell 0 rfl) f5) (tc (ha.cell 0 rfl) f2) (tc cd f3) (tc cn f3) (rd_cs (hv.body.turn ht f6) rfl) hb hat hN hd (hF_up hF ht) hs hq
def LayRet (jb d : Nat) (at' : Int) (N : Int) (l : List UInt8) (w : World) (e : Ending) (w' : World) : Prop := Below w.heap.size w w' ∧ ∃ (b c' : Nat) (vs : List Value), e = .returned (.slice (some ⟨b, 0, none⟩) (manyL l + 1) c') ∧ manyL l + 1 ≤ c' ∧ c' ≤ maxLen ∧ w.heap.size ≤ b ∧ b < w'.heap.size ∧ (∀ j v, vs[j]? = some v → w'.cell? ⟨b, j, none⟩ = some v) ∧ vs.length = manyL l + 1 ∧
  ∀ (W : World) (F : Nat → Prop), Below w'.heap.size w' W → ¬ F jb → (∀ k, F k → k < w.heap.size ∨ w'.heap.size ≤ k) → (∀ k, W.heap.size ≤ k → F k) → Steps W vs d F (gsOf at' (newBlks N (partsOf l)))
theorem LayRet.at {jb d : Nat} {at' N : Int} {l : List UInt8} {w w' : World} {e : Ending} (h : LayRet jb d at' N l w e w') : ∃ (A' : Option Addr) (c' : Nat), e = .returned (.slice A' (manyL l + 1) c') ∧ manyL l + 1 ≤ c' ∧ c' ≤ maxLen ∧
  ∀ F : Nat → Prop, ¬ F jb → (∀ k, F k → k < w.heap.size ∨ w'.heap.size ≤ k) → (∀ k, w'.heap.size ≤ k → F k) → StepsAt w' A' d F (gsOf at' (newBlks N (partsOf l))) := by
  obtain ⟨hb, b, c', vs, h1, h2, h3, h4, h5, h6, h7, h8⟩ := h
  refine ⟨_, c', h1, h2, h3, fun F f1 f2 f3 => ⟨vs, h8 w' F (Below.refl _ _) f1 f2 f3, .inr ⟨b, 0, rfl, fun hf => ?_, fun j v hv => by rw [Nat.zero_add]; exact h6 j v hv⟩⟩⟩
  rcases f2 b hf with h | h <;> omega
set_option maxRecDepth 100000 in
set_option maxHeartbeats 8000000 in
theorem laying_in (jb d : Nat) (at' N : Int) (l : List UInt8) (A : Option Addr) (c : Nat) (w : World) (cd : w.cell? ⟨jb, 0, none⟩ = some (.pointer (some ⟨d, 0, none⟩))) (cn : w.cell? ⟨jb, 5, none⟩ = some (.int .u64 N)) (hr : Rd w A l) (hA : A = none → l = [] ∧ c = 0) (hc : l.length ≤ c) (hbig : l.length ≤ 524288)
    (hN : 0 < N ∧ N + (manyL l : Int) ≤ 4294967296) (hat : 0 ≤ at' ∧ at' + (manyL l : Int) ≤ 1000000) :
    CallsIn Fence.wide 5 Tryz.prog 68 #[.pointer (some ⟨jb, 0, none⟩), .slice A l.length c, .int .i64 at'] w fun e w' => LayRet jb d at' N l w e w' := by
  have HR := hid hr
  have HCD := hid cd
  have HCN := hid cn
  clear cd cn hr
  refine callsIn_of_wp_marks Tryz.func68 rfl trivial ?_ rfl
  simp only [Tryz.ntmps68, List.size_toArray, List.length_cons, List.length_nil, Nat.reduceAdd, Nat.reduceSub, Array.replicate_succ, Array.replicate_zero, List.push_toArray, List.append_toArray, List.nil_append, List.cons_append]
  gi_wp2_with (refine ⟨trivial, ?_⟩; gi_at_call 109; refine (leaves_in _ _ _ _ _).mono ?_; rintro e w' ⟨rfl, rfl⟩)
  have CJ := Cs.new w 54 #[.pointer (some ⟨jb, 0, none⟩)]
  have b1 := (Below.refl w.heap.size w).alloc (Nat.le_refl _) (.cells #[.pointer (some ⟨jb, 0, none⟩)] 54)
  have s1 : (w.alloc (.cells #[.pointer (some ⟨jb, 0, none⟩)] 54)).heap.size = w.heap.size + 1 := by simp
  generalize w.alloc (.cells #[.pointer (some ⟨jb, 0, none⟩)] 54) = w1 at *
  have CA := Cs.new w1 3 #[.int .i64 at']
  have b2 := (Below.refl w1.heap.size w1).alloc (Nat.le_refl _) (.cells #[.int .i64 at'] 3)
  have s2 : (w1.alloc (.cells #[.int .i64 at'] 3)).heap.size = w1.heap.size + 1 := by simp
  generalize w1.alloc (.cells #[.int .i64 at'] 3) = w2 at *
  have C7 := Cs.new w2 128 #[.slice none 0 0]
  have b3 := (Below.refl w2.heap.size w2).alloc (Nat.le_refl _) (.cells #[.slice none 0 0] 128)
  have s3 : (w2.alloc (.cells #[.slice none 0 0] 128)).heap.size = w2.heap.size + 1 := by simp
  generalize w2.alloc (.cells #[.slice none 0 0] 128) = w3 at *
  have CB := Cs.new w3 60 #[.slice A l.length c]
  have b4 := (Below.refl w3.heap.size w3).alloc (Nat.le_refl _) (.cells #[.slice A l.length c] 60)
  have s4 : (w3.alloc (.cells #[.slice A l.length c] 60)).heap.size = w3.heap.size + 1 := by simp
  generalize w3.alloc (.cells #[.slice A l.length c] 60) = WL at *
  rw [s1] at CA s2
  rw [s2] at C7 s3
  rw [s3] at CB s4
  have CJ := (CJ.below (below_chain b2 (below_chain b3 b4)) CJ.lt)
  have CA := (CA.below (below_chain b3 b4) CA.lt)
  have C7 := C7.below b4 C7.lt
  have BL := below_chain b1 (below_chain b2 (below_chain b3 b4))
  have hI0 : LI w.heap.size w.heap.size (w.heap.size + 1) (w.heap.size + 1 + 1) jb at' l w [] WL := ⟨_, [], rfl, C7, World.ownsRow_nil _ _ _ _, fun k x y hx => by simp at hx, CJ, CA, BL⟩
  have hz1 : w.heap.size + 1 ≤ WL.heap.size := by rw [s4]; omega
  have hz : WL.heap.size = w.heap.size + 1 + 1 + 1 + 1 := s4
  have HCB := hid CB
  have HBL := hid BL
  have RL := hid (HR.out.below BL)
  clear b1 b2 b3 b4 s1 s2 s3 s4 CJ CA C7 CB BL
  have hbjw : w.heap.size ≤ w.heap.size := Nat.le_refl _
  generalize hbj : w.heap.size = bj at hI0 hz hz1 ⊢
  generalize hba : bj + 1 = ba at hI0 hz hz1 ⊢
  generalize hg7 : ba + 1 = g7 at hI0 hz ⊢
  rw [hbj, hba, hg7] at HCB
  generalize hBs : g7 + 1 = Bs at hz HCB ⊢
  refine wpIn_rangeItem (Fx := FxL WL.heap.size l) rfl (by omega) (gf := 144) (lb := #[.pointer (some ⟨Bs, 0, none⟩)]) rfl trivial (enters_of Tryz.func144 (by kernel_rfl) rfl)
    (leaves_seq (5 - 1) (by omega) Bs A l c WL HCB.out RL.out hA hc hbig) KeepL.trans (fun W q o o' _ h hc' _ => keepL_b W q o o' h hc') (fun _ => rfl)
    (LI bj bj ba g7 jb at' l w) (fun _ _ _ => False) (LI.own HBL.out.size) (fun _ _ _ _ _ hs _ _ => hs) hI0
    (fun x a' W => ∃ bi bb, a' = ⟨#[.pointer (some ⟨jb, 0, none⟩), .slice A l.length c, .int .i64 at', .pointer (some ⟨bj, 0, none⟩), undef, .pointer (some ⟨ba, 0, none⟩), .slice none 0 0, .pointer (some ⟨g7, 0, none⟩), .pointer (some ⟨bi, 0, none⟩), .pointer (some ⟨bb, 0, none⟩), .slice A l.length c, .func (.func 144) #[] #[.pointer (some ⟨Bs, 0, none⟩)], .int .i64 (x.1 : Int), .slice (some ⟨x.2, 0, none⟩) 44 44, undef, undef, undef, undef, undef, undef, undef, undef, undef, undef, undef, undef], []⟩ ∧ Vars W bj l x (bi, bb)) (fun x a' _ W W' row ⟨bi, bb, he, hv⟩ hg hr => ⟨bi, bb, he, hv.grown hg hr⟩) ?assign ?body ?done ?stop
  case assign =>
    intro q pre x W K hi hfx hlen hK
    have HK := hid hK
    have HI := hid hi
    have HF := hid hfx
    clear hK hi hfx
    simp only [encLf]
    gi_wp2
    have k1 := Cs.new W 3 #[.int .i64 (x.1 : Int)]
    have b1 := (Below.refl W.heap.size W).alloc (Nat.le_refl _) (.cells #[.int .i64 (x.1 : Int)] 3)
    have s1 : (W.alloc (.cells #[.int .i64 (x.1 : Int)] 3)).heap.size = W.heap.size + 1 := by simp
    generalize W.alloc (.cells #[.int .i64 (x.1 : Int)] 3) = W1 at *
    have k2 := Cs.new W1 60 #[.slice (some ⟨x.2, 0, none⟩) 44 44]
    have b2 := (Below.refl W1.heap.size W1).alloc (Nat.le_refl _) (.cells #[.slice (some ⟨x.2, 0, none⟩) 44 44] 60)
    rw [s1] at k2
    have b12 := below_chain b1 b2
    have hw0 := HBL.out.size
    have hWL : w.heap.size ≤ W.heap.size := by obtain ⟨v, bs, _, _, _, _, _, _, h7⟩ := HI.out; exact h7.size
    exact HK.out _ _ (keepsFrom_below b12) (keepL_below b12) (HI.out.below b12) ⟨_, _, rfl, ⟨k1.below b2 k1.lt, k2, HF.out.1.below b12 HF.out.1.lt, by omega, by show bj ≤ W.heap.size + 1; omega, by have := HF.out.2; show bj ≤ x.2; omega⟩⟩
  case body =>
    rintro q pre x a' W ⟨v, bs, h1, h2, h3, h4, h5, h6, h7⟩ ⟨bi, bb, rfl, hv⟩ hlen
    obtain ⟨i0, hi, hz0, hz1, hz2⟩ := info_parts infoStep
    have c7 := h2.cell 0 rfl
    have H1 := hid h1
    have H2 := hid h2
    have H3 := hid h3
    have H4 := hid h4
    have H5 := hid h5
    have H6 := hid h6
    have H7 := hid h7
    have HV := hid hv
    have hmany : manyL l ≤ 12484 := by rw [many_is]; omega
    have HML := hid (show pre.length ≤ 12484 by omega)
    clear h1 h2 h3 h4 h5 h6 h7 hv hmany hlen
    have kc := hid (Cs.new W 126 #[clos bj ba (bi, bb)])
    have bW := hid ((Below.refl W.heap.size W).alloc (Nat.le_refl _) (.cells #[clos bj ba (bi, bb)] 126))
    gi_wp2_with (first
      | (gi_at_builtin; refine wpListIn_append_own _ rfl _ _ 128 rfl bj 126 i0 .nilFunc 1 8 Tryz.underlying128 hi hz0 hz1 hz2 rfl (by decide) v pre.length (bs.map (clos bj ba)) rfl (own_below H3.out bW.out) ⟨W.heap.size, 0, none⟩ 1 1 [clos bj ba (bi, bb)] rfl rfl
          (fun j u hu => by
            cases j with
            | zero => cases hu; exact kc.out.cell 0 rfl
            | succ j => simp at hu) (by intro u hu; rw [List.mem_singleton] at hu; subst hu; rfl) (by simp only [maxLen]; have := HML.out; omega) (by have := HML.out; omega) (by have := H7.out.size; simp; omega) ?_; intro v' W' hown hg _; obtain ⟨g', cap', rfl⟩ := ownsRow_succ hown; have HO := hid hown; have HG := hid hg; have k7 := (H2.out.below bW.out H2.out.lt).own hg (own_below H3.out bW.out) (by decide); have c7' := k7.cell 0 rfl; have f7' := k7.frozen 0; have K7 := hid k7; clear hown hg k7))
    have hG : ∀ k, (v.ownBlock = some k ∨ k = g7) → bj ≤ k ∧ ∃ t cs, Cs W k t cs ∧ (t = 126 ∨ t = 128) := by
      rintro k (e1 | rfl)
      · obtain ⟨a1, cs, a2⟩ := own_blk H3.out e1
        exact ⟨a1, _, cs, a2, .inl rfl⟩
      · exact ⟨by omega, _, _, H2.out, .inr rfl⟩
    have hne : ∀ {g : Nat} {t : TypeId} {cs : Array Value}, Cs W g t cs → t ≠ 126 → t ≠ 128 → ¬ (v.ownBlock = some g ∨ g = g7) := fun hc n1 n2 h => by
      obtain ⟨_, t', cs', h1, h2⟩ := hG _ h
      rcases h2 with rfl | rfl
      · exact Cs.ne hc h1 n1 rfl
      · exact Cs.ne hc h1 n2 rfl
    have ht : Turn W (W'.setCell ⟨g7, 0, none⟩ (.slice (some ⟨g', 0, none⟩) (pre.length + 1) cap')) (fun k => v.ownBlock = some k ∨ k = g7) :=
      ((Turn.of_below bW.out _).trans ((Turn.of_grown HG.out).mono (G := fun k => v.ownBlock = some k ∨ k = g7) fun _ _ h => .inl h) fun _ _ h => h).trans ((Turn.set1 W' g7 _).mono (G := fun k => v.ownBlock = some k ∨ k = g7) fun _ _ h => .inr h) fun _ _ h => h
    have K8 := K7.out.set 0 (.slice (some ⟨g', 0, none⟩) (pre.length + 1) cap')
    have hset : (#[v] : Array Value).setIfInBounds 0 (.slice (some ⟨g', 0, none⟩) (pre.length + 1) cap') = #[.slice (some ⟨g', 0, none⟩) (pre.length + 1) cap'] := rfl
    rw [hset] at K8
    have hown := ownsRow_setCell_other HO.out (a := ⟨g7, 0, none⟩) (fun e1 => by
      obtain ⟨_, cs, h1⟩ := own_blk HO.out e1
      exact Cs.ne K7.out h1 (by decide) rfl) (.slice (some ⟨g', 0, none⟩) (pre.length + 1) cap')
    generalize W'.setCell ⟨g7, 0, none⟩ (.slice (some ⟨g', 0, none⟩) (pre.length + 1) cap') = W2 at *
    refine ⟨ht.kf fun k h => by obtain ⟨_, t, cs, h1, _⟩ := hG k h; exact ⟨t, cs, h1⟩, ⟨fun x => x.turn ht (hne x (by decide) (by decide)), rd_turn HR.out ht fun k hk h => by have := (hG k h).1; omega, ht.size⟩,
      ⟨.slice (some ⟨g', 0, none⟩) (pre.length + 1) cap', bs ++ [(bi, bb)], by simp [H1.out], K8, by rw [List.length_append, List.map_append]; exact hown, ?_, H5.out.turn ht (hne H5.out (by decide) (by decide)), H6.out.turn ht (hne H6.out (by decide) (by decide)),
        H7.out.trans (ht.below H7.out.size fun k h => by have := (hG k h).1; omega)⟩⟩
    have vt : ∀ {x' y' : Nat × Nat}, Vars W bj l x' y' → Vars W2 bj l x' y' := fun h => h.turn ht (hne h.num (by decide) (by decide)) (hne h.sl (by decide) (by decide)) (hne h.body (by decide) (by decide))
    intro k x' y' hx hy
    by_cases hk : k < pre.length
    · rw [List.getElem?_append_left hk] at hx
      rw [List.getElem?_append_left (by rw [H1.out]; exact hk)] at hy
      exact vt (H4.out k x' y' hx hy)
    · have e1 : k = pre.length := by
        have := (List.getElem?_eq_some_iff.1 hx).1
        simp at this
        omega
      subst e1
      rw [List.getElem?_append_right (Nat.le_refl _), Nat.sub_self] at hx
      rw [List.getElem?_append_right (by rw [H1.out]; exact Nat.le_refl _), H1.out, Nat.sub_self] at hy
      cases hx
      cases hy
      exact vt HV.out
  case done =>
    rintro D xs W hD hxs ⟨v, bs, h1, h2, h3, h4, h5, h6, h7⟩ hK
    have hlen : xs.length = manyL l := by have := congrArg List.length hxs; simpa using this
    have hmix : Tryz.prog.follows .mixedOrders = true := by kernel_rfl
    obtain ⟨i0, hi, hz0, hz1, hz2⟩ := info_parts infoStep
    have hmany : manyL l ≤ 12484 := by rw [many_is]; omega
    rw [hlen] at h1 h3
    have hbd : ∀ {p : Addr} {v : Value}, w.cell? p = some v → W.cell? p = some v := fun h => (h7.cell (lt_of_cell h)).trans h
    have c7 := h2.cell 0 rfl
    have cJ := h5.cell 0 rfl
    have cD := hbd HCD.out
    gi_wp2
    refine wpIn_wide.2 (Code.wp_mono onlyN_ok ?_)
    refine wp_region_V [7] (Below W.heap.size W) hmix ((Below.refl _ _).drew) ?_
    change wpAnyV _ _ _ _ _ _ _ _ _
    refine wpW (i := 0) (v := v) (kept_below W) rfl (DR fun w9 hS => by have q0 := cell_below hS c7; go_simp) ?_
    try simp only [getElem_toArray, getElem_cons_succ, getElem_cons_zero, Act.put, setIfInBounds_toArray, set_cons_succ, set_cons_zero]
    refine wpW (i := 1) (v := .pointer (some ⟨jb, 0, none⟩)) (kept_below W) rfl (DR fun w9 hS => by have q0 := cell_below hS cJ; go_simp) ?_
    try simp only [getElem_toArray, getElem_cons_succ, getElem_cons_zero, Act.put, setIfInBounds_toArray, set_cons_succ, set_cons_zero]
    refine wpW (i := 2) (v := .pointer (some ⟨jb, 0, none⟩)) (kept_below W) rfl (DR fun w9 hS => by go_simp) ?_
    try simp only [getElem_toArray, getElem_cons_succ, getElem_cons_zero, Act.put, setIfInBounds_toArray, set_cons_succ, set_cons_zero]
    refine wpW (i := 3) (v := .pointer (some ⟨jb, 0, none⟩)) (kept_below W) rfl (DR fun w9 hS => by go_simp) ?_
    try simp only [getElem_toArray, getElem_cons_succ, getElem_cons_zero, Act.put, setIfInBounds_toArray, set_cons_succ, set_cons_zero]
    refine wpW (i := 4) (v := .pointer (some ⟨d, 0, none⟩)) (kept_below W) rfl (DR fun w9 hS => by have q0 := cell_below hS cD; go_simp) ?_
    try simp only [getElem_toArray, getElem_cons_succ, getElem_cons_zero, Act.put, setIfInBounds_toArray, set_cons_succ, set_cons_zero]
    refine wpW (i := 5) (v := .func (.func 66) #[.pointer (some ⟨d, 0, none⟩)] #[]) (kept_below W) rfl (DR fun w9 hS => by go_simp) ?_
    try simp only [getElem_toArray, getElem_cons_succ, getElem_cons_zero, Act.put, setIfInBounds_toArray, set_cons_succ, set_cons_zero]
    refine wpAnyV_only (i := 6) rfl (by kernel_rfl) rfl (fun u hS => wp_of_run2 (v := .slice (some ⟨u.heap.size, 0, none⟩) 1 1) (w' := u.alloc (.cells #[.func (.func 66) #[.pointer (some ⟨d, 0, none⟩)] #[]] 126)) (by go_simp)
      ⟨fun u' => Below W.heap.size W u' ∧ Cs u' u.heap.size 126 #[.func (.func 66) #[.pointer (some ⟨d, 0, none⟩)] #[]] ∧ W.heap.size ≤ u.heap.size, ⟨hS.alloc hS.size _, Cs.new _ _ _, hS.size⟩, kept_and (kept_below W) (kept_and (kept_cs _ _ _) fun _ _ h _ => h), fun _ u h => h.1, ?_⟩)
    try simp only [getElem_toArray, getElem_cons_succ, getElem_cons_zero, Act.put, setIfInBounds_toArray, set_cons_succ, set_cons_zero]
    refine wpAnyV_only (i := 7) rfl (by kernel_rfl) rfl (fun u' hS' => wp_append_own _ _ _ 128 rfl bj 126 i0 .nilFunc 1 8 Tryz.underlying128 hi hz0 hz1 hz2 rfl (by decide) v (manyL l) (bs.map (clos bj ba)) rfl (own_below h3 hS'.1) ⟨u.heap.size, 0, none⟩ 1 1 [.func (.func 66) #[.pointer (some ⟨d, 0, none⟩)] #[]] rfl rfl
        (fun j x hx => by
          cases j with
          | zero => cases hx; exact hS'.2.1.cell 0 rfl
          | succ j => simp at hx) (by intro x hx; rw [List.mem_singleton] at hx; subst hx; rfl) (by simp only [maxLen]; omega) (by omega) (by have := hS'.1.size; have := h7.size; omega) fun v' u2 hown hg _ => ⟨fun u3 => Below u2.heap.size u2 u3, Below.refl _ _, kept_below _, fun h => absurd (by simp) h, ?_⟩)
    try simp only [getElem_toArray, getElem_cons_succ, getElem_cons_zero, Act.put, setIfInBounds_toArray, set_cons_succ, set_cons_zero]
    obtain ⟨g', cap', rfl⟩ := ownsRow_succ hown
    refine wpAnyV_pure (i := 8) (v := .slice (some ⟨g', 0, none⟩) (manyL l + 1) cap') (kept_below _) rfl (by kernel_rfl) (by kernel_rfl) (fun _ _ _ h => h) (DR fun w9 hS => by go_simp) ?_
    try simp only [getElem_toArray, getElem_cons_succ, getElem_cons_zero, Act.put, setIfInBounds_toArray, set_cons_succ, set_cons_zero]
    refine wpAnyV_done (by kernel_rfl) (fun y hu => ?_) _
    have HU := hid hu
    have HS' := hid hS'
    have HOWN := hid hown
    have HG := hid hg
    have HK0 := hid hK
    clear hu hS' hown hg hK
    simp only [onlyN]
    gi_wp2
    have hvb : ∀ k, v.ownBlock = some k → bj ≤ k ∧ ∃ cs, Cs W k 126 cs := fun k e1 => own_blk h3 e1
    have htu : Turn W y (fun k => v.ownBlock = some k) :=
      ((Turn.of_below HS'.out.1 _).trans ((Turn.of_grown HG.out).mono (G := fun k => v.ownBlock = some k) fun _ _ h => h) fun _ _ h => h).trans (Turn.of_below HU.out _) fun _ _ h => h
    have hky : y.heap[D]? = some (.deferred (some [])) := (htu.block D (Array.getElem?_eq_some_iff.1 HK0.out).1 fun e1 => by
      obtain ⟨_, cs, hc⟩ := hvb D e1
      unfold Cs at hc
      rw [HK0.out] at hc
      cases hc).trans HK0.out
    have hoy := own_below HOWN.out HU.out
    have hsz : W.heap.size ≤ y.heap.size := htu.size
    have hDl : D < W.heap.size := (Array.getElem?_eq_some_iff.1 HK0.out).1
    have hwy : Below w.heap.size w (y.putObj D (.deferred none)) := (h7.trans (htu.below h7.size fun k e1 => by have := (hvb k e1).1; omega)).trans (belowK_b (w := w) (Nat.le_refl _) y D _ _ (by have := HBL.out.size; omega) hky rfl rfl)
    have hne : ∀ {g : Nat} {t : TypeId} {cs : Array Value}, Cs W g t cs → t ≠ 126 → ¬ (v.ownBlock = some g) := fun hc n1 e1 => by
      obtain ⟨_, cs, h⟩ := hvb _ e1
      exact Cs.ne hc h n1 rfl
    have vt : ∀ {x y' : Nat × Nat}, Vars W bj l x y' → Vars (y.putObj D (.deferred none)) bj l x y' := fun h =>
      (h.turn htu (hne h.num (by decide)) (hne h.sl (by decide)) (hne h.body (by decide))).grown (B' := 0) (row := some D) (grownBy_putObj' y D _) (fun r e1 => by cases e1; exact ⟨Nat.zero_le _, _, hky, rfl⟩)
    have k5 := (h5.turn htu (hne h5 (by decide))).put (.deferred none) hky rfl
    have k6 := (h6.turn htu (hne h6 (by decide))).put (.deferred none) hky rfl
    have hoy' : (y.putObj D (.deferred none)).ownsRow bj 126 1 (.slice (some ⟨g', 0, none⟩) (manyL l + 1) cap') (manyL l + 1) _ := own_grown (B := 0) (row := some D) (grownBy_putObj' y D _) (fun r e1 => by cases e1; exact ⟨Nat.zero_le _, _, hky, rfl⟩) hoy
    refine ⟨by simp, .inl ⟨_, _, rfl, run_takeDeferred hky, ?_⟩⟩
    have hzy : W.heap.size ≤ (y.putObj D (.deferred none)).heap.size := by simpa using hsz
    generalize y.putObj D (.deferred none) = Y at *
    refine ⟨_, results_tmp rfl _ _ _, hwy, g', cap', bs.map (clos bj ba) ++ [.func (.func 66) #[.pointer (some ⟨d, 0, none⟩)] #[]], rfl, (own_caps hoy').1, (own_caps hoy').2, by have := (own_blk hoy' (k := g') rfl).1; omega, by obtain ⟨_, cs, hc⟩ := own_blk hoy' (k := g') rfl; exact hc.lt, fun j x hx => own_cell hoy' hx, by simp [h1], fun Z F hYZ f1 f2 f3 => ?_⟩
    have hwz : Below w.heap.size w Z := below_chain hwy hYZ
    have hYZs := hYZ.size
    have nf : ∀ k, bj ≤ k → k < W.heap.size → ¬ F k := fun k a1 a2 a3 => by
      rcases f2 k a3 with a4 | a4 <;> omega
    have nfc : ∀ {g : Nat} {t : TypeId} {cs : Array Value}, Cs W g t cs → bj ≤ g → ¬ F g := fun hc hb => nf _ hb hc.lt
    have hpl : (partsOf l).length = manyL l := rfl
    refine steps_of (by rw [newBlks_len, hpl]; simp [h1]) ?_ ⟨_, by rw [newBlks_len, hpl, List.getElem?_append_right (by simp [h1])]; simp [h1], flush_step Z d F f3⟩
    intro k b hb
    have hk : k < manyL l := by
      have := (List.getElem?_eq_some_iff.1 hb).1
      rwa [newBlks_len] at this
    have e1 := newBlks_get (partsOf l) N k _ (parts_get l k hk)
    rw [e1] at hb
    cases hb
    have hxk : xs[k]? = some (xs[k]'(by omega)) := List.getElem?_eq_getElem _
    have hbk : bs[k]? = some (bs[k]'(by omega)) := List.getElem?_eq_getElem _
    have hx1 : (xs[k]'(by omega)).1 = k := by
      have := congrArg (fun z => z[k]?) hxs
      simp only [List.getElem?_map, hxk, Option.map_some] at this
      rw [List.getElem?_range hk] at this
      exact Option.some.inj this
    have hv0 := h4 k _ _ hxk hbk
    have hv := (vt hv0).below hYZ
    generalize xs[k]'(by omega) = x at *
    generalize bs[k]'(by omega) = z at *
    refine ⟨clos bj ba z, by rw [List.getElem?_append_left (by simp [h1]; exact hk), List.getElem?_map, hbk]; rfl, ?_⟩
    have hp : ((l.drop (42 * k)).take 42).length ≤ 42 := by simp only [List.length_take]; omega
    have hst := clos_step (at' := at') (N := N) hv (k5.below hYZ k5.lt) (k6.below hYZ k6.lt) (cell_below hwz HCD.out) (cell_below hwz HCN.out) (bodyL_len _ _ (by simp only [List.length_take]; omega)) (by rw [hx1]; omega) (by rw [hx1]; omega) f3 (nfc h5 (by omega)) (nfc h6 (by omega)) f1 (nfc hv0.num hv0.new.1) (nfc hv0.sl hv0.new.2.1) (nfc hv0.body hv0.new.2.2)
    rw [hx1, bodyI, putN_body _ _ _ hp] at hst
    exact hst
  case stop =>
    rintro D c pre W _ _ h _
    exact h.elim
end Go.Proofs.YtfgbpinfplllgaaGreatDoor
