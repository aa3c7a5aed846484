/- TreDK: TreA TreD. -/
import Derived.Test.YtenpmbfncnepgaaGreatDoorTblK
import Derived.Test.YtenpmbfncnepgaaGreatDoorTreEK
/- Layer 13's laws: acts among the arguments. -/
namespace Go.Proofs.YtenpmbfncnepgaaGreatDoor
open Go.RowKit Go.Shelf Go.ChangeShapes Go.WideShapes Go.ChangeAt Go.Deep
set_option linter.unusedVariables false
set_option maxRecDepth 100000
set_option linter.unusedSimpArgs false

/-- an act: what it is, two handles, two names, where, bytes -/
structure Ac where
  what : Int
  h : Nat × Nat
  to : Nat × Nat
  nm : Key
  toNm : Key
  off : Nat
  data : List UInt8
def acC (a : Ac) (v : Value) : List Value := [.int .i64 a.what, .int .u32 (a.h.1 : Int), .int .u32 (a.h.2 : Int), .int .u32 (a.to.1 : Int), .int .u32 (a.to.2 : Int), sv a.nm, sv a.toNm, .int .u32 (a.off : Int), v]
def AcOk (a : Ac) : Prop := Hd32 a.h ∧ Hd32 a.to ∧ a.off < 4294967296 ∧ -9223372036854775808 ≤ a.what ∧ a.what ≤ 9223372036854775807
def actE : Elem Ac where
  ety := 38
  sty := 22
  n := 9
  bytes := 88
  rd w F cs x := ∃ v, cs = acC x v ∧ BsV w F v x.data ∧ AcOk x
  und := Tryz.underlying22
  info := ⟨_, _, rfl, rfl, rfl, rfl, rfl⟩
  pos := by decide
  byt := by decide
  len := by rintro w F cs x ⟨v, rfl, _⟩; rfl
  one := by
    rintro w F cs x ⟨v, rfl, h, _⟩ u hu
    simp [acC] at hu
    rcases hu with rfl | rfl | rfl | rfl | rfl | rfl | rfl | rfl | rfl
    all_goals first | rfl | exact h.one
  turn := by rintro w w' F G cs x ⟨v, h, hv, ho⟩ ht hG; exact ⟨v, h, hv.turn ht hG, ho⟩
  mono := by rintro w F G cs x ⟨v, h, hv, ho⟩ hF; exact ⟨v, h, hv.mono hF, ho⟩
section
variable {H : Type} {enc : TypeId × Value → H} {W : World} {fuel : Nat}
theorem u32_wf13 {x : Int} (h : (Lit.int .u32 x).wf = true) : ∃ n : Nat, x = (n : Int) ∧ n < 4294967296 := by
  simp [Lit.wf, IntKind.min, IntKind.max, IntKind.signed, IntKind.bits] at h
  obtain ⟨n, rfl⟩ := Int.eq_ofNat_of_zero_le (show 0 ≤ x by omega)
  exact ⟨n, rfl, by omega⟩
theorem i64_wf13 {x : Int} (h : (Lit.int .i64 x).wf = true) : -9223372036854775808 ≤ x ∧ x ≤ 9223372036854775807 := by
  simp [Lit.wf, IntKind.min, IntKind.max, IntKind.signed, IntKind.bits] at h
  exact ⟨by omega, by omega⟩
theorem trod_handle {cs : List Value} {x : DataW H × List MemPlace} (h : DataW.trod enc Tryz.prog W 0 (fun _ => true) true fuel 36 cs = some x) : ∃ z : Nat × Nat, cs = hdC z ∧ Hd32 z := by
  obtain ⟨y0, y1, n, _, hl, f0, f1⟩ := trod_struct2 Tryz.underlying36 h
  have hc : Tryz.prog.cellsOf 36 = 2 := by kernel_rfl
  have h1 : Tryz.prog.cellsOf 24 = 1 := by kernel_rfl
  rw [hc] at hl
  obtain ⟨c0, c1, rfl⟩ : ∃ c0 c1, cs = [c0, c1] := by
    match cs, hl with
    | [a, b], _ => exact ⟨a, b, rfl⟩
  change DataW.trod enc Tryz.prog W 0 _ true n 24 (([c0, c1].drop 0).take (Tryz.prog.cellsOf 24)) = some y0 at f0
  change DataW.trod enc Tryz.prog W 0 _ true n 24 (([c0, c1].drop 1).take (Tryz.prog.cellsOf 24)) = some y1 at f1
  rw [h1] at f0 f1
  obtain ⟨a0, e0, _, w0⟩ := DataW.trod_int Tryz.underlying24 f0
  obtain ⟨a1, e1, _, w1⟩ := DataW.trod_int Tryz.underlying24 f1
  simp at e0 e1
  subst e0 e1
  obtain ⟨m, rfl, hm⟩ := u32_wf13 w0
  obtain ⟨k, rfl, hk⟩ := u32_wf13 w1
  exact ⟨(m, k), rfl, hm, hk⟩
theorem act_mk {c0 c5 c6 c7 c8 : Value} {hs ts : List Value} {z1 z2 : Nat × Nat} (h1 : hs = hdC z1) (h2 : ts = hdC z2) (k1 : Hd32 z1) (k2 : Hd32 z2) {y0 y3 y4 y5 y6 : DataW H × List MemPlace} {n : Nat}
    (f0 : DataW.trod enc Tryz.prog W 0 (fun _ => true) true n 3 [c0] = some y0) (f3 : DataW.trod enc Tryz.prog W 0 (fun _ => true) true n 9 [c5] = some y3) (f4 : DataW.trod enc Tryz.prog W 0 (fun _ => true) true n 9 [c6] = some y4)
    (f5 : DataW.trod enc Tryz.prog W 0 (fun _ => true) true n 24 [c7] = some y5) (f6 : DataW.trod enc Tryz.prog W 0 (fun _ => true) true n 26 [c8] = some y6) : ∃ z : Ac, [c0] ++ hs ++ ts ++ [c5, c6, c7, c8] = acC z c8 ∧ BsV W (· < W.heap.size) c8 z.data ∧ AcOk z := by
  obtain ⟨a0, e0, _, w0⟩ := DataW.trod_int Tryz.underlying3 f0
  obtain ⟨s3, e3, _, _⟩ := DataW.trod_string Tryz.underlying9 f3
  obtain ⟨s4, e4, _, _⟩ := DataW.trod_string Tryz.underlying9 f4
  obtain ⟨a5, e5, _, w5⟩ := DataW.trod_int Tryz.underlying24 f5
  obtain ⟨v, l, e6, hv⟩ := trod_bytesV f6
  simp at e0 e3 e4 e5 e6
  subst e0 e3 e4 e5 e6 h1 h2
  obtain ⟨m, rfl, hm⟩ := u32_wf13 w5
  exact ⟨⟨a0, z1, z2, s3.data.toList, s4.data.toList, m, l⟩, rfl, hv, k1, k2, hm, i64_wf13 w0⟩
theorem trod_act {cs : List Value} {x : DataW H × List MemPlace} (h : DataW.trod enc Tryz.prog W 0 (fun _ => true) true fuel 38 cs = some x) : ∃ z : Ac, actE.rd W (· < W.heap.size) cs z := by
  obtain ⟨xs, n, _, hx, hl, hlen, hf⟩ := DataW.trod_struct Tryz.underlying38 h
  have hc : Tryz.prog.cellsOf 38 = 9 := by kernel_rfl
  have k0 : Tryz.prog.cellsOf 3 = 1 := by kernel_rfl
  have k1 : Tryz.prog.cellsOf 36 = 2 := by kernel_rfl
  have k3 : Tryz.prog.cellsOf 9 = 1 := by kernel_rfl
  have k5 : Tryz.prog.cellsOf 24 = 1 := by kernel_rfl
  have k6 : Tryz.prog.cellsOf 26 = 1 := by kernel_rfl
  rw [hc] at hl
  match cs, hl, xs, hlen with
  | [c0, c1, c2, c3, c4, c5, c6, c7, c8], _, [y0, y1, y2, y3, y4, y5, y6], _ =>
    have f0 : DataW.trod enc Tryz.prog W 0 (fun _ => true) true n 3 (([c0, c1, c2, c3, c4, c5, c6, c7, c8].drop 0).take (Tryz.prog.cellsOf 3)) = some y0 := hf 0 _ rfl
    have f1 : DataW.trod enc Tryz.prog W 0 (fun _ => true) true n 36 (([c0, c1, c2, c3, c4, c5, c6, c7, c8].drop 1).take (Tryz.prog.cellsOf 36)) = some y1 := hf 1 _ rfl
    have f2 : DataW.trod enc Tryz.prog W 0 (fun _ => true) true n 36 (([c0, c1, c2, c3, c4, c5, c6, c7, c8].drop 3).take (Tryz.prog.cellsOf 36)) = some y2 := hf 2 _ rfl
    have f3 : DataW.trod enc Tryz.prog W 0 (fun _ => true) true n 9 (([c0, c1, c2, c3, c4, c5, c6, c7, c8].drop 5).take (Tryz.prog.cellsOf 9)) = some y3 := hf 3 _ rfl
    have f4 : DataW.trod enc Tryz.prog W 0 (fun _ => true) true n 9 (([c0, c1, c2, c3, c4, c5, c6, c7, c8].drop 6).take (Tryz.prog.cellsOf 9)) = some y4 := hf 4 _ rfl
    have f5 : DataW.trod enc Tryz.prog W 0 (fun _ => true) true n 24 (([c0, c1, c2, c3, c4, c5, c6, c7, c8].drop 7).take (Tryz.prog.cellsOf 24)) = some y5 := hf 5 _ rfl
    have f6 : DataW.trod enc Tryz.prog W 0 (fun _ => true) true n 26 (([c0, c1, c2, c3, c4, c5, c6, c7, c8].drop 8).take (Tryz.prog.cellsOf 26)) = some y6 := hf 6 _ rfl
    rw [k0] at f0
    rw [k1] at f1 f2
    rw [k3] at f3 f4
    rw [k5] at f5
    rw [k6] at f6
    obtain ⟨z1, e1, h1⟩ := trod_handle f1
    obtain ⟨z2, e2, h2⟩ := trod_handle f2
    obtain ⟨z, hz, hv, ho⟩ := act_mk e1 e2 h1 h2 f0 f3 f4 f5 f6
    exact ⟨z, c8, hz, hv, ho⟩
/-- a list of acts -/
theorem open_acts {base : Nat} {v : Value} {d : DataW H} {p : List MemPlace} (hv : Value.okWide Tryz.prog W .any base 22 v) (h : DataW.Trod enc Tryz.prog W 0 (fun _ => true) true 22 v d p) :
    ∃ A l c, v = .slice A l.length c ∧ RdX actE W (· < W.heap.size) A l ∧ l.length ≤ c ∧ c ≤ maxLen ∧ (A = none → l = [] ∧ c = 0) := by
  obtain ⟨A, l, c, h1, h2, -, h3⟩ := open_list (E := actE) (fun _ => True) (fun _ _ _ h => by obtain ⟨z, hz⟩ := trod_act h; exact ⟨z, hz, trivial⟩) (by kernel_rfl) hv h
  exact ⟨A, l, c, h1, h2, h3⟩
end

end Go.Proofs.YtenpmbfncnepgaaGreatDoor

/- An act on a tree. -/
namespace Go.Proofs.YtenpmbfncnepgaaGreatDoor
open Go.RowKit Go.Shelf
set_option linter.unusedVariables false
set_option maxRecDepth 100000
set_option linter.unusedSimpArgs false

/-- what an act makes of a tree, and its status -/
noncomputable def actT (t : Tr) (a : Ac) : Tr × Nat :=
  if a.what = 0 then ((makeT t a.h a.nm false).1, (makeT t a.h a.nm false).2.2) else
  if a.what = 1 then ((makeT t a.h a.nm true).1, (makeT t a.h a.nm true).2.2) else
  if a.what = 2 then removeT t a.h a.nm false else
  if a.what = 3 then removeT t a.h a.nm true else
  if a.what = 4 then renameT t a.h a.nm a.to a.toNm else
  if a.what = 5 then writeT t a.h a.off a.data else resizeT t a.h a.off
theorem act_step {t : Tr} (h : MayT t) (a : Ac) : StepOk t (actT t a).1 (actT t a).2 := by
  unfold actT
  split
  · exact step_make h _ _ _
  split
  · exact step_make h _ _ _
  split
  · exact step_remove h _ _ _
  split
  · exact step_remove h _ _ _
  split
  · exact step_rename h _ _ _ _
  split
  · exact step_write h _ _ _
  · exact step_resize h _ _
theorem doe_end {fn : Func} {K : Ending → World → Prop} {tmps : Array Value} {w : World} {g : Nat} {cs : List Value} {x : Value} (h : fn.results = #[.cell 4 31, .tmp 5]) (hl : cs.length = 16) (hc : Cs w g 31 cs.toArray) (hp : tmps.getD 4 undef = .pointer (some ⟨g, 0, none⟩)) (hx : tmps.getD 5 undef = x)
    (hK : K (.returned (.tuple #[.agg cs.toArray, x])) w) : bodyPost Tryz.prog fn K Exit.ret { tmps := tmps, defers := [] } w :=
  bodyPost_ret (by rw [results_agg_tmp (P := Tryz.prog) (p := 4) (u := 5) (ty := 31) h tmps w g 0 cs hp (At.whole hc) _ Tryz.underlying31 rfl (by rw [hl]; exact infoTree), hx]) rfl hK
theorem Cs.part {w : World} {g : Nat} {t : TypeId} {cs : Array Value} (h : Cs w g t cs) (f : Nat) (ps : List Value) (hp : ∀ i v, ps[i]? = some v → cs[f + i]? = some v) : At w g f ps := fun i v hv => h.cell (f + i) (hp i v hv)
set_option maxHeartbeats 16000000 in
theorem Does_v (K : K13) (t : Tr) (cs : List Value) (a : Ac) (xs : List Value) (F : Nat → Prop) (w : World) (hT : Tabs w) (hM : MayT t) (ht : TrAt w F cs t) (hF : ∀ k, F k → k < w.heap.size) (ha : actE.rd w (fun _ => True) xs a) :
    Calls Tryz.prog 5 #[.agg cs.toArray, .agg xs.toArray] w fun e w' => GivesT F (actT t a) w e w' := by
  obtain ⟨v, rfl, hb, ho⟩ := ha
  obtain ⟨Av, cv, rfl, rv, nv, lv, mv⟩ := hb
  have HB := Lib.hid (show BsV w (fun _ => True) (.slice Av a.data.length cv) a.data from ⟨Av, cv, rfl, rv, nv, lv, mv⟩)
  obtain ⟨what, ah, ato, anm, atn, aoff, ad⟩ := a
  dsimp only [acC] at *
  have HK := Lib.hid K
  have HT := Lib.hid hT
  have HTR := Lib.hid ht
  have HF := Lib.hid hF
  have HO := Lib.hid ho
  have HA := Lib.hid (show actT t ⟨what, ah, ato, anm, atn, aoff, ad⟩ = if what = 0 then ((makeT t ah anm false).1, (makeT t ah anm false).2.2) else if what = 1 then ((makeT t ah anm true).1, (makeT t ah anm true).2.2) else if what = 2 then removeT t ah anm false else if what = 3 then removeT t ah anm true else if what = 4 then renameT t ah anm ato atn else if what = 5 then writeT t ah aoff ad else resizeT t ah aoff from rfl)
  have HMM := Lib.hid hM
  clear K hM hT ht hF ho rv nv lv mv
  go_enter Tryz.func5, Tryz.ntmps5
  by_cases h0 : what = 0
  · subst h0
    rw [if_pos rfl] at HA
    go_wp2_with (first
      | ((with_reducible show wpList _ _ _ _ _ w); refine wpList_boxS rfl 31 _ rfl cs rfl ?_; intro g1 w1 hk1 hb1 hg1; go_frame; have C1 := Lib.hid hk1; have B1 := Lib.hid hb1; clear hk1 hb1 hg1)
      | ((with_reducible show wpList _ _ _ _ _ w1); refine wpList_boxS rfl 38 _ rfl [.int .i64 0, .int .u32 (ah.1 : Int), .int .u32 (ah.2 : Int), .int .u32 (ato.1 : Int), .int .u32 (ato.2 : Int), sv anm, sv atn, .int .u32 (aoff : Int), .slice Av ad.length cv] rfl ?_; intro g2 w2 hk1 hb1 hg1; go_frame; have C2 := Lib.hid hk1; have B2 := Lib.hid (below_chain B1.out hb1); have C12 := Lib.hid (C1.out.below hb1 C1.out.lt); clear hk1 hb1 hg1)
      | ((with_reducible show wpList _ _ _ _ _ w2); refine wpList_allocS rfl 31 rfl treeZ treeZero ?_; intro g4 w3 hk1 hb1 hg1; go_frame; have C4 := Lib.hid hk1; have B3 := Lib.hid (below_chain B2.out hb1); have G4 := Lib.hid (show w.heap.size ≤ g4 from Nat.le_trans B2.out.size hg1); have C13 := Lib.hid (C12.out.below hb1 C12.out.lt); have C23 := Lib.hid (C2.out.below hb1 C2.out.lt); have q0 : w3.cell? ⟨g2, 0, none⟩ = some (.int .i64 0) := C23.out.cell 0 rfl; have q5 : w3.cell? ⟨g2, 5, none⟩ = some (.string ⟨anm.toArray⟩) := C23.out.cell 5 rfl; have q6 : w3.cell? ⟨g2, 6, none⟩ = some (.string ⟨atn.toArray⟩) := C23.out.cell 6 rfl; have q7 : w3.cell? ⟨g2, 7, none⟩ = some (.int .u32 (aoff : Int)) := C23.out.cell 7 rfl; have q8 : w3.cell? ⟨g2, 8, none⟩ = some (.slice Av ad.length cv) := C23.out.cell 8 rfl; clear hk1 hb1 hg1)
      | ((with_reducible show wpList _ _ _ _ _ w3); refine wpList_loadS rfl 31 _ rfl g1 rfl cs C13.out _ Tryz.underlying31 rfl (by rw [HTR.out.len]; exact infoTree) ?_; go_frame)
      | ((with_reducible show wpList _ _ _ _ _ w3); refine wpList_load_agg rfl 36 _ rfl g2 1 rfl (hdC ah) (C23.out.part 1 (hdC ah) (fun i v hv => by match i, hv with | 0, h => exact h | 1, h => exact h)) _ Tryz.underlying36 rfl infoHandle ?_; go_frame)
      | ((with_reducible show wpList _ _ _ _ _ w3); refine wpList_load_agg rfl 36 _ rfl g2 3 rfl (hdC ato) (C23.out.part 3 (hdC ato) (fun i v hv => by match i, hv with | 0, h => exact h | 1, h => exact h)) _ Tryz.underlying36 rfl infoHandle ?_; go_frame)
      | fail)
    refine (HK.out.make t cs ah anm false F w3 (HT.out.below B3.out) (HTR.out.below B3.out) HO.out.1 HMM.out).mono ?_
    rintro e w4 ⟨ts, ns, rfl, ht, hn, hb⟩
    have T4 := Lib.hid (show TrAt w4 (fun k => NewF F w3 k ∧ k < w4.heap.size) ts (makeT t ah anm false).1 from ht.mono fun k hk hh => ⟨hh, hk⟩)
    have N4 := Lib.hid (show NdAt w4 (fun k => NewF F w3 k ∧ k < w4.heap.size) ns (makeT t ah anm false).2.1 from hn.mono fun k hk hh => ⟨hh, hk⟩)
    have B4 := Lib.hid (below_chain B3.out hb)
    have C44 := Lib.hid (C4.out.below hb C4.out.lt)
    have L4 := Lib.hid (show g4 < w4.heap.size from C44.out.lt)
    clear ht hn hb
    go_wp2_with (first
      | ((with_reducible show wpList _ _ _ _ _ w4); refine wpList_allocS rfl 31 rfl treeZ treeZero ?_; intro g6 w5 hk1 hb1 hg1; go_frame; have C6 := Lib.hid hk1; have B5 := Lib.hid hb1; have G6 := Lib.hid hg1; clear hk1 hb1 hg1)
      | ((with_reducible show wpList _ _ _ _ _ w5); refine wpList_allocS rfl 43 rfl nodeZ nodeZero ?_; intro g7 w6 hk1 hb1 hg1; go_frame; have C7 := Lib.hid hk1; have B6 := Lib.hid (below_chain B5.out hb1); have G7 := Lib.hid (show w4.heap.size ≤ g7 from Nat.le_trans B5.out.size hg1); have N67 := Lib.hid (show g6 ≠ g7 from by have := C6.out.lt; omega); have C66 := Lib.hid (C6.out.below hb1 C6.out.lt); clear hk1 hb1 hg1)
      | ((with_reducible show wpList _ _ _ _ _ w6); refine wpList_storeS rfl 31 _ _ rfl g6 rfl ts treeZ rfl C66.out (by rw [T4.out.len]; rfl) T4.out.one (by rw [T4.out.len]; exact infoTree) ?_; intro w7 hk2 ht2; go_frame; have C67 := Lib.hid hk2; have C77 := Lib.hid (C7.out.turn ht2 (Ne.symm N67.out)); have B7 := Lib.hid (show Below w4.heap.size w4 w7 from below_turn B6.out ht2 B6.out.size G6.out); clear hk2 ht2)
      | ((with_reducible show wpList _ _ _ _ _ w7); refine wpList_storeS rfl 43 _ _ rfl g7 rfl ns nodeZ rfl C77.out (by rw [N4.out.len]; rfl) N4.out.one (by rw [N4.out.len]; exact infoNode) ?_; intro w8 hk2 ht2; go_frame; have C68 := Lib.hid (C67.out.turn ht2 N67.out); have B8 := Lib.hid (show Below w4.heap.size w4 w8 from below_turn B7.out ht2 B7.out.size G7.out); have C48 := Lib.hid (C44.out.below B8.out L4.out); have T8 := Lib.hid (T4.out.below B8.out); clear hk2 ht2)
      | ((with_reducible show wpList _ _ _ _ _ w8); refine wpList_loadS rfl 31 _ rfl g6 rfl ts C68.out _ Tryz.underlying31 rfl (by rw [T4.out.len]; exact infoTree) ?_; go_frame)
      | ((with_reducible show wpList _ _ _ _ _ w8); refine wpList_storeS rfl 31 _ _ rfl g4 rfl ts treeZ rfl C48.out (by rw [T4.out.len]; rfl) T4.out.one (by rw [T4.out.len]; exact infoTree) ?_; intro w9 hk2 ht2; go_frame; have C9 := Lib.hid hk2; have B9 := Lib.hid (show Below w.heap.size w w9 from below_turn (below_chain B4.out B8.out) ht2 (below_chain B4.out B8.out).size G4.out); have T9 := Lib.hid (T8.out.turn ht2 fun k hk e => by subst e; have h1 := hk.1; have h2 := C4.out.lt; have h3 := G4.out; rcases h1 with h1 | h1; exact absurd (HF.out _ h1) (by omega); omega); clear hk2 ht2)
      | fail)
    refine doe_end rfl T9.out.len C9.out rfl rfl ?_
    unfold GivesT
    rw [HA.out]
    exact ⟨ts, rfl, T9.out.mono fun k _ hk => hk.1.imp id fun h => Nat.le_trans B3.out.size h, B9.out⟩
  rw [if_neg h0] at HA
  by_cases h1 : what = 1
  · subst h1
    rw [if_pos rfl] at HA
    go_wp2_with (first
      | ((with_reducible show wpList _ _ _ _ _ w); refine wpList_boxS rfl 31 _ rfl cs rfl ?_; intro g1 w1 hk1 hb1 hg1; go_frame; have C1 := Lib.hid hk1; have B1 := Lib.hid hb1; clear hk1 hb1 hg1)
      | ((with_reducible show wpList _ _ _ _ _ w1); refine wpList_boxS rfl 38 _ rfl [.int .i64 1, .int .u32 (ah.1 : Int), .int .u32 (ah.2 : Int), .int .u32 (ato.1 : Int), .int .u32 (ato.2 : Int), sv anm, sv atn, .int .u32 (aoff : Int), .slice Av ad.length cv] rfl ?_; intro g2 w2 hk1 hb1 hg1; go_frame; have C2 := Lib.hid hk1; have B2 := Lib.hid (below_chain B1.out hb1); have C12 := Lib.hid (C1.out.below hb1 C1.out.lt); clear hk1 hb1 hg1)
      | ((with_reducible show wpList _ _ _ _ _ w2); refine wpList_allocS rfl 31 rfl treeZ treeZero ?_; intro g4 w3 hk1 hb1 hg1; go_frame; have C4 := Lib.hid hk1; have B3 := Lib.hid (below_chain B2.out hb1); have G4 := Lib.hid (show w.heap.size ≤ g4 from Nat.le_trans B2.out.size hg1); have C13 := Lib.hid (C12.out.below hb1 C12.out.lt); have C23 := Lib.hid (C2.out.below hb1 C2.out.lt); have q0 : w3.cell? ⟨g2, 0, none⟩ = some (.int .i64 1) := C23.out.cell 0 rfl; have q5 : w3.cell? ⟨g2, 5, none⟩ = some (.string ⟨anm.toArray⟩) := C23.out.cell 5 rfl; have q6 : w3.cell? ⟨g2, 6, none⟩ = some (.string ⟨atn.toArray⟩) := C23.out.cell 6 rfl; have q7 : w3.cell? ⟨g2, 7, none⟩ = some (.int .u32 (aoff : Int)) := C23.out.cell 7 rfl; have q8 : w3.cell? ⟨g2, 8, none⟩ = some (.slice Av ad.length cv) := C23.out.cell 8 rfl; clear hk1 hb1 hg1)
      | ((with_reducible show wpList _ _ _ _ _ w3); refine wpList_loadS rfl 31 _ rfl g1 rfl cs C13.out _ Tryz.underlying31 rfl (by rw [HTR.out.len]; exact infoTree) ?_; go_frame)
      | ((with_reducible show wpList _ _ _ _ _ w3); refine wpList_load_agg rfl 36 _ rfl g2 1 rfl (hdC ah) (C23.out.part 1 (hdC ah) (fun i v hv => by match i, hv with | 0, h => exact h | 1, h => exact h)) _ Tryz.underlying36 rfl infoHandle ?_; go_frame)
      | ((with_reducible show wpList _ _ _ _ _ w3); refine wpList_load_agg rfl 36 _ rfl g2 3 rfl (hdC ato) (C23.out.part 3 (hdC ato) (fun i v hv => by match i, hv with | 0, h => exact h | 1, h => exact h)) _ Tryz.underlying36 rfl infoHandle ?_; go_frame)
      | fail)
    refine (HK.out.make t cs ah anm true F w3 (HT.out.below B3.out) (HTR.out.below B3.out) HO.out.1 HMM.out).mono ?_
    rintro e w4 ⟨ts, ns, rfl, ht, hn, hb⟩
    have T4 := Lib.hid (show TrAt w4 (fun k => NewF F w3 k ∧ k < w4.heap.size) ts (makeT t ah anm true).1 from ht.mono fun k hk hh => ⟨hh, hk⟩)
    have N4 := Lib.hid (show NdAt w4 (fun k => NewF F w3 k ∧ k < w4.heap.size) ns (makeT t ah anm true).2.1 from hn.mono fun k hk hh => ⟨hh, hk⟩)
    have B4 := Lib.hid (below_chain B3.out hb)
    have C44 := Lib.hid (C4.out.below hb C4.out.lt)
    have L4 := Lib.hid (show g4 < w4.heap.size from C44.out.lt)
    clear ht hn hb
    go_wp2_with (first
      | ((with_reducible show wpList _ _ _ _ _ w4); refine wpList_allocS rfl 31 rfl treeZ treeZero ?_; intro g6 w5 hk1 hb1 hg1; go_frame; have C6 := Lib.hid hk1; have B5 := Lib.hid hb1; have G6 := Lib.hid hg1; clear hk1 hb1 hg1)
      | ((with_reducible show wpList _ _ _ _ _ w5); refine wpList_allocS rfl 43 rfl nodeZ nodeZero ?_; intro g7 w6 hk1 hb1 hg1; go_frame; have C7 := Lib.hid hk1; have B6 := Lib.hid (below_chain B5.out hb1); have G7 := Lib.hid (show w4.heap.size ≤ g7 from Nat.le_trans B5.out.size hg1); have N67 := Lib.hid (show g6 ≠ g7 from by have := C6.out.lt; omega); have C66 := Lib.hid (C6.out.below hb1 C6.out.lt); clear hk1 hb1 hg1)
      | ((with_reducible show wpList _ _ _ _ _ w6); refine wpList_storeS rfl 31 _ _ rfl g6 rfl ts treeZ rfl C66.out (by rw [T4.out.len]; rfl) T4.out.one (by rw [T4.out.len]; exact infoTree) ?_; intro w7 hk2 ht2; go_frame; have C67 := Lib.hid hk2; have C77 := Lib.hid (C7.out.turn ht2 (Ne.symm N67.out)); have B7 := Lib.hid (show Below w4.heap.size w4 w7 from below_turn B6.out ht2 B6.out.size G6.out); clear hk2 ht2)
      | ((with_reducible show wpList _ _ _ _ _ w7); refine wpList_storeS rfl 43 _ _ rfl g7 rfl ns nodeZ rfl C77.out (by rw [N4.out.len]; rfl) N4.out.one (by rw [N4.out.len]; exact infoNode) ?_; intro w8 hk2 ht2; go_frame; have C68 := Lib.hid (C67.out.turn ht2 N67.out); have B8 := Lib.hid (show Below w4.heap.size w4 w8 from below_turn B7.out ht2 B7.out.size G7.out); have C48 := Lib.hid (C44.out.below B8.out L4.out); have T8 := Lib.hid (T4.out.below B8.out); clear hk2 ht2)
      | ((with_reducible show wpList _ _ _ _ _ w8); refine wpList_loadS rfl 31 _ rfl g6 rfl ts C68.out _ Tryz.underlying31 rfl (by rw [T4.out.len]; exact infoTree) ?_; go_frame)
      | ((with_reducible show wpList _ _ _ _ _ w8); refine wpList_storeS rfl 31 _ _ rfl g4 rfl ts treeZ rfl C48.out (by rw [T4.out.len]; rfl) T4.out.one (by rw [T4.out.len]; exact infoTree) ?_; intro w9 hk2 ht2; go_frame; have C9 := Lib.hid hk2; have B9 := Lib.hid (show Below w.heap.size w w9 from below_turn (below_chain B4.out B8.out) ht2 (below_chain B4.out B8.out).size G4.out); have T9 := Lib.hid (T8.out.turn ht2 fun k hk e => by subst e; have h1 := hk.1; have h2 := C4.out.lt; have h3 := G4.out; rcases h1 with h1 | h1; exact absurd (HF.out _ h1) (by omega); omega); clear hk2 ht2)
      | fail)
    refine doe_end rfl T9.out.len C9.out rfl rfl ?_
    unfold GivesT
    rw [HA.out]
    exact ⟨ts, rfl, T9.out.mono fun k _ hk => hk.1.imp id fun h => Nat.le_trans B3.out.size h, B9.out⟩
  rw [if_neg h1] at HA
  by_cases h2 : what = 2
  · subst h2
    rw [if_pos rfl] at HA
    go_wp2_with (first
      | ((with_reducible show wpList _ _ _ _ _ w); refine wpList_boxS rfl 31 _ rfl cs rfl ?_; intro g1 w1 hk1 hb1 hg1; go_frame; have C1 := Lib.hid hk1; have B1 := Lib.hid hb1; clear hk1 hb1 hg1)
      | ((with_reducible show wpList _ _ _ _ _ w1); refine wpList_boxS rfl 38 _ rfl [.int .i64 2, .int .u32 (ah.1 : Int), .int .u32 (ah.2 : Int), .int .u32 (ato.1 : Int), .int .u32 (ato.2 : Int), sv anm, sv atn, .int .u32 (aoff : Int), .slice Av ad.length cv] rfl ?_; intro g2 w2 hk1 hb1 hg1; go_frame; have C2 := Lib.hid hk1; have B2 := Lib.hid (below_chain B1.out hb1); have C12 := Lib.hid (C1.out.below hb1 C1.out.lt); clear hk1 hb1 hg1)
      | ((with_reducible show wpList _ _ _ _ _ w2); refine wpList_allocS rfl 31 rfl treeZ treeZero ?_; intro g4 w3 hk1 hb1 hg1; go_frame; have C4 := Lib.hid hk1; have B3 := Lib.hid (below_chain B2.out hb1); have G4 := Lib.hid (show w.heap.size ≤ g4 from Nat.le_trans B2.out.size hg1); have C13 := Lib.hid (C12.out.below hb1 C12.out.lt); have C23 := Lib.hid (C2.out.below hb1 C2.out.lt); have q0 : w3.cell? ⟨g2, 0, none⟩ = some (.int .i64 2) := C23.out.cell 0 rfl; have q5 : w3.cell? ⟨g2, 5, none⟩ = some (.string ⟨anm.toArray⟩) := C23.out.cell 5 rfl; have q6 : w3.cell? ⟨g2, 6, none⟩ = some (.string ⟨atn.toArray⟩) := C23.out.cell 6 rfl; have q7 : w3.cell? ⟨g2, 7, none⟩ = some (.int .u32 (aoff : Int)) := C23.out.cell 7 rfl; have q8 : w3.cell? ⟨g2, 8, none⟩ = some (.slice Av ad.length cv) := C23.out.cell 8 rfl; clear hk1 hb1 hg1)
      | ((with_reducible show wpList _ _ _ _ _ w3); refine wpList_loadS rfl 31 _ rfl g1 rfl cs C13.out _ Tryz.underlying31 rfl (by rw [HTR.out.len]; exact infoTree) ?_; go_frame)
      | ((with_reducible show wpList _ _ _ _ _ w3); refine wpList_load_agg rfl 36 _ rfl g2 1 rfl (hdC ah) (C23.out.part 1 (hdC ah) (fun i v hv => by match i, hv with | 0, h => exact h | 1, h => exact h)) _ Tryz.underlying36 rfl infoHandle ?_; go_frame)
      | ((with_reducible show wpList _ _ _ _ _ w3); refine wpList_load_agg rfl 36 _ rfl g2 3 rfl (hdC ato) (C23.out.part 3 (hdC ato) (fun i v hv => by match i, hv with | 0, h => exact h | 1, h => exact h)) _ Tryz.underlying36 rfl infoHandle ?_; go_frame)
      | fail)
    refine (HK.out.remove t cs ah anm false F w3 (HT.out.below B3.out) (HTR.out.below B3.out) HO.out.1 HMM.out).mono ?_
    rintro e w4 ⟨ts, rfl, ht, hb⟩
    have T4 := Lib.hid (show TrAt w4 (fun k => NewF F w3 k ∧ k < w4.heap.size) ts (removeT t ah anm false).1 from ht.mono fun k hk hh => ⟨hh, hk⟩)
    have B4 := Lib.hid (below_chain B3.out hb)
    have C44 := Lib.hid (C4.out.below hb C4.out.lt)
    clear ht hb
    go_wp2_with (first
      | ((with_reducible show wpList _ _ _ _ _ w4); refine wpList_storeS rfl 31 _ _ rfl g4 rfl ts treeZ rfl C44.out (by rw [T4.out.len]; rfl) T4.out.one (by rw [T4.out.len]; exact infoTree) ?_; intro w5 hk2 ht2; go_frame; have C5 := Lib.hid hk2; have B5 := Lib.hid (show Below w.heap.size w w5 from below_turn B4.out ht2 B4.out.size G4.out); have T5 := Lib.hid (T4.out.turn ht2 fun k hk e => by subst e; have h1 := hk.1; have h2 := C4.out.lt; have h3 := G4.out; rcases h1 with h1 | h1; exact absurd (HF.out _ h1) (by omega); omega); clear hk2 ht2)
      | fail)
    refine doe_end rfl T5.out.len C5.out rfl rfl ?_
    unfold GivesT
    rw [HA.out]
    exact ⟨ts, rfl, T5.out.mono fun k _ hk => hk.1.imp id fun h => Nat.le_trans B3.out.size h, B5.out⟩
  rw [if_neg h2] at HA
  by_cases h3 : what = 3
  · subst h3
    rw [if_pos rfl] at HA
    go_wp2_with (first
      | ((with_reducible show wpList _ _ _ _ _ w); refine wpList_boxS rfl 31 _ rfl cs rfl ?_; intro g1 w1 hk1 hb1 hg1; go_frame; have C1 := Lib.hid hk1; have B1 := Lib.hid hb1; clear hk1 hb1 hg1)
      | ((with_reducible show wpList _ _ _ _ _ w1); refine wpList_boxS rfl 38 _ rfl [.int .i64 3, .int .u32 (ah.1 : Int), .int .u32 (ah.2 : Int), .int .u32 (ato.1 : Int), .int .u32 (ato.2 : Int), sv anm, sv atn, .int .u32 (aoff : Int), .slice Av ad.length cv] rfl ?_; intro g2 w2 hk1 hb1 hg1; go_frame; have C2 := Lib.hid hk1; have B2 := Lib.hid (below_chain B1.out hb1); have C12 := Lib.hid (C1.out.below hb1 C1.out.lt); clear hk1 hb1 hg1)
      | ((with_reducible show wpList _ _ _ _ _ w2); refine wpList_allocS rfl 31 rfl treeZ treeZero ?_; intro g4 w3 hk1 hb1 hg1; go_frame; have C4 := Lib.hid hk1; have B3 := Lib.hid (below_chain B2.out hb1); have G4 := Lib.hid (show w.heap.size ≤ g4 from Nat.le_trans B2.out.size hg1); have C13 := Lib.hid (C12.out.below hb1 C12.out.lt); have C23 := Lib.hid (C2.out.below hb1 C2.out.lt); have q0 : w3.cell? ⟨g2, 0, none⟩ = some (.int .i64 3) := C23.out.cell 0 rfl; have q5 : w3.cell? ⟨g2, 5, none⟩ = some (.string ⟨anm.toArray⟩) := C23.out.cell 5 rfl; have q6 : w3.cell? ⟨g2, 6, none⟩ = some (.string ⟨atn.toArray⟩) := C23.out.cell 6 rfl; have q7 : w3.cell? ⟨g2, 7, none⟩ = some (.int .u32 (aoff : Int)) := C23.out.cell 7 rfl; have q8 : w3.cell? ⟨g2, 8, none⟩ = some (.slice Av ad.length cv) := C23.out.cell 8 rfl; clear hk1 hb1 hg1)
      | ((with_reducible show wpList _ _ _ _ _ w3); refine wpList_loadS rfl 31 _ rfl g1 rfl cs C13.out _ Tryz.underlying31 rfl (by rw [HTR.out.len]; exact infoTree) ?_; go_frame)
      | ((with_reducible show wpList _ _ _ _ _ w3); refine wpList_load_agg rfl 36 _ rfl g2 1 rfl (hdC ah) (C23.out.part 1 (hdC ah) (fun i v hv => by match i, hv with | 0, h => exact h | 1, h => exact h)) _ Tryz.underlying36 rfl infoHandle ?_; go_frame)
      | ((with_reducible show wpList _ _ _ _ _ w3); refine wpList_load_agg rfl 36 _ rfl g2 3 rfl (hdC ato) (C23.out.part 3 (hdC ato) (fun i v hv => by match i, hv with | 0, h => exact h | 1, h => exact h)) _ Tryz.underlying36 rfl infoHandle ?_; go_frame)
      | fail)
    refine (HK.out.remove t cs ah anm true F w3 (HT.out.below B3.out) (HTR.out.below B3.out) HO.out.1 HMM.out).mono ?_
    rintro e w4 ⟨ts, rfl, ht, hb⟩
    have T4 := Lib.hid (show TrAt w4 (fun k => NewF F w3 k ∧ k < w4.heap.size) ts (removeT t ah anm true).1 from ht.mono fun k hk hh => ⟨hh, hk⟩)
    have B4 := Lib.hid (below_chain B3.out hb)
    have C44 := Lib.hid (C4.out.below hb C4.out.lt)
    clear ht hb
    go_wp2_with (first
      | ((with_reducible show wpList _ _ _ _ _ w4); refine wpList_storeS rfl 31 _ _ rfl g4 rfl ts treeZ rfl C44.out (by rw [T4.out.len]; rfl) T4.out.one (by rw [T4.out.len]; exact infoTree) ?_; intro w5 hk2 ht2; go_frame; have C5 := Lib.hid hk2; have B5 := Lib.hid (show Below w.heap.size w w5 from below_turn B4.out ht2 B4.out.size G4.out); have T5 := Lib.hid (T4.out.turn ht2 fun k hk e => by subst e; have h1 := hk.1; have h2 := C4.out.lt; have h3 := G4.out; rcases h1 with h1 | h1; exact absurd (HF.out _ h1) (by omega); omega); clear hk2 ht2)
      | fail)
    refine doe_end rfl T5.out.len C5.out rfl rfl ?_
    unfold GivesT
    rw [HA.out]
    exact ⟨ts, rfl, T5.out.mono fun k _ hk => hk.1.imp id fun h => Nat.le_trans B3.out.size h, B5.out⟩
  rw [if_neg h3] at HA
  by_cases h4 : what = 4
  · subst h4
    rw [if_pos rfl] at HA
    go_wp2_with (first
      | ((with_reducible show wpList _ _ _ _ _ w); refine wpList_boxS rfl 31 _ rfl cs rfl ?_; intro g1 w1 hk1 hb1 hg1; go_frame; have C1 := Lib.hid hk1; have B1 := Lib.hid hb1; clear hk1 hb1 hg1)
      | ((with_reducible show wpList _ _ _ _ _ w1); refine wpList_boxS rfl 38 _ rfl [.int .i64 4, .int .u32 (ah.1 : Int), .int .u32 (ah.2 : Int), .int .u32 (ato.1 : Int), .int .u32 (ato.2 : Int), sv anm, sv atn, .int .u32 (aoff : Int), .slice Av ad.length cv] rfl ?_; intro g2 w2 hk1 hb1 hg1; go_frame; have C2 := Lib.hid hk1; have B2 := Lib.hid (below_chain B1.out hb1); have C12 := Lib.hid (C1.out.below hb1 C1.out.lt); clear hk1 hb1 hg1)
      | ((with_reducible show wpList _ _ _ _ _ w2); refine wpList_allocS rfl 31 rfl treeZ treeZero ?_; intro g4 w3 hk1 hb1 hg1; go_frame; have C4 := Lib.hid hk1; have B3 := Lib.hid (below_chain B2.out hb1); have G4 := Lib.hid (show w.heap.size ≤ g4 from Nat.le_trans B2.out.size hg1); have C13 := Lib.hid (C12.out.below hb1 C12.out.lt); have C23 := Lib.hid (C2.out.below hb1 C2.out.lt); have q0 : w3.cell? ⟨g2, 0, none⟩ = some (.int .i64 4) := C23.out.cell 0 rfl; have q5 : w3.cell? ⟨g2, 5, none⟩ = some (.string ⟨anm.toArray⟩) := C23.out.cell 5 rfl; have q6 : w3.cell? ⟨g2, 6, none⟩ = some (.string ⟨atn.toArray⟩) := C23.out.cell 6 rfl; have q7 : w3.cell? ⟨g2, 7, none⟩ = some (.int .u32 (aoff : Int)) := C23.out.cell 7 rfl; have q8 : w3.cell? ⟨g2, 8, none⟩ = some (.slice Av ad.length cv) := C23.out.cell 8 rfl; clear hk1 hb1 hg1)
      | ((with_reducible show wpList _ _ _ _ _ w3); refine wpList_loadS rfl 31 _ rfl g1 rfl cs C13.out _ Tryz.underlying31 rfl (by rw [HTR.out.len]; exact infoTree) ?_; go_frame)
      | ((with_reducible show wpList _ _ _ _ _ w3); refine wpList_load_agg rfl 36 _ rfl g2 1 rfl (hdC ah) (C23.out.part 1 (hdC ah) (fun i v hv => by match i, hv with | 0, h => exact h | 1, h => exact h)) _ Tryz.underlying36 rfl infoHandle ?_; go_frame)
      | ((with_reducible show wpList _ _ _ _ _ w3); refine wpList_load_agg rfl 36 _ rfl g2 3 rfl (hdC ato) (C23.out.part 3 (hdC ato) (fun i v hv => by match i, hv with | 0, h => exact h | 1, h => exact h)) _ Tryz.underlying36 rfl infoHandle ?_; go_frame)
      | fail)
    refine (HK.out.rename t cs ah anm ato atn F w3 (HT.out.below B3.out) (HTR.out.below B3.out) HO.out.1 HO.out.2.1 HMM.out).mono ?_
    rintro e w4 ⟨ts, rfl, ht, hb⟩
    have T4 := Lib.hid (show TrAt w4 (fun k => NewF F w3 k ∧ k < w4.heap.size) ts (renameT t ah anm ato atn).1 from ht.mono fun k hk hh => ⟨hh, hk⟩)
    have B4 := Lib.hid (below_chain B3.out hb)
    have C44 := Lib.hid (C4.out.below hb C4.out.lt)
    clear ht hb
    go_wp2_with (first
      | ((with_reducible show wpList _ _ _ _ _ w4); refine wpList_storeS rfl 31 _ _ rfl g4 rfl ts treeZ rfl C44.out (by rw [T4.out.len]; rfl) T4.out.one (by rw [T4.out.len]; exact infoTree) ?_; intro w5 hk2 ht2; go_frame; have C5 := Lib.hid hk2; have B5 := Lib.hid (show Below w.heap.size w w5 from below_turn B4.out ht2 B4.out.size G4.out); have T5 := Lib.hid (T4.out.turn ht2 fun k hk e => by subst e; have h1 := hk.1; have h2 := C4.out.lt; have h3 := G4.out; rcases h1 with h1 | h1; exact absurd (HF.out _ h1) (by omega); omega); clear hk2 ht2)
      | fail)
    refine doe_end rfl T5.out.len C5.out rfl rfl ?_
    unfold GivesT
    rw [HA.out]
    exact ⟨ts, rfl, T5.out.mono fun k _ hk => hk.1.imp id fun h => Nat.le_trans B3.out.size h, B5.out⟩
  rw [if_neg h4] at HA
  by_cases h5 : what = 5
  · subst h5
    rw [if_pos rfl] at HA
    go_wp2_with (first
      | ((with_reducible show wpList _ _ _ _ _ w); refine wpList_boxS rfl 31 _ rfl cs rfl ?_; intro g1 w1 hk1 hb1 hg1; go_frame; have C1 := Lib.hid hk1; have B1 := Lib.hid hb1; clear hk1 hb1 hg1)
      | ((with_reducible show wpList _ _ _ _ _ w1); refine wpList_boxS rfl 38 _ rfl [.int .i64 5, .int .u32 (ah.1 : Int), .int .u32 (ah.2 : Int), .int .u32 (ato.1 : Int), .int .u32 (ato.2 : Int), sv anm, sv atn, .int .u32 (aoff : Int), .slice Av ad.length cv] rfl ?_; intro g2 w2 hk1 hb1 hg1; go_frame; have C2 := Lib.hid hk1; have B2 := Lib.hid (below_chain B1.out hb1); have C12 := Lib.hid (C1.out.below hb1 C1.out.lt); clear hk1 hb1 hg1)
      | ((with_reducible show wpList _ _ _ _ _ w2); refine wpList_allocS rfl 31 rfl treeZ treeZero ?_; intro g4 w3 hk1 hb1 hg1; go_frame; have C4 := Lib.hid hk1; have B3 := Lib.hid (below_chain B2.out hb1); have G4 := Lib.hid (show w.heap.size ≤ g4 from Nat.le_trans B2.out.size hg1); have C13 := Lib.hid (C12.out.below hb1 C12.out.lt); have C23 := Lib.hid (C2.out.below hb1 C2.out.lt); have q0 : w3.cell? ⟨g2, 0, none⟩ = some (.int .i64 5) := C23.out.cell 0 rfl; have q5 : w3.cell? ⟨g2, 5, none⟩ = some (.string ⟨anm.toArray⟩) := C23.out.cell 5 rfl; have q6 : w3.cell? ⟨g2, 6, none⟩ = some (.string ⟨atn.toArray⟩) := C23.out.cell 6 rfl; have q7 : w3.cell? ⟨g2, 7, none⟩ = some (.int .u32 (aoff : Int)) := C23.out.cell 7 rfl; have q8 : w3.cell? ⟨g2, 8, none⟩ = some (.slice Av ad.length cv) := C23.out.cell 8 rfl; clear hk1 hb1 hg1)
      | ((with_reducible show wpList _ _ _ _ _ w3); refine wpList_loadS rfl 31 _ rfl g1 rfl cs C13.out _ Tryz.underlying31 rfl (by rw [HTR.out.len]; exact infoTree) ?_; go_frame)
      | ((with_reducible show wpList _ _ _ _ _ w3); refine wpList_load_agg rfl 36 _ rfl g2 1 rfl (hdC ah) (C23.out.part 1 (hdC ah) (fun i v hv => by match i, hv with | 0, h => exact h | 1, h => exact h)) _ Tryz.underlying36 rfl infoHandle ?_; go_frame)
      | ((with_reducible show wpList _ _ _ _ _ w3); refine wpList_load_agg rfl 36 _ rfl g2 3 rfl (hdC ato) (C23.out.part 3 (hdC ato) (fun i v hv => by match i, hv with | 0, h => exact h | 1, h => exact h)) _ Tryz.underlying36 rfl infoHandle ?_; go_frame)
      | fail)
    refine (HK.out.write t cs ah aoff (.slice Av ad.length cv) ad F (fun _ => True) w3 (HT.out.below B3.out) (HTR.out.below B3.out) HO.out.1 HO.out.2.2.1 (HB.out.below B3.out) HMM.out).mono ?_
    rintro e w4 ⟨ts, rfl, ht, hb⟩
    have T4 := Lib.hid (show TrAt w4 (fun k => NewF F w3 k ∧ k < w4.heap.size) ts (writeT t ah aoff ad).1 from ht.mono fun k hk hh => ⟨hh, hk⟩)
    have B4 := Lib.hid (below_chain B3.out hb)
    have C44 := Lib.hid (C4.out.below hb C4.out.lt)
    clear ht hb
    go_wp2_with (first
      | ((with_reducible show wpList _ _ _ _ _ w4); refine wpList_storeS rfl 31 _ _ rfl g4 rfl ts treeZ rfl C44.out (by rw [T4.out.len]; rfl) T4.out.one (by rw [T4.out.len]; exact infoTree) ?_; intro w5 hk2 ht2; go_frame; have C5 := Lib.hid hk2; have B5 := Lib.hid (show Below w.heap.size w w5 from below_turn B4.out ht2 B4.out.size G4.out); have T5 := Lib.hid (T4.out.turn ht2 fun k hk e => by subst e; have h1 := hk.1; have h2 := C4.out.lt; have h3 := G4.out; rcases h1 with h1 | h1; exact absurd (HF.out _ h1) (by omega); omega); clear hk2 ht2)
      | fail)
    refine doe_end rfl T5.out.len C5.out rfl rfl ?_
    unfold GivesT
    rw [HA.out]
    exact ⟨ts, rfl, T5.out.mono fun k _ hk => hk.1.imp id fun h => Nat.le_trans B3.out.size h, B5.out⟩
  rw [if_neg h5] at HA
  go_wp2_with (first
    | ((with_reducible show wpList _ _ _ _ _ w); refine wpList_boxS rfl 31 _ rfl cs rfl ?_; intro g1 w1 hk1 hb1 hg1; go_frame; have C1 := Lib.hid hk1; have B1 := Lib.hid hb1; clear hk1 hb1 hg1)
    | ((with_reducible show wpList _ _ _ _ _ w1); refine wpList_boxS rfl 38 _ rfl [.int .i64 what, .int .u32 (ah.1 : Int), .int .u32 (ah.2 : Int), .int .u32 (ato.1 : Int), .int .u32 (ato.2 : Int), sv anm, sv atn, .int .u32 (aoff : Int), .slice Av ad.length cv] rfl ?_; intro g2 w2 hk1 hb1 hg1; go_frame; have C2 := Lib.hid hk1; have B2 := Lib.hid (below_chain B1.out hb1); have C12 := Lib.hid (C1.out.below hb1 C1.out.lt); clear hk1 hb1 hg1)
    | ((with_reducible show wpList _ _ _ _ _ w2); refine wpList_allocS rfl 31 rfl treeZ treeZero ?_; intro g4 w3 hk1 hb1 hg1; go_frame; have C4 := Lib.hid hk1; have B3 := Lib.hid (below_chain B2.out hb1); have G4 := Lib.hid (show w.heap.size ≤ g4 from Nat.le_trans B2.out.size hg1); have C13 := Lib.hid (C12.out.below hb1 C12.out.lt); have C23 := Lib.hid (C2.out.below hb1 C2.out.lt); have q0 : w3.cell? ⟨g2, 0, none⟩ = some (.int .i64 what) := C23.out.cell 0 rfl; have q5 : w3.cell? ⟨g2, 5, none⟩ = some (.string ⟨anm.toArray⟩) := C23.out.cell 5 rfl; have q6 : w3.cell? ⟨g2, 6, none⟩ = some (.string ⟨atn.toArray⟩) := C23.out.cell 6 rfl; have q7 : w3.cell? ⟨g2, 7, none⟩ = some (.int .u32 (aoff : Int)) := C23.out.cell 7 rfl; have q8 : w3.cell? ⟨g2, 8, none⟩ = some (.slice Av ad.length cv) := C23.out.cell 8 rfl; clear hk1 hb1 hg1)
    | ((with_reducible show wpList _ _ _ _ _ w3); refine wpList_loadS rfl 31 _ rfl g1 rfl cs C13.out _ Tryz.underlying31 rfl (by rw [HTR.out.len]; exact infoTree) ?_; go_frame)
    | ((with_reducible show wpList _ _ _ _ _ w3); refine wpList_load_agg rfl 36 _ rfl g2 1 rfl (hdC ah) (C23.out.part 1 (hdC ah) (fun i v hv => by match i, hv with | 0, h => exact h | 1, h => exact h)) _ Tryz.underlying36 rfl infoHandle ?_; go_frame)
    | ((with_reducible show wpList _ _ _ _ _ w3); refine wpList_load_agg rfl 36 _ rfl g2 3 rfl (hdC ato) (C23.out.part 3 (hdC ato) (fun i v hv => by match i, hv with | 0, h => exact h | 1, h => exact h)) _ Tryz.underlying36 rfl infoHandle ?_; go_frame)
    | fail)
  refine (HK.out.resize t cs ah aoff F w3 (HT.out.below B3.out) (HTR.out.below B3.out) HO.out.1 HO.out.2.2.1 HMM.out).mono ?_
  rintro e w4 ⟨ts, rfl, ht, hb⟩
  have T4 := Lib.hid (show TrAt w4 (fun k => NewF F w3 k ∧ k < w4.heap.size) ts (resizeT t ah aoff).1 from ht.mono fun k hk hh => ⟨hh, hk⟩)
  have B4 := Lib.hid (below_chain B3.out hb)
  have C44 := Lib.hid (C4.out.below hb C4.out.lt)
  clear ht hb
  go_wp2_with (first
    | ((with_reducible show wpList _ _ _ _ _ w4); refine wpList_storeS rfl 31 _ _ rfl g4 rfl ts treeZ rfl C44.out (by rw [T4.out.len]; rfl) T4.out.one (by rw [T4.out.len]; exact infoTree) ?_; intro w5 hk2 ht2; go_frame; have C5 := Lib.hid hk2; have B5 := Lib.hid (show Below w.heap.size w w5 from below_turn B4.out ht2 B4.out.size G4.out); have T5 := Lib.hid (T4.out.turn ht2 fun k hk e => by subst e; have h1 := hk.1; have h2 := C4.out.lt; have h3 := G4.out; rcases h1 with h1 | h1; exact absurd (HF.out _ h1) (by omega); omega); clear hk2 ht2)
    | fail)
  refine doe_end rfl T5.out.len C5.out rfl rfl ?_
  unfold GivesT
  rw [HA.out]
  exact ⟨ts, rfl, T5.out.mono fun k _ hk => hk.1.imp id fun h => Nat.le_trans B3.out.size h, B5.out⟩

end Go.Proofs.YtenpmbfncnepgaaGreatDoor
