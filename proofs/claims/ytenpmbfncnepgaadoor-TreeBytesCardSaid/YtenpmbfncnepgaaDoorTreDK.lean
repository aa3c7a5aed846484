/- TreDK: TreA TreD. -/
import Derived.Test.YtenpmbfncnepgaaDoorTblK
import Derived.Test.YtenpmbfncnepgaaDoorTreEK
/- Layer 13's laws: acts among the arguments. -/
namespace Go.Proofs.YtenpmbfncnepgaaDoor
open Go.RowKit Go.Shelf Go.ChangeShapes Go.WideShapes Go.ChangeAt Go.Deep
set_option linter.unusedVariables false
set_option maxRecDepth 100000
set_option linter.unusedSimpArgs false

/-- an act: what it is, two handles, two names, where, bytes -/
structure Ac where
  what : Int
  h : Nat × Nat
  to : Nat × Nat
  nm : Key
  toNm : Key
  off : Nat
  data : List UInt8
def acC (a : Ac) (v : Value) : List Value := [.int .i64 a.what, .int .u32 (a.h.1 : Int), .int .u32 (a.h.2 : Int), .int .u32 (a.to.1 : Int), .int .u32 (a.to.2 : Int), sv a.nm, sv a.toNm, .int .u32 (a.off : Int), v]
def AcOk (a : Ac) : Prop := Hd32 a.h ∧ Hd32 a.to ∧ a.off < 4294967296 ∧ -9223372036854775808 ≤ a.what ∧ a.what ≤ 9223372036854775807
def actE : Elem Ac where
  ety := 42
  sty := 22
  n := 9
  bytes := 88
  rd w F cs x := ∃ v, cs = acC x v ∧ BsV w F v x.data ∧ AcOk x
  und := Tryd.underlying22
  info := ⟨_, _, rfl, rfl, rfl, rfl, rfl⟩
  pos := by decide
  byt := by decide
  len := by rintro w F cs x ⟨v, rfl, _⟩; rfl
  one := by
    rintro w F cs x ⟨v, rfl, h, _⟩ u hu
    simp [acC] at hu
    rcases hu with rfl | rfl | rfl | rfl | rfl | rfl | rfl | rfl | rfl
    all_goals first | rfl | exact h.one
  turn := by rintro w w' F G cs x ⟨v, h, hv, ho⟩ ht hG; exact ⟨v, h, hv.turn ht hG, ho⟩
  mono := by rintro w F G cs x ⟨v, h, hv, ho⟩ hF; exact ⟨v, h, hv.mono hF, ho⟩
section
variable {H : Type} {enc : TypeId × Value → H} {W : World} {fuel : Nat}
theorem u32_wf13 {x : Int} (h : (Lit.int .u32 x).wf = true) : ∃ n : Nat, x = (n : Int) ∧ n < 4294967296 := by
  simp [Lit.wf, IntKind.min, IntKind.max, IntKind.signed, IntKind.bits] at h
  obtain ⟨n, rfl⟩ := Int.eq_ofNat_of_zero_le (show 0 ≤ x by omega)
  exact ⟨n, rfl, by omega⟩
theorem i64_wf13 {x : Int} (h : (Lit.int .i64 x).wf = true) : -9223372036854775808 ≤ x ∧ x ≤ 9223372036854775807 := by
  simp [Lit.wf, IntKind.min, IntKind.max, IntKind.signed, IntKind.bits] at h
  exact ⟨by omega, by omega⟩
theorem trod_handle {cs : List Value} {x : DataW H × List MemPlace} (h : DataW.trod enc Tryd.prog W 0 (fun _ => true) true fuel 39 cs = some x) : ∃ z : Nat × Nat, cs = hdC z ∧ Hd32 z := by
  obtain ⟨y0, y1, n, _, hl, f0, f1⟩ := trod_struct2 Tryd.underlying39 h
  have hc : Tryd.prog.cellsOf 39 = 2 := by kernel_rfl
  have h1 : Tryd.prog.cellsOf 24 = 1 := by kernel_rfl
  rw [hc] at hl
  obtain ⟨c0, c1, rfl⟩ : ∃ c0 c1, cs = [c0, c1] := by
    match cs, hl with
    | [a, b], _ => exact ⟨a, b, rfl⟩
  change DataW.trod enc Tryd.prog W 0 _ true n 24 (([c0, c1].drop 0).take (Tryd.prog.cellsOf 24)) = some y0 at f0
  change DataW.trod enc Tryd.prog W 0 _ true n 24 (([c0, c1].drop 1).take (Tryd.prog.cellsOf 24)) = some y1 at f1
  rw [h1] at f0 f1
  obtain ⟨a0, e0, _, w0⟩ := DataW.trod_int Tryd.underlying24 f0
  obtain ⟨a1, e1, _, w1⟩ := DataW.trod_int Tryd.underlying24 f1
  simp at e0 e1
  subst e0 e1
  obtain ⟨m, rfl, hm⟩ := u32_wf13 w0
  obtain ⟨k, rfl, hk⟩ := u32_wf13 w1
  exact ⟨(m, k), rfl, hm, hk⟩
theorem act_mk {c0 c5 c6 c7 c8 : Value} {hs ts : List Value} {z1 z2 : Nat × Nat} (h1 : hs = hdC z1) (h2 : ts = hdC z2) (k1 : Hd32 z1) (k2 : Hd32 z2) {y0 y3 y4 y5 y6 : DataW H × List MemPlace} {n : Nat}
    (f0 : DataW.trod enc Tryd.prog W 0 (fun _ => true) true n 3 [c0] = some y0) (f3 : DataW.trod enc Tryd.prog W 0 (fun _ => true) true n 9 [c5] = some y3) (f4 : DataW.trod enc Tryd.prog W 0 (fun _ => true) true n 9 [c6] = some y4)
    (f5 : DataW.trod enc Tryd.prog W 0 (fun _ => true) true n 24 [c7] = some y5) (f6 : DataW.trod enc Tryd.prog W 0 (fun _ => true) true n 26 [c8] = some y6) : ∃ z : Ac, [c0] ++ hs ++ ts ++ [c5, c6, c7, c8] = acC z c8 ∧ BsV W (· < W.heap.size) c8 z.data ∧ AcOk z := by
  obtain ⟨a0, e0, _, w0⟩ := DataW.trod_int Tryd.underlying3 f0
  obtain ⟨s3, e3, _, _⟩ := DataW.trod_string Tryd.underlying9 f3
  obtain ⟨s4, e4, _, _⟩ := DataW.trod_string Tryd.underlying9 f4
  obtain ⟨a5, e5, _, w5⟩ := DataW.trod_int Tryd.underlying24 f5
  obtain ⟨v, l, e6, hv⟩ := trod_bytesV f6
  simp at e0 e3 e4 e5 e6
  subst e0 e3 e4 e5 e6 h1 h2
  obtain ⟨m, rfl, hm⟩ := u32_wf13 w5
  exact ⟨⟨a0, z1, z2, s3.data.toList, s4.data.toList, m, l⟩, rfl, hv, k1, k2, hm, i64_wf13 w0⟩
theorem trod_act {cs : List Value} {x : DataW H × List MemPlace} (h : DataW.trod enc Tryd.prog W 0 (fun _ => true) true fuel 42 cs = some x) : ∃ z : Ac, actE.rd W (· < W.heap.size) cs z := by
  obtain ⟨xs, n, _, hx, hl, hlen, hf⟩ := DataW.trod_struct Tryd.underlying42 h
  have hc : Tryd.prog.cellsOf 42 = 9 := by kernel_rfl
  have k0 : Tryd.prog.cellsOf 3 = 1 := by kernel_rfl
  have k1 : Tryd.prog.cellsOf 39 = 2 := by kernel_rfl
  have k3 : Tryd.prog.cellsOf 9 = 1 := by kernel_rfl
  have k5 : Tryd.prog.cellsOf 24 = 1 := by kernel_rfl
  have k6 : Tryd.prog.cellsOf 26 = 1 := by kernel_rfl
  rw [hc] at hl
  match cs, hl, xs, hlen with
  | [c0, c1, c2, c3, c4, c5, c6, c7, c8], _, [y0, y1, y2, y3, y4, y5, y6], _ =>
    have f0 : DataW.trod enc Tryd.prog W 0 (fun _ => true) true n 3 (([c0, c1, c2, c3, c4, c5, c6, c7, c8].drop 0).take (Tryd.prog.cellsOf 3)) = some y0 := hf 0 _ rfl
    have f1 : DataW.trod enc Tryd.prog W 0 (fun _ => true) true n 39 (([c0, c1, c2, c3, c4, c5, c6, c7, c8].drop 1).take (Tryd.prog.cellsOf 39)) = some y1 := hf 1 _ rfl
    have f2 : DataW.trod enc Tryd.prog W 0 (fun _ => true) true n 39 (([c0, c1, c2, c3, c4, c5, c6, c7, c8].drop 3).take (Tryd.prog.cellsOf 39)) = some y2 := hf 2 _ rfl
    have f3 : DataW.trod enc Tryd.prog W 0 (fun _ => true) true n 9 (([c0, c1, c2, c3, c4, c5, c6, c7, c8].drop 5).take (Tryd.prog.cellsOf 9)) = some y3 := hf 3 _ rfl
    have f4 : DataW.trod enc Tryd.prog W 0 (fun _ => true) true n 9 (([c0, c1, c2, c3, c4, c5, c6, c7, c8].drop 6).take (Tryd.prog.cellsOf 9)) = some y4 := hf 4 _ rfl
    have f5 : DataW.trod enc Tryd.prog W 0 (fun _ => true) true n 24 (([c0, c1, c2, c3, c4, c5, c6, c7, c8].drop 7).take (Tryd.prog.cellsOf 24)) = some y5 := hf 5 _ rfl
    have f6 : DataW.trod enc Tryd.prog W 0 (fun _ => true) true n 26 (([c0, c1, c2, c3, c4, c5, c6, c7, c8].drop 8).take (Tryd.prog.cellsOf 26)) = some y6 := hf 6 _ rfl
    rw [k0] at f0
    rw [k1] at f1 f2
    rw [k3] at f3 f4
    rw [k5] at f5
    rw [k6] at f6
    obtain ⟨z1, e1, h1⟩ := trod_handle f1
    obtain ⟨z2, e2, h2⟩ := trod_handle f2
    obtain ⟨z, hz, hv, ho⟩ := act_mk e1 e2 h1 h2 f0 f3 f4 f5 f6
    exact ⟨z, c8, hz, hv, ho⟩
/-- a list of acts -/
theorem open_acts {base : Nat} {v : Value} {d : DataW H} {p : List MemPlace} (hv : Value.okWide Tryd.prog W .any base 22 v) (h : DataW.Trod enc Tryd.prog W 0 (fun _ => true) true 22 v d p) :
    ∃ A l c, v = .slice A l.length c ∧ RdX actE W (· < W.heap.size) A l ∧ l.length ≤ c ∧ c ≤ maxLen ∧ (A = none → l = [] ∧ c = 0) := by
  obtain ⟨A, l, c, h1, h2, -, h3⟩ := open_list (E := actE) (fun _ => True) (fun _ _ _ h => by obtain ⟨z, hz⟩ := trod_act h; exact ⟨z, hz, trivial⟩) (by kernel_rfl) hv h
  exact ⟨A, l, c, h1, h2, h3⟩
end

end Go.Proofs.YtenpmbfncnepgaaDoor

/- An act on a tree. -/
namespace Go.Proofs.YtenpmbfncnepgaaDoor
open Go.RowKit Go.Shelf
set_option linter.unusedVariables false
set_option maxRecDepth 100000
set_option linter.unusedSimpArgs false

/-- what an act makes of a tree, and its status -/
noncomputable def actT (t : Tr) (a : Ac) : Tr × Nat :=
  if a.what = 0 then ((makeT t a.h a.nm false).1, (makeT t a.h a.nm false).2.2) else
  if a.what = 1 then ((makeT t a.h a.nm true).1, (makeT t a.h a.nm true).2.2) else
  if a.what = 2 then removeT t a.h a.nm false else
  if a.what = 3 then removeT t a.h a.nm true else
  if a.what = 4 then renameT t a.h a.nm a.to a.toNm else
  if a.what = 5 then writeT t a.h a.off a.data else resizeT t a.h a.off
theorem act_step {t : Tr} (h : MayT t) (a : Ac) : StepOk t (actT t a).1 (actT t a).2 := by
  unfold actT
  split
  · exact step_make h _ _ _
  split
  · exact step_make h _ _ _
  split
  · exact step_remove h _ _ _
  split
  · exact step_remove h _ _ _
  split
  · exact step_rename h _ _ _ _
  split
  · exact step_write h _ _ _
  · exact step_resize h _ _
theorem doe_end {fn : Func} {K : Ending → World → Prop} {tmps : Array Value} {w : World} {g : Nat} {cs : List Value} {x : Value} (h : fn.results = #[.cell 4 31, .tmp 5]) (hl : cs.length = 16) (hc : Cs w g 31 cs.toArray) (hp : tmps.getD 4 undef = .pointer (some ⟨g, 0, none⟩)) (hx : tmps.getD 5 undef = x)
    (hK : K (.returned (.tuple #[.agg cs.toArray, x])) w) : bodyPost Tryd.prog fn K Exit.ret { tmps := tmps, defers := [] } w :=
  bodyPost_ret (by rw [results_agg_tmp (P := Tryd.prog) (p := 4) (u := 5) (ty := 31) h tmps w g 0 cs hp (At.whole hc) _ Tryd.underlying31 rfl (by rw [hl]; exact infoTree), hx]) rfl hK
theorem Cs.part {w : World} {g : Nat} {t : TypeId} {cs : Array Value} (h : Cs w g t cs) (f : Nat) (ps : List Value) (hp : ∀ i v, ps[i]? = some v → cs[f + i]? = some v) : At w g f ps := fun i v hv => h.cell (f + i) (hp i v hv)
end Go.Proofs.YtenpmbfncnepgaaDoor
