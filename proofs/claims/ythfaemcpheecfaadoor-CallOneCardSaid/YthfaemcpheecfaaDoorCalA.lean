/- A call among the arguments. -/
import Derived.Test.YthfaemcpheecfaaDoorCal2
import Derived.Test.YthfaemcpheecfaaDoorTblK
import Derived.Test.YthfaemcpheecfaaDoorTblSized
namespace Go.Proofs.YthfaemcpheecfaaDoor
open Go.RowKit Go.Shelf Go.ChangeShapes Go.WideShapes Go.ChangeAt Go.Deep
set_option linter.unusedVariables false
set_option maxRecDepth 100000
set_option linter.unusedSimpArgs false

section
variable {H : Type} {enc : TypeId × Value → H} {W : World} {fuel : Nat}
theorem wf8 {x : Int} (h : (Lit.int .u8 x).wf = true) : 0 ≤ x ∧ x < 256 := by
  simp [Lit.wf, IntKind.min, IntKind.max, IntKind.signed, IntKind.bits] at h
  exact ⟨by omega, by omega⟩
theorem wf32 {x : Int} (h : (Lit.int .u32 x).wf = true) : 0 ≤ x ∧ x < 4294967296 := by
  simp [Lit.wf, IntKind.min, IntKind.max, IntKind.signed, IntKind.bits] at h
  exact ⟨by omega, by omega⟩
theorem wf64 {x : Int} (h : (Lit.int .u64 x).wf = true) : 0 ≤ x ∧ x < 18446744073709551616 := by
  simp [Lit.wf, IntKind.min, IntKind.max, IntKind.signed, IntKind.bits] at h
  exact ⟨by omega, by omega⟩
theorem trod_u8 {v : Value} {x : DataW H × List MemPlace} (h : DataW.trod enc Tryd.prog W 0 (fun _ => true) true fuel 5 [v] = some x) : ∃ n : Nat, v = .int .u8 (n : Int) ∧ n < 256 := by
  obtain ⟨a, e, _, w⟩ := DataW.trod_int Tryd.underlying5 h
  simp at e
  obtain ⟨n, rfl⟩ := Int.eq_ofNat_of_zero_le (wf8 w).1
  exact ⟨n, e, by have := (wf8 w).2; omega⟩
theorem trod_u32 {v : Value} {x : DataW H × List MemPlace} (h : DataW.trod enc Tryd.prog W 0 (fun _ => true) true fuel 22 [v] = some x) : ∃ n : Nat, v = .int .u32 (n : Int) ∧ n < 4294967296 := by
  obtain ⟨a, e, _, w⟩ := DataW.trod_int Tryd.underlying22 h
  simp at e
  obtain ⟨n, rfl⟩ := Int.eq_ofNat_of_zero_le (wf32 w).1
  exact ⟨n, e, by have := (wf32 w).2; omega⟩
theorem trod_u64 {v : Value} {x : DataW H × List MemPlace} (h : DataW.trod enc Tryd.prog W 0 (fun _ => true) true fuel 23 [v] = some x) : ∃ n : Nat, v = .int .u64 (n : Int) ∧ n < 18446744073709551616 := by
  obtain ⟨a, e, _, w⟩ := DataW.trod_int Tryd.underlying23 h
  simp at e
  obtain ⟨n, rfl⟩ := Int.eq_ofNat_of_zero_le (wf64 w).1
  exact ⟨n, e, by have := (wf64 w).2; omega⟩
theorem trod_str {v : Value} {x : DataW H × List MemPlace} (h : DataW.trod enc Tryd.prog W 0 (fun _ => true) true fuel 9 [v] = some x) : ∃ s : ByteArray, v = .string s := by
  obtain ⟨s, e, _⟩ := DataW.trod_string Tryd.underlying9 h
  simp at e
  exact ⟨s, e⟩
theorem trod_hd {a b : Value} {x : DataW H × List MemPlace} (h : DataW.trod enc Tryd.prog W 0 (fun _ => true) true fuel 25 [a, b] = some x) : ∃ m n : Nat, a = .int .u32 (m : Int) ∧ b = .int .u32 (n : Int) ∧ m < 4294967296 ∧ n < 4294967296 := by
  obtain ⟨y0, y1, n, rfl, hl, f0, f1⟩ := trod_struct2 Tryd.underlying25 h
  have k1 : Tryd.prog.cellsOf 22 = 1 := by kernel_rfl
  change DataW.trod enc Tryd.prog W 0 _ true n 22 (([a, b].drop 0).take (Tryd.prog.cellsOf 22)) = some y0 at f0
  change DataW.trod enc Tryd.prog W 0 _ true n 22 (([a, b].drop 1).take (Tryd.prog.cellsOf 22)) = some y1 at f1
  rw [k1] at f0 f1
  obtain ⟨m, rfl, hm⟩ := trod_u32 f0
  obtain ⟨k, rfl, hk⟩ := trod_u32 f1
  exact ⟨m, k, rfl, rfl, hm, hk⟩
/-- a call's datum, each part weighed -/
theorem trod_call {cs : List Value} {x : DataW H × List MemPlace} (h : DataW.trod enc Tryd.prog W 0 (fun _ => true) true fuel 28 cs = some x) (hz : ∀ n ∈ x.1.weights Tryd.prog 28, n ≤ reachBytes) : ∃ (c : CallX) (v : Value), cs = calCells c v ∧ CalV W (· < W.heap.size) c v ∧ c.data.length ≤ reachBytes := by
  obtain ⟨xs, n, _, hx, hl, hlen, hf⟩ := DataW.trod_struct Tryd.underlying28 h
  have hc : Tryd.prog.cellsOf 28 = 13 := by kernel_rfl
  have k0 : Tryd.prog.cellsOf 5 = 1 := by kernel_rfl
  have k1 : Tryd.prog.cellsOf 22 = 1 := by kernel_rfl
  have k2 : Tryd.prog.cellsOf 23 = 1 := by kernel_rfl
  have k3 : Tryd.prog.cellsOf 26 = 1 := by kernel_rfl
  have k4 : Tryd.prog.cellsOf 9 = 1 := by kernel_rfl
  have k5 : Tryd.prog.cellsOf 25 = 2 := by kernel_rfl
  rw [hc] at hl
  match cs, hl, xs, hlen with
  | [c0, c1, c2, c3, c4, c5, c6, c7, c8, c9, c10, c11, c12], _, [y0, y1, y2, y3, y4, y5, y6, y7, y8, y9, y10], _ =>
    have f0 : DataW.trod enc Tryd.prog W 0 (fun _ => true) true n 5 (([c0, c1, c2, c3, c4, c5, c6, c7, c8, c9, c10, c11, c12].drop 0).take (Tryd.prog.cellsOf 5)) = some y0 := hf 0 _ rfl
    have f1 : DataW.trod enc Tryd.prog W 0 (fun _ => true) true n 22 (([c0, c1, c2, c3, c4, c5, c6, c7, c8, c9, c10, c11, c12].drop 1).take (Tryd.prog.cellsOf 22)) = some y1 := hf 1 _ rfl
    have f2 : DataW.trod enc Tryd.prog W 0 (fun _ => true) true n 23 (([c0, c1, c2, c3, c4, c5, c6, c7, c8, c9, c10, c11, c12].drop 2).take (Tryd.prog.cellsOf 23)) = some y2 := hf 2 _ rfl
    have f3 : DataW.trod enc Tryd.prog W 0 (fun _ => true) true n 5 (([c0, c1, c2, c3, c4, c5, c6, c7, c8, c9, c10, c11, c12].drop 3).take (Tryd.prog.cellsOf 5)) = some y3 := hf 3 _ rfl
    have f4 : DataW.trod enc Tryd.prog W 0 (fun _ => true) true n 25 (([c0, c1, c2, c3, c4, c5, c6, c7, c8, c9, c10, c11, c12].drop 4).take (Tryd.prog.cellsOf 25)) = some y4 := hf 4 _ rfl
    have f5 : DataW.trod enc Tryd.prog W 0 (fun _ => true) true n 9 (([c0, c1, c2, c3, c4, c5, c6, c7, c8, c9, c10, c11, c12].drop 6).take (Tryd.prog.cellsOf 9)) = some y5 := hf 5 _ rfl
    have f6 : DataW.trod enc Tryd.prog W 0 (fun _ => true) true n 25 (([c0, c1, c2, c3, c4, c5, c6, c7, c8, c9, c10, c11, c12].drop 7).take (Tryd.prog.cellsOf 25)) = some y6 := hf 6 _ rfl
    have f7 : DataW.trod enc Tryd.prog W 0 (fun _ => true) true n 9 (([c0, c1, c2, c3, c4, c5, c6, c7, c8, c9, c10, c11, c12].drop 9).take (Tryd.prog.cellsOf 9)) = some y7 := hf 7 _ rfl
    have f8 : DataW.trod enc Tryd.prog W 0 (fun _ => true) true n 22 (([c0, c1, c2, c3, c4, c5, c6, c7, c8, c9, c10, c11, c12].drop 10).take (Tryd.prog.cellsOf 22)) = some y8 := hf 8 _ rfl
    have f9 : DataW.trod enc Tryd.prog W 0 (fun _ => true) true n 22 (([c0, c1, c2, c3, c4, c5, c6, c7, c8, c9, c10, c11, c12].drop 11).take (Tryd.prog.cellsOf 22)) = some y9 := hf 9 _ rfl
    have f10 : DataW.trod enc Tryd.prog W 0 (fun _ => true) true n 26 (([c0, c1, c2, c3, c4, c5, c6, c7, c8, c9, c10, c11, c12].drop 12).take (Tryd.prog.cellsOf 26)) = some y10 := hf 10 _ rfl
    rw [k0] at f0 f3
    rw [k1] at f1 f8 f9
    rw [k2] at f2
    rw [k3] at f10
    rw [k4] at f5 f7
    rw [k5] at f4 f6
    obtain ⟨n0, rfl, b0⟩ := trod_u8 f0
    obtain ⟨n1, rfl, b1⟩ := trod_u32 f1
    obtain ⟨n2, rfl, b2⟩ := trod_u64 f2
    obtain ⟨n3, rfl, b3⟩ := trod_u8 f3
    obtain ⟨n4, n5, rfl, rfl, b4, b5⟩ := trod_hd f4
    obtain ⟨n6, rfl⟩ := trod_str f5
    obtain ⟨n7, n8, rfl, rfl, b7, b8⟩ := trod_hd f6
    obtain ⟨n9, rfl⟩ := trod_str f7
    obtain ⟨n10, rfl, b10⟩ := trod_u32 f8
    obtain ⟨n11, rfl, b11⟩ := trod_u32 f9
    obtain ⟨v, l, e, hv⟩ := trod_bytesV f10
    have e' : c12 = v := by simpa using e
    subst e'
    refine ⟨⟨n0, n1, n2, n3, n4, n5, n6, n7, n8, n9, n10, n11, l⟩, c12, rfl, ⟨hv, b0, b1, b2, b3, b4, b5, b7, b8, b10, b11⟩, trod_bytesV_sz f10 (fun m hm => hz m ?_) c12 l rfl hv⟩
    rw [hx, DataW.weights, Tryd.underlying28]
    exact DataW.weights_mem_each (j := 10) (t := 26) (d := y10.1) rfl rfl m hm
/-- a call that came in -/
theorem open_call {base : Nat} {v : Value} {d : DataW H} {p : List MemPlace} (hz : ∀ n ∈ d.weights Tryd.prog 28, n ≤ reachBytes) (hv : Value.okWide Tryd.prog W .any base 28 v) (h : DataW.Trod enc Tryd.prog W 0 (fun _ => true) true 28 v d p) :
    ∃ (c : CallX) (u : Value), v = .agg (calCells c u).toArray ∧ CalV W (· < W.heap.size) c u ∧ c.data.length ≤ 140737488351232 := by
  obtain ⟨cs, rfl, -⟩ := okWide_struct Tryd.underlying28 hv
  obtain ⟨fuel, hf⟩ := h
  obtain ⟨c, u, hc, hu, hl⟩ := trod_call hf hz
  refine ⟨c, u, ?_, hu, by unfold reachBytes at hl; exact hl⟩
  have h1 : cs.toList = calCells c u := hc
  rw [← h1]
end

end Go.Proofs.YthfaemcpheecfaaDoor
