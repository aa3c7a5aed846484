/- A reply among the arguments. -/
import Derived.Deep.Strs
import Derived.Test.YtboalmmpcfiicaaDoorBac0
import Derived.Test.YtboalmmpcfiicaaDoorTblK
import Derived.Test.YtboalmmpcfiicaaDoorTblSized
namespace Go.Proofs.YtboalmmpcfiicaaDoor
open Go.RowKit Go.Shelf Go.ChangeShapes Go.WideShapes Go.ChangeAt Go.Deep
set_option linter.unusedVariables false
set_option maxRecDepth 100000
set_option linter.unusedSimpArgs false

section
variable {H : Type} {enc : TypeId × Value → H} {W : World} {fuel : Nat}
theorem wf8B {x : Int} (h : (Lit.int .u8 x).wf = true) : 0 ≤ x ∧ x < 256 := by
  simp [Lit.wf, IntKind.min, IntKind.max, IntKind.signed, IntKind.bits] at h
  exact ⟨by omega, by omega⟩
theorem wf32B {x : Int} (h : (Lit.int .u32 x).wf = true) : 0 ≤ x ∧ x < 4294967296 := by
  simp [Lit.wf, IntKind.min, IntKind.max, IntKind.signed, IntKind.bits] at h
  exact ⟨by omega, by omega⟩
theorem wf64B {x : Int} (h : (Lit.int .u64 x).wf = true) : 0 ≤ x ∧ x < 18446744073709551616 := by
  simp [Lit.wf, IntKind.min, IntKind.max, IntKind.signed, IntKind.bits] at h
  exact ⟨by omega, by omega⟩
theorem trod8B {v : Value} {x : DataW H × List MemPlace} (h : DataW.trod enc Tryd.prog W 0 (fun _ => true) true fuel 5 [v] = some x) : ∃ n : Nat, v = .int .u8 (n : Int) ∧ n < 256 := by
  obtain ⟨a, e, _, w⟩ := DataW.trod_int Tryd.underlying5 h
  simp at e
  obtain ⟨n, rfl⟩ := Int.eq_ofNat_of_zero_le (wf8B w).1
  exact ⟨n, e, by have := (wf8B w).2; omega⟩
theorem trod32B {v : Value} {x : DataW H × List MemPlace} (h : DataW.trod enc Tryd.prog W 0 (fun _ => true) true fuel 22 [v] = some x) : ∃ n : Nat, v = .int .u32 (n : Int) ∧ n < 4294967296 := by
  obtain ⟨a, e, _, w⟩ := DataW.trod_int Tryd.underlying22 h
  simp at e
  obtain ⟨n, rfl⟩ := Int.eq_ofNat_of_zero_le (wf32B w).1
  exact ⟨n, e, by have := (wf32B w).2; omega⟩
theorem trod64B {v : Value} {x : DataW H × List MemPlace} (h : DataW.trod enc Tryd.prog W 0 (fun _ => true) true fuel 23 [v] = some x) : ∃ n : Nat, v = .int .u64 (n : Int) ∧ n < 18446744073709551616 := by
  obtain ⟨a, e, _, w⟩ := DataW.trod_int Tryd.underlying23 h
  simp at e
  obtain ⟨n, rfl⟩ := Int.eq_ofNat_of_zero_le (wf64B w).1
  exact ⟨n, e, by have := (wf64B w).2; omega⟩
theorem trodBoolB {v : Value} {x : DataW H × List MemPlace} (h : DataW.trod enc Tryd.prog W 0 (fun _ => true) true fuel 4 [v] = some x) : ∃ b : Bool, v = .bool b := by
  obtain ⟨b, e, _⟩ := DataW.trod_bool Tryd.underlying4 h
  simp at e
  exact ⟨b, e⟩
theorem trodHdB {a b : Value} {x : DataW H × List MemPlace} (h : DataW.trod enc Tryd.prog W 0 (fun _ => true) true fuel 25 [a, b] = some x) : ∃ m n : Nat, a = .int .u32 (m : Int) ∧ b = .int .u32 (n : Int) ∧ m < 4294967296 ∧ n < 4294967296 := by
  obtain ⟨y0, y1, n, rfl, hl, f0, f1⟩ := trod_struct2 Tryd.underlying25 h
  have k1 : Tryd.prog.cellsOf 22 = 1 := by kernel_rfl
  change DataW.trod enc Tryd.prog W 0 _ true n 22 (([a, b].drop 0).take (Tryd.prog.cellsOf 22)) = some y0 at f0
  change DataW.trod enc Tryd.prog W 0 _ true n 22 (([a, b].drop 1).take (Tryd.prog.cellsOf 22)) = some y1 at f1
  rw [k1] at f0 f1
  obtain ⟨m, rfl, hm⟩ := trod32B f0
  obtain ⟨k, rfl, hk⟩ := trod32B f1
  exact ⟨m, k, rfl, rfl, hm, hk⟩
theorem trodAttB {a b c d e : Value} {x : DataW H × List MemPlace} (h : DataW.trod enc Tryd.prog W 0 (fun _ => true) true fuel 27 [a, b, c, d, e] = some x) : ∃ (m n : Nat) (t : Bool) (z y : Nat), a = .int .u32 (m : Int) ∧ b = .int .u32 (n : Int) ∧ c = .bool t ∧ d = .int .u32 (z : Int) ∧ e = .int .u64 (y : Int) ∧ m < 4294967296 ∧ n < 4294967296 ∧ z < 4294967296 ∧ y < 18446744073709551616 := by
  obtain ⟨xs, n, _, hx, hl, hlen, hf⟩ := DataW.trod_struct Tryd.underlying27 h
  have k0 : Tryd.prog.cellsOf 25 = 2 := by kernel_rfl
  have k1 : Tryd.prog.cellsOf 4 = 1 := by kernel_rfl
  have k2 : Tryd.prog.cellsOf 22 = 1 := by kernel_rfl
  have k3 : Tryd.prog.cellsOf 23 = 1 := by kernel_rfl
  match xs, hlen with
  | [y0, y1, y2, y3], _ =>
    have f0 : DataW.trod enc Tryd.prog W 0 (fun _ => true) true n 25 (([a, b, c, d, e].drop 0).take (Tryd.prog.cellsOf 25)) = some y0 := hf 0 _ rfl
    have f1 : DataW.trod enc Tryd.prog W 0 (fun _ => true) true n 4 (([a, b, c, d, e].drop 2).take (Tryd.prog.cellsOf 4)) = some y1 := hf 1 _ rfl
    have f2 : DataW.trod enc Tryd.prog W 0 (fun _ => true) true n 22 (([a, b, c, d, e].drop 3).take (Tryd.prog.cellsOf 22)) = some y2 := hf 2 _ rfl
    have f3 : DataW.trod enc Tryd.prog W 0 (fun _ => true) true n 23 (([a, b, c, d, e].drop 4).take (Tryd.prog.cellsOf 23)) = some y3 := hf 3 _ rfl
    rw [k0] at f0
    rw [k1] at f1
    rw [k2] at f2
    rw [k3] at f3
    obtain ⟨m, n', rfl, rfl, hm, hn⟩ := trodHdB f0
    obtain ⟨t, rfl⟩ := trodBoolB f1
    obtain ⟨z, rfl, hz⟩ := trod32B f2
    obtain ⟨y, rfl, hy⟩ := trod64B f3
    exact ⟨m, n', t, z, y, rfl, rfl, rfl, rfl, rfl, hm, hn, hz, hy⟩
theorem trodNmB {cs : List Value} {x : DataW H × List MemPlace} (h : DataW.trod enc Tryd.prog W 0 (fun _ => true) true fuel 29 cs = some x) : ∃ v l, cs = [v] ∧ NmV W (· < W.heap.size) v l := by
  rcases Deep.open_strs Tryd.underlying29 Tryd.underlying9 (by kernel_rfl) h with ⟨hcs, hx⟩ | ⟨a, len, cap, m, Sx, hcs, _, hl, hm, hmm, hx, hcell⟩
  · exact ⟨_, [], hcs, NmV.nil _ _⟩
  · have hlen : ((List.range len).map Sx).length = len := by simp
    refine ⟨_, (List.range len).map Sx, hcs, some a, cap, by rw [hlen], ?_, (fun h => by cases h), by rw [hlen]; exact hl, hm⟩
    refine RdS.nm ?_ fun _ _ _ h => h
    by_cases h0 : len = 0
    · subst h0; exact .inl (by simp)
    · obtain ⟨b, off, spot⟩ := a
      have hmc : len ≤ m := by rw [hmm]; split <;> omega
      have hc0 := (hcell 0 (by omega)).1
      have hspot : spot = none := by simpa [Addr.add] using World.cell?_spot hc0
      subst hspot
      refine .inr ⟨b, off, rfl, fun j hj => ?_⟩
      rw [hlen] at hj
      have hc := (hcell j (by omega)).1
      have e1 : (⟨b, off, none⟩ : Addr).add j = ⟨b, off + j, none⟩ := by
        unfold Addr.add
        split <;> simp_all
      rw [e1] at hc
      rw [hc]
      simp
/-- a reply's datum, each part weighed -/
theorem trod_back {cs : List Value} {x : DataW H × List MemPlace} (h : DataW.trod enc Tryd.prog W 0 (fun _ => true) true fuel 31 cs = some x) (hz : ∀ n ∈ x.1.weights Tryd.prog 31, n ≤ reachBytes) : ∃ (c : BackX) (v u : Value), cs = bacCells c v u ∧ BacV W (· < W.heap.size) c v u ∧ c.data.length ≤ reachBytes := by
  obtain ⟨xs, n, _, hx, hl, hlen, hf⟩ := DataW.trod_struct Tryd.underlying31 h
  have hc : Tryd.prog.cellsOf 31 = 13 := by kernel_rfl
  have k_u8 : Tryd.prog.cellsOf 5 = 1 := by kernel_rfl
  have k_u32 : Tryd.prog.cellsOf 22 = 1 := by kernel_rfl
  have k_u64 : Tryd.prog.cellsOf 23 = 1 := by kernel_rfl
  have k_attr : Tryd.prog.cellsOf 27 = 5 := by kernel_rfl
  have k_u8s : Tryd.prog.cellsOf 28 = 1 := by kernel_rfl
  have k_strs : Tryd.prog.cellsOf 29 = 1 := by kernel_rfl
  rw [hc] at hl
  match cs, hl, xs, hlen with
  | [c0, c1, c2, c3, c4, c5, c6, c7, c8, c9, c10, c11, c12], _, [y0, y1, y2, y3, y4, y5, y6, y7, y8], _ =>
    have f0 : DataW.trod enc Tryd.prog W 0 (fun _ => true) true n 5 (([c0, c1, c2, c3, c4, c5, c6, c7, c8, c9, c10, c11, c12].drop 0).take (Tryd.prog.cellsOf 5)) = some y0 := hf 0 _ rfl
    have f1 : DataW.trod enc Tryd.prog W 0 (fun _ => true) true n 22 (([c0, c1, c2, c3, c4, c5, c6, c7, c8, c9, c10, c11, c12].drop 1).take (Tryd.prog.cellsOf 22)) = some y1 := hf 1 _ rfl
    have f2 : DataW.trod enc Tryd.prog W 0 (fun _ => true) true n 23 (([c0, c1, c2, c3, c4, c5, c6, c7, c8, c9, c10, c11, c12].drop 2).take (Tryd.prog.cellsOf 23)) = some y2 := hf 2 _ rfl
    have f3 : DataW.trod enc Tryd.prog W 0 (fun _ => true) true n 5 (([c0, c1, c2, c3, c4, c5, c6, c7, c8, c9, c10, c11, c12].drop 3).take (Tryd.prog.cellsOf 5)) = some y3 := hf 3 _ rfl
    have f4 : DataW.trod enc Tryd.prog W 0 (fun _ => true) true n 27 (([c0, c1, c2, c3, c4, c5, c6, c7, c8, c9, c10, c11, c12].drop 4).take (Tryd.prog.cellsOf 27)) = some y4 := hf 4 _ rfl
    have f5 : DataW.trod enc Tryd.prog W 0 (fun _ => true) true n 23 (([c0, c1, c2, c3, c4, c5, c6, c7, c8, c9, c10, c11, c12].drop 9).take (Tryd.prog.cellsOf 23)) = some y5 := hf 5 _ rfl
    have f6 : DataW.trod enc Tryd.prog W 0 (fun _ => true) true n 28 (([c0, c1, c2, c3, c4, c5, c6, c7, c8, c9, c10, c11, c12].drop 10).take (Tryd.prog.cellsOf 28)) = some y6 := hf 6 _ rfl
    have f7 : DataW.trod enc Tryd.prog W 0 (fun _ => true) true n 29 (([c0, c1, c2, c3, c4, c5, c6, c7, c8, c9, c10, c11, c12].drop 11).take (Tryd.prog.cellsOf 29)) = some y7 := hf 7 _ rfl
    have f8 : DataW.trod enc Tryd.prog W 0 (fun _ => true) true n 22 (([c0, c1, c2, c3, c4, c5, c6, c7, c8, c9, c10, c11, c12].drop 12).take (Tryd.prog.cellsOf 22)) = some y8 := hf 8 _ rfl
    rw [k_u8] at f0 f3
    rw [k_u32] at f1 f8
    rw [k_u64] at f2 f5
    rw [k_attr] at f4
    rw [k_u8s] at f6
    rw [k_strs] at f7
    obtain ⟨n0, rfl, b0⟩ := trod8B f0
    obtain ⟨n1, rfl, b1⟩ := trod32B f1
    obtain ⟨n2, rfl, b2⟩ := trod64B f2
    obtain ⟨n3, rfl, b3⟩ := trod8B f3
    obtain ⟨n4, n5, n6, n7, n8, rfl, rfl, rfl, rfl, rfl, b4, b5, b7, b8⟩ := trodAttB f4
    obtain ⟨n9, rfl, b9⟩ := trod64B f5
    obtain ⟨v, l, e, hv⟩ := trod_bytesV f6
    have e' : c10 = v := by simpa using e
    subst e'
    obtain ⟨u, ns, e2, hu⟩ := trodNmB f7
    have e2' : c11 = u := by simpa using e2
    subst e2'
    obtain ⟨n12, rfl, b12⟩ := trod32B f8
    refine ⟨⟨n0, n1, n2, n3, n4, n5, n6, n7, n8, n9, l, ns, n12⟩, c10, c11, rfl, ⟨hv, hu, b0, b1, b2, b3, b4, b5, b7, b8, b9, b12⟩, trod_bytesV_sz f6 (fun m hm => hz m ?_) c10 l rfl hv⟩
    rw [hx, DataW.weights, Tryd.underlying31]
    exact DataW.weights_mem_each (j := 6) (t := 28) (d := y6.1) rfl rfl m hm
/-- a reply that came in -/
theorem open_back {base : Nat} {v : Value} {d : DataW H} {p : List MemPlace} (hz : ∀ n ∈ d.weights Tryd.prog 31, n ≤ reachBytes) (hv : Value.okWide Tryd.prog W .any base 31 v) (h : DataW.Trod enc Tryd.prog W 0 (fun _ => true) true 31 v d p) :
    ∃ (c : BackX) (x u : Value), v = .agg (bacCells c x u).toArray ∧ BacV W (· < W.heap.size) c x u ∧ c.data.length ≤ 140737488351232 := by
  obtain ⟨cs, rfl, -⟩ := okWide_struct Tryd.underlying31 hv
  obtain ⟨fuel, hf⟩ := h
  obtain ⟨c, x, u, hc, hu, hl⟩ := trod_back hf hz
  refine ⟨c, x, u, ?_, hu, by unfold reachBytes at hl; exact hl⟩
  have h1 : cs.toList = bacCells c x u := hc
  rw [← h1]
end

end Go.Proofs.YtboalmmpcfiicaaDoor
