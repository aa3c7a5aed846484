/- Spans among the arguments. -/
import Derived.Test.YthjcnijageiaiaaSpaK
import Derived.Test.YthjcnijageiaiaaTblK
namespace Go.Proofs.Ythjcnijageiaiaa
open Go.RowKit Go.Shelf Go.ChangeShapes Go.WideShapes Go.ChangeAt Go.Deep
set_option linter.unusedVariables false
set_option maxRecDepth 100000
set_option linter.unusedSimpArgs false

section
variable {H : Type} {enc : TypeId × Value → H} {W : World} {fuel : Nat}
theorem wf32S {x : Int} (h : (Lit.int .u32 x).wf = true) : 0 ≤ x ∧ x < 4294967296 := by
  simp [Lit.wf, IntKind.min, IntKind.max, IntKind.signed, IntKind.bits] at h
  exact ⟨by omega, by omega⟩
theorem trod32S {v : Value} {x : DataW H × List MemPlace} (h : DataW.trod enc Try.prog W 0 (fun _ => true) true fuel 23 [v] = some x) : ∃ n : Nat, v = .int .u32 (n : Int) ∧ n < 4294967296 := by
  obtain ⟨a, e, _, w⟩ := DataW.trod_int Try.underlying23 h
  simp at e
  obtain ⟨n, rfl⟩ := Int.eq_ofNat_of_zero_le (wf32S w).1
  exact ⟨n, e, by have := (wf32S w).2; omega⟩
theorem trod_span {cs : List Value} {x : DataW H × List MemPlace} (h : DataW.trod enc Try.prog W 0 (fun _ => true) true fuel 25 cs = some x) : ∃ z : Sp, cs = spC z ∧ z.1 < 4294967296 ∧ z.2 < 4294967296 := by
  obtain ⟨y0, y1, n, _, hl, f0, f1⟩ := trod_struct2 Try.underlying25 h
  have hc : Try.prog.cellsOf 25 = 2 := by kernel_rfl
  have k1 : Try.prog.cellsOf 23 = 1 := by kernel_rfl
  rw [hc] at hl
  obtain ⟨c0, c1, rfl⟩ : ∃ c0 c1, cs = [c0, c1] := by
    match cs, hl with
    | [a, b], _ => exact ⟨a, b, rfl⟩
  change DataW.trod enc Try.prog W 0 _ true n 23 (([c0, c1].drop 0).take (Try.prog.cellsOf 23)) = some y0 at f0
  change DataW.trod enc Try.prog W 0 _ true n 23 (([c0, c1].drop 1).take (Try.prog.cellsOf 23)) = some y1 at f1
  rw [k1] at f0 f1
  obtain ⟨m, rfl, hm⟩ := trod32S f0
  obtain ⟨k, rfl, hk⟩ := trod32S f1
  exact ⟨(m, k), rfl, hm, hk⟩
end
theorem open_spans {H : Type} {enc : TypeId × Value → H} {W : World} {base : Nat} {v : Value} {d : DataW H} {p : List MemPlace} (hv : Value.okWide Try.prog W .any base 22 v) (h : DataW.Trod enc Try.prog W 0 (fun _ => true) true 22 v d p) :
    ∃ A l c, v = .slice A l.length c ∧ LsF W A c l := by
  obtain ⟨A, l, c, h1, h2, -, h3, h4, h5⟩ := open_list (E := spE) (fun _ => True) (fun _ _ _ h => by obtain ⟨z, h1, h2⟩ := trod_span h; exact ⟨z, ⟨h1, h2⟩, trivial⟩) (by kernel_rfl) hv h
  exact ⟨A, l, c, h1, h2, h3, h4, h5⟩
theorem open_span {H : Type} {enc : TypeId × Value → H} {W : World} {base : Nat} {v : Value} {d : DataW H} {p : List MemPlace} (hv : Value.okWide Try.prog W .any base 25 v) (h : DataW.Trod enc Try.prog W 0 (fun _ => true) true 25 v d p) :
    ∃ s, v = .agg (spC s).toArray ∧ s.1 < 4294967296 ∧ s.2 < 4294967296 := by
  obtain ⟨cs, rfl, -⟩ := okWide_struct Try.underlying25 hv
  obtain ⟨fuel, hf⟩ := h
  obtain ⟨s, h1, h2⟩ := trod_span hf
  refine ⟨s, ?_, h2⟩
  have h3 : cs.toList = spC s := h1
  rw [← h3]

end Go.Proofs.Ythjcnijageiaiaa
