/- A block among the arguments. -/
import Derived.Test.YtlhbipommhljiaaBlk2
import Derived.Deep.Slices
namespace Go.Proofs.Ytlhbipommhljiaa
open Go.RowKit Go.Shelf Go.Maps Go.ChangeShapes Go.WideShapes Go.ChangeAt Go.Deep
set_option linter.unusedVariables false
set_option linter.unusedSimpArgs false

theorem wf_u8 {a : Int} (h : (Lit.int .u8 a).wf = true) : 0 ≤ a ∧ a ≤ 255 := by
  simp [Lit.wf, IntKind.min, IntKind.max, IntKind.signed, IntKind.bits] at h
  omega
section
variable {H : Type} {enc : TypeId × Value → H} {w : World} {base : Nat} {spare : Nat → Bool} {held : Bool} {fuel : Nat}
theorem trod_blk {cs : List Value} {x : DataW H × List MemPlace} (h : DataW.trod enc Try.prog w base spare held fuel 25 cs = some x) : ∃ l : Blk, l.length = 64 ∧ cs = cellsOf l := by
  obtain ⟨xs, m, _, _, hl, hxl, hf⟩ := DataW.trod_array Try.underlying25 h
  have hc : Try.prog.cellsOf 25 = 64 := by kernel_rfl
  have h1 : Try.prog.cellsOf 5 = 1 := by kernel_rfl
  rw [hc] at hl
  have hall : cs.all isU8 = true := by
    rw [List.all_eq_true]
    intro v hv
    obtain ⟨i, hi, rfl⟩ := List.getElem_of_mem hv
    have := hf i (by omega)
    rw [h1, Nat.mul_one] at this
    have hx : i < xs.length := by omega
    rw [List.getElem?_eq_getElem hx, List.drop_eq_getElem_cons hi] at this
    obtain ⟨a, hs, _, hw⟩ := DataW.trod_int Try.underlying5 this
    rw [List.take_succ_cons, List.take_zero] at hs
    have hv : cs[i] = .int .u8 a := (List.cons.inj hs).1
    rw [hv]
    have := wf_u8 hw
    simp [isU8]
    omega
  exact ⟨cs.map byteOf, by simp [hl], (cells_byte cs hall).symm⟩
end
theorem open_blk {H : Type} {enc : TypeId × Value → H} {W : World} {base : Nat} {v : Value} {d : DataW H} {p : List MemPlace} (hv : Value.okWide Try.prog W .any base 25 v) (h : DataW.Trod enc Try.prog W 0 (fun _ => true) true 25 v d p) : ∃ l : Blk, l.length = 64 ∧ v = bv l := by
  obtain ⟨fuel, hf⟩ := h
  obtain ⟨l, hl, e⟩ := trod_blk hf
  simp only [Value.okWide, Try.underlying25] at hv
  obtain ⟨cs, rfl, _⟩ := hv
  exact ⟨l, hl, by unfold bv; rw [← e]; simp [Value.cells]⟩

end Go.Proofs.Ytlhbipommhljiaa
