/- A list of bytes among the arguments, opened. -/
import Derived.Test.YtdlpnndoifdamaaNumPutRef
import Derived.ProofKit
import Derived.OpenShut
import Derived.ShutString
import Derived.ChangeOld
import Derived.Below
import Derived.SizedLaws
namespace Go.Proofs.Ytdlpnndoifdamaa
open Go.RowKit Go.Shelf Go.ChangeShapes Go.WideShapes Go.ChangeAt
set_option linter.unusedVariables false

/-- what is told of a list of bytes that came in: how it reads, and how much its datum holds -/
def Came {H : Type} (W : World) (v : Value) (d : DataW H) (A : Option Addr) (l : List UInt8) (c : Nat) : Prop :=
  v = .slice A l.length c ∧ Rd W A l ∧ (A = none → l = [] ∧ c = 0) ∧ l.length ≤ c ∧ c ≤ maxLen ∧
    (d = .nil ∨ ∃ elems spare, d = .slice elems spare ∧ elems.length = l.length ∧ elems.length + spare.length = c)

theorem open_came {H : Type} {enc : TypeId × Value → H} {W : World} {base : Nat} {v : Value} {d : DataW H} {p : List MemPlace} (hv : Value.okWide Try.prog W .any base 23 v)
    (h : DataW.Trod enc Try.prog W 0 (fun _ => true) true 23 v d p) : ∃ A l c, Came W v d A l c := by
  obtain ⟨A, len, cap, rfl⟩ := okWide_slice Try.underlying23 hv
  obtain ⟨fuel, hf⟩ := h
  rcases open_ints Try.underlying23 Try.underlying5 (by kernel_rfl) hf with ⟨hcs, hx⟩ | ⟨x, len', cap', zs, hcs, _, hl, hm, hz, hx, hcell, hwz⟩
  · simp [Value.cells] at hcs
    obtain ⟨rfl, rfl, rfl⟩ := hcs
    simp only [Prod.mk.injEq] at hx
    exact ⟨none, [], 0, rfl, .inl rfl, fun _ => ⟨rfl, rfl⟩, Nat.le_refl _, Nat.zero_le _, .inl hx.1⟩
  · simp [Value.cells] at hcs
    obtain ⟨rfl, rfl, rfl⟩ := hcs
    have hz' : zs.length = cap := by simpa using hz
    simp only [Prod.mk.injEq] at hx
    have hlen : ((zs.take len).map fun n => UInt8.ofNat n.toNat).length = len := by
      rw [List.length_map, List.length_take]; omega
    refine ⟨some x, (zs.take len).map fun n => UInt8.ofNat n.toNat, cap, by rw [hlen], ?_, (fun h => by cases h), by rw [hlen]; exact hl, hm, .inr ⟨_, _, hx.1, ?_, ?_⟩⟩
    · by_cases h0 : len = 0
      · subst h0; exact .inl (by simp)
      · obtain ⟨b, off, spot⟩ := x
        have hc0 := hcell 0 (by omega)
        have hspot : spot = none := by simpa [Addr.add] using World.cell?_spot hc0
        subst hspot
        refine .inr ⟨b, off, rfl, fun j hj => ?_⟩
        rw [hlen] at hj
        have hjz : j < zs.length := by omega
        have hc := hcell j hjz
        have e1 : (⟨b, off, none⟩ : Addr).add j = ⟨b, off + j, none⟩ := by
          unfold Addr.add
          split <;> simp_all
        rw [e1] at hc
        rw [hc]
        have hw := hwz zs[j] (List.getElem_mem hjz)
        have hbd : 0 ≤ zs[j] ∧ zs[j] ≤ 255 := by simpa [Lit.wf, IntKind.min, IntKind.max, IntKind.signed, IntKind.bits] using hw
        have e2 : ((UInt8.ofNat (zs[j]).toNat).toNat : Int) = zs[j] := by
          rw [UInt8.toNat_ofNat']
          omega
        simp only [List.getElem_map, List.getElem_take, e2, List.getD, List.getElem?_eq_getElem hjz, Option.getD_some]
    · rw [hlen]; simp [lits]; omega
    · simp [lits]; omega

theorem nil_came {H : Type} {enc : TypeId × Value → H} {W : World} {v : Value} {d : DataW H} {p : List MemPlace} {A : Option Addr} {l : List UInt8} {c : Nat} (h : DataW.Trod enc Try.prog W 0 (fun _ => true) true 23 v d p)
    (hc : Came W v d A l c) : d = .nil → l = [] := by
  rintro rfl
  obtain ⟨m, hm⟩ := h
  rcases open_ints Try.underlying23 Try.underlying5 (by kernel_rfl) hm with ⟨hcs, _⟩ | ⟨x, len', cap', zs, _, _, _, _, _, hx, _⟩
  · rw [hc.1] at hcs
    simp [Value.cells] at hcs
    exact hcs.2.1
  · simp at hx

theorem Try_bytes5 : Try.prog.bytesOf 5 = 1 := by kernel_rfl

end Go.Proofs.Ytdlpnndoifdamaa
