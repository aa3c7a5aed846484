/- Cuts, and lists of them, among the arguments. -/
import Derived.Test.YtdjjlhfgfogdeaaJourDK
import Derived.Deep.Slices
import Derived.Lib.SmallJoins
import Derived.ChangeArms
namespace Go.Proofs.Ytdjjlhfgfogdeaa
open Go.RowKit Go.Shelf Go.ChangeShapes Go.WideShapes Go.ChangeAt Go.Deep
set_option linter.unusedVariables false
set_option maxRecDepth 100000
set_option linter.unusedSimpArgs false

theorem wf_i64' {a : Int} (h : (Lit.int .i64 a).wf = true) : -9223372036854775808 ≤ a ∧ a ≤ 9223372036854775807 := by
  simp [Lit.wf, IntKind.min, IntKind.max, IntKind.signed, IntKind.bits] at h
  omega
theorem wf_u8' {a : Int} (h : (Lit.int .u8 a).wf = true) : 0 ≤ a ∧ a ≤ 255 := by
  simp [Lit.wf, IntKind.min, IntKind.max, IntKind.signed, IntKind.bits] at h
  omega
theorem exists_list' {α : Type} (P : Nat → α → Prop) : ∀ n, (∀ i, i < n → ∃ x, P i x) → ∃ xs : List α, xs.length = n ∧ ∀ i (h : i < xs.length), P i xs[i]
  | 0, _ => ⟨[], rfl, fun i h => by cases h⟩
  | n + 1, h => by
    obtain ⟨xs, hl, hx⟩ := exists_list' P n fun i hi => h i (by omega)
    obtain ⟨x, hp⟩ := h n (by omega)
    refine ⟨xs ++ [x], by simp [hl], fun i hi => ?_⟩
    by_cases hn : i < xs.length
    · rw [List.getElem_append_left hn]; exact hx i hn
    · have e : i = n := by simp at hi; omega
      subst e
      rw [List.getElem_append_right (by omega)]
      simpa [hl] using hp
/-- a cut, as it came in -/
structure Ct where
  all : Bool
  b : Option Addr
  l : List UInt8
  c : Nat
  arm : Nat
  p : Option Addr
  picks : List Int
  pc : Nat
def ctCells (x : Ct) : List Value := [.bool x.all, .slice x.b x.l.length x.c, .int .u8 (x.arm : Int), .slice x.p x.picks.length x.pc]
structure CtOk (w : World) (x : Ct) : Prop where
  rd : Rd w x.b x.l
  non : x.b = none → x.l = [] ∧ x.c = 0
  cap : x.l.length ≤ x.c ∧ x.c ≤ maxLen
  arm : x.arm < 256
  picks : RdI w x.p x.picks
  wf : ∀ y ∈ x.picks, -9223372036854775808 ≤ y ∧ y ≤ 9223372036854775807
  few : x.picks.length ≤ 9223372036854775807
section
variable {H : Type} {enc : TypeId × Value → H} {W : World} {fuel : Nat}
/-- bytes, wherever they stand -/
theorem trod_bytes {cs : List Value} {x : DataW H × List MemPlace} (h : DataW.trod enc Try.prog W 0 (fun _ => true) true fuel 31 cs = some x) : ∃ A l c, cs = [.slice A l.length c] ∧ Rd W A l ∧ (A = none → l = [] ∧ c = 0) ∧ l.length ≤ c ∧ c ≤ maxLen := by
  rcases open_ints Try.underlying31 Try.underlying5 (by kernel_rfl) h with ⟨hcs, _⟩ | ⟨x, len, cap, zs, hcs, _, hl, hm, hz, _, hcell, hwz⟩
  · exact ⟨none, [], 0, hcs, .inl rfl, fun _ => ⟨rfl, rfl⟩, Nat.le_refl _, Nat.zero_le _⟩
  · have hz' : zs.length = cap := by simpa using hz
    have hlen : ((zs.take len).map fun n => UInt8.ofNat n.toNat).length = len := by
      rw [List.length_map, List.length_take]; omega
    refine ⟨some x, (zs.take len).map fun n => UInt8.ofNat n.toNat, cap, by rw [hlen]; exact hcs, ?_, (fun h => by cases h), by rw [hlen]; exact hl, hm⟩
    by_cases h0 : len = 0
    · subst h0; exact .inl (by simp)
    · obtain ⟨b, off, spot⟩ := x
      have hc0 := hcell 0 (by omega)
      have hspot : spot = none := by simpa [Addr.add] using World.cell?_spot hc0
      subst hspot
      refine .inr ⟨b, off, rfl, fun j hj => ?_⟩
      rw [hlen] at hj
      have hjz : j < zs.length := by omega
      have hc := hcell j hjz
      have e1 : (⟨b, off, none⟩ : Addr).add j = ⟨b, off + j, none⟩ := by
        unfold Addr.add
        split <;> simp_all
      rw [e1] at hc
      rw [hc]
      have hbd := wf_u8' (hwz zs[j] (List.getElem_mem hjz))
      have e2 : ((UInt8.ofNat (zs[j]).toNat).toNat : Int) = zs[j] := by
        rw [UInt8.toNat_ofNat']
        omega
      simp only [List.getElem_map, List.getElem_take, e2, List.getD, List.getElem?_eq_getElem hjz, Option.getD_some]
/-- numbers, wherever they stand -/
theorem trod_nums {cs : List Value} {x : DataW H × List MemPlace} (h : DataW.trod enc Try.prog W 0 (fun _ => true) true fuel 32 cs = some x) : ∃ A l c, cs = [.slice A l.length c] ∧ RdI W A l ∧ (∀ x ∈ l, -9223372036854775808 ≤ x ∧ x ≤ 9223372036854775807) ∧ l.length ≤ 9223372036854775807 := by
  rcases open_ints Try.underlying32 Try.underlying3 (by kernel_rfl) h with ⟨hcs, _⟩ | ⟨x, len, cap, zs, hcs, _, hl, hm, hz, _, hcell, hwz⟩
  · exact ⟨none, [], 0, hcs, .inl rfl, by simp, by decide⟩
  · have hz' : zs.length = cap := by simpa using hz
    have hlen : (zs.take len).length = len := by rw [List.length_take]; omega
    refine ⟨some x, zs.take len, cap, by rw [hlen]; exact hcs, ?_, fun y hy => wf_i64' (hwz y (List.mem_of_mem_take hy)), by rw [hlen]; unfold maxLen at hm; omega⟩
    by_cases h0 : len = 0
    · subst h0; exact .inl (by simp)
    · obtain ⟨b, off, spot⟩ := x
      have hc0 := hcell 0 (by omega)
      have hspot : spot = none := by simpa [Addr.add] using World.cell?_spot hc0
      subst hspot
      refine .inr ⟨b, off, rfl, fun j hj => ?_⟩
      have hj' : j < zs.length := by rw [hlen] at hj; omega
      have hc := hcell j hj'
      rw [addr_add] at hc
      rw [hc]
      simp [List.getD, List.getElem?_eq_getElem hj']
theorem trod_cut {cs : List Value} {x : DataW H × List MemPlace} (h : DataW.trod enc Try.prog W 0 (fun _ => true) true fuel 34 cs = some x) : ∃ z : Ct, cs = ctCells z ∧ CtOk W z := by
  obtain ⟨y0, y1, y2, y3, n, _, hl, f0, f1, f2, f3⟩ := Go.Joins.trod_struct4 Try.underlying34 h
  have hc : Try.prog.cellsOf 34 = 4 := by kernel_rfl
  have h1 : Try.prog.cellsOf 4 = 1 := by kernel_rfl
  have h2 : Try.prog.cellsOf 31 = 1 := by kernel_rfl
  have h3 : Try.prog.cellsOf 5 = 1 := by kernel_rfl
  have h4 : Try.prog.cellsOf 32 = 1 := by kernel_rfl
  rw [hc] at hl
  obtain ⟨c0, c1, c2, c3, rfl⟩ : ∃ c0 c1 c2 c3, cs = [c0, c1, c2, c3] := by
    match cs, hl with
    | [a, b, c, d], _ => exact ⟨a, b, c, d, rfl⟩
  change DataW.trod enc Try.prog W 0 _ true n 4 (([c0, c1, c2, c3].drop 0).take (Try.prog.cellsOf 4)) = some y0 at f0
  change DataW.trod enc Try.prog W 0 _ true n 31 (([c0, c1, c2, c3].drop 1).take (Try.prog.cellsOf 31)) = some y1 at f1
  change DataW.trod enc Try.prog W 0 _ true n 5 (([c0, c1, c2, c3].drop 2).take (Try.prog.cellsOf 5)) = some y2 at f2
  change DataW.trod enc Try.prog W 0 _ true n 32 (([c0, c1, c2, c3].drop 3).take (Try.prog.cellsOf 32)) = some y3 at f3
  rw [h1] at f0
  rw [h2] at f1
  rw [h3] at f2
  rw [h4] at f3
  obtain ⟨a, e0, _⟩ := DataW.trod_bool Try.underlying4 f0
  obtain ⟨A, l, c, e1, r1, r2, r3, r4⟩ := trod_bytes f1
  obtain ⟨m, e2, _, wm⟩ := DataW.trod_int Try.underlying5 f2
  obtain ⟨P, ps, pc, e3, q1, q2, q3⟩ := trod_nums f3
  have hm := wf_u8' wm
  simp at e0 e1 e2 e3
  subst e0 e1 e2 e3
  refine ⟨⟨a, A, l, c, m.toNat, P, ps, pc⟩, ?_, ⟨r1, r2, ⟨r3, r4⟩, ?_, q1, q2, q3⟩⟩
  · simp only [ctCells]
    rw [show ((m.toNat : Nat) : Int) = m by omega]
  · show m.toNat < 256
    omega
end
/-- a slice reads as these cuts -/
def CtsR (w : World) (A : Option Addr) (l : List Ct) : Prop := l = [] ∨ ∃ b f, A = some ⟨b, f, none⟩ ∧ ∀ i (h : i < l.length), At w b (f + i * 4) (ctCells l[i])
theorem open_cuts {H : Type} {enc : TypeId × Value → H} {W : World} {base : Nat} {v : Value} {d : DataW H} {p : List MemPlace} (hv : Value.okWide Try.prog W .any base 22 v) (h : DataW.Trod enc Try.prog W 0 (fun _ => true) true 22 v d p) :
    ∃ A l c, v = .slice A l.length c ∧ CtsR W A l ∧ (∀ x ∈ l, CtOk W x) ∧ l.length ≤ maxLen := by
  obtain ⟨A, len, cap, rfl⟩ := okWide_slice Try.underlying22 hv
  obtain ⟨fuel, hf⟩ := h
  rcases open_slice Try.underlying22 hf with ⟨hcs, hx⟩ | ⟨x, len', cap', m, n, D, Pl, hcs, _, hl, hm, hmm, hx, hi⟩
  · simp [Value.cells] at hcs
    obtain ⟨rfl, rfl, rfl⟩ := hcs
    exact ⟨none, [], 0, rfl, .inl rfl, by simp, Nat.zero_le _⟩
  · simp [Value.cells] at hcs
    obtain ⟨rfl, rfl, rfl⟩ := hcs
    have hmle : len ≤ m := by rw [hmm]; split <;> omega
    have hC : Try.prog.cellsOf 34 = 4 := by kernel_rfl
    obtain ⟨xs, hxl, hxs⟩ := exists_list' (fun i (z : Ct) => CtOk W z ∧ ∀ j v, (ctCells z)[j]? = some v → W.cell? ((x.add (i * 4)).add j) = some v) len fun i hlt => by
      obtain ⟨cs', hc, ht⟩ := hi i (by omega)
      obtain ⟨z, rfl, hz⟩ := trod_cut ht
      refine ⟨z, hz, fun j v hv => ?_⟩
      obtain ⟨_, hcl, hat⟩ := World.cells?_some hc
      rw [hC] at hcl hat
      have hj : j < 4 := by have := (List.getElem?_eq_some_iff.1 hv).1; omega
      rw [hat j hj, hv]
    subst hxl
    refine ⟨some x, xs, cap, rfl, ?_, fun z hz => ?_, Nat.le_trans hl hm⟩
    · by_cases h0 : xs = []
      · exact .inl h0
      · have hpos : 0 < xs.length := List.length_pos_iff.2 h0
        obtain ⟨b, off, spot⟩ := x
        have hc0 := (hxs 0 hpos).2 0 _ rfl
        have hspot : spot = none := by simpa [Addr.add] using World.cell?_spot hc0
        subst hspot
        refine .inr ⟨b, off, rfl, fun i hi' j v hv => ?_⟩
        have := (hxs i hi').2 j v hv
        rwa [addr_add, addr_add] at this
    · obtain ⟨i, hi', rfl⟩ := List.getElem_of_mem hz
      exact (hxs i hi').1

end Go.Proofs.Ytdjjlhfgfogdeaa
