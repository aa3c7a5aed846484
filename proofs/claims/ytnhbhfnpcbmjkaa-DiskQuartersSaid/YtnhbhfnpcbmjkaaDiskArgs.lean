/- Blocks, deeds and lists of them, among the arguments. -/
import Derived.Test.YtnhbhfnpcbmjkaaDiskLives
import Derived.Deep.Slices
namespace Go.Proofs.Ytnhbhfnpcbmjkaa
open Go.RowKit Go.Shelf Go.Maps Go.ChangeShapes Go.WideShapes Go.ChangeAt Go.Deep
set_option linter.unusedVariables false
set_option linter.unusedSimpArgs false

/-- a deed, as it came in -/
structure Dd where
  do' : Int
  n : Int
  b : Blk
  A : Option Addr
  len : Nat
  cap : Nat
def ddCells (x : Dd) : List Value := .int .u8 x.do' :: .int .i64 x.n :: (cellsOf x.b ++ [.slice x.A x.len x.cap])
def DdOk (x : Dd) : Prop := x.b.length = 64 ∧ -9223372036854775808 ≤ x.n ∧ x.n ≤ 9223372036854775807
theorem wf_i64 {a : Int} (h : (Lit.int .i64 a).wf = true) : -9223372036854775808 ≤ a ∧ a ≤ 9223372036854775807 := by
  simp [Lit.wf, IntKind.min, IntKind.max, IntKind.signed, IntKind.bits] at h
  omega
theorem wf_u8 {a : Int} (h : (Lit.int .u8 a).wf = true) : 0 ≤ a ∧ a ≤ 255 := by
  simp [Lit.wf, IntKind.min, IntKind.max, IntKind.signed, IntKind.bits] at h
  omega
theorem exists_list {α : Type} (P : Nat → α → Prop) : ∀ n, (∀ i, i < n → ∃ x, P i x) → ∃ xs : List α, xs.length = n ∧ ∀ i (h : i < xs.length), P i xs[i]
  | 0, _ => ⟨[], rfl, fun i h => by cases h⟩
  | n + 1, h => by
    obtain ⟨xs, hl, hx⟩ := exists_list P n fun i hi => h i (by omega)
    obtain ⟨x, hp⟩ := h n (by omega)
    refine ⟨xs ++ [x], by simp [hl], fun i hi => ?_⟩
    by_cases hn : i < xs.length
    · rw [List.getElem_append_left hn]; exact hx i hn
    · have e : i = n := by simp at hi; omega
      subst e
      rw [List.getElem_append_right (by omega)]
      simpa [hl] using hp
section
variable {H : Type} {enc : TypeId × Value → H} {w : World} {base : Nat} {spare : Nat → Bool} {held : Bool} {fuel : Nat}
theorem trod_blk {cs : List Value} {x : DataW H × List MemPlace} (h : DataW.trod enc Try.prog w base spare held fuel 30 cs = some x) : ∃ l : Blk, l.length = 64 ∧ cs = cellsOf l := by
  obtain ⟨xs, m, _, _, hl, hxl, hf⟩ := DataW.trod_array Try.underlying30 h
  have hc : Try.prog.cellsOf 30 = 64 := by kernel_rfl
  have h1 : Try.prog.cellsOf 5 = 1 := by kernel_rfl
  rw [hc] at hl
  have hall : cs.all isU8 = true := by
    rw [List.all_eq_true]
    intro v hv
    obtain ⟨i, hi, rfl⟩ := List.getElem_of_mem hv
    have := hf i (by omega)
    rw [h1, Nat.mul_one] at this
    have hx : i < xs.length := by omega
    rw [List.getElem?_eq_getElem hx, List.drop_eq_getElem_cons hi] at this
    obtain ⟨a, hs, _, hw⟩ := DataW.trod_int Try.underlying5 this
    rw [List.take_succ_cons, List.take_zero] at hs
    have hv : cs[i] = .int .u8 a := (List.cons.inj hs).1
    rw [hv]
    have := wf_u8 hw
    simp [isU8]
    omega
  exact ⟨cs.map byteOf, by simp [hl], (cells_byte cs hall).symm⟩
theorem trod_slice_one {t e : TypeId} (ht : Try.prog.underlying t = some (.slice e)) {cs : List Value} {x : DataW H × List MemPlace} (h : DataW.trod enc Try.prog w base spare held fuel t cs = some x) : ∃ A n c, cs = [.slice A n c] := by
  rcases DataW.trod_slice ht h with ⟨h, _⟩ | ⟨a, len, cap, _, _, _, _, h, _⟩
  · exact ⟨_, _, _, h⟩
  · exact ⟨_, _, _, h⟩
theorem trod_deed {cs : List Value} {x : DataW H × List MemPlace} (h : DataW.trod enc Try.prog w base spare held fuel 32 cs = some x) : ∃ d : Dd, cs = ddCells d ∧ DdOk d := by
  obtain ⟨xs, m, _, _, hl, hxl, hf⟩ := DataW.trod_struct Try.underlying32 h
  have hc : Try.prog.cellsOf 32 = 67 := by kernel_rfl
  have h1 : Try.prog.cellsOf 5 = 1 := by kernel_rfl
  have h2 : Try.prog.cellsOf 3 = 1 := by kernel_rfl
  have h3 : Try.prog.cellsOf 30 = 64 := by kernel_rfl
  have h4 : Try.prog.cellsOf 23 = 1 := by kernel_rfl
  rw [hc] at hl
  have hxl4 : xs.length = 4 := hxl
  have f0 := hf 0 _ rfl
  have f1 := hf 1 _ rfl
  have f2 := hf 2 _ rfl
  have f3 := hf 3 _ rfl
  change DataW.trod enc Try.prog w base spare held m 5 ((cs.drop 0).take (Try.prog.cellsOf 5)) = xs[0]? at f0
  change DataW.trod enc Try.prog w base spare held m 3 ((cs.drop 1).take (Try.prog.cellsOf 3)) = xs[1]? at f1
  change DataW.trod enc Try.prog w base spare held m 30 ((cs.drop 2).take (Try.prog.cellsOf 30)) = xs[2]? at f2
  change DataW.trod enc Try.prog w base spare held m 23 ((cs.drop 66).take (Try.prog.cellsOf 23)) = xs[3]? at f3
  rw [h1] at f0
  rw [h2] at f1
  rw [h3] at f2
  rw [h4] at f3
  rw [List.getElem?_eq_getElem (by omega)] at f0 f1 f2 f3
  obtain ⟨a, e0, _, _⟩ := DataW.trod_int Try.underlying5 f0
  obtain ⟨n, e1, _, wn⟩ := DataW.trod_int Try.underlying3 f1
  obtain ⟨l, hll, e2⟩ := trod_blk f2
  obtain ⟨A, k, c, e3⟩ := trod_slice_one Try.underlying23 f3
  refine ⟨⟨a, n, l, A, k, c⟩, ?_, hll, wf_i64 wn⟩
  have d0 : cs = cs.take 1 ++ ((cs.drop 1).take 1 ++ ((cs.drop 2).take 64 ++ (cs.drop 66).take 1)) := by
    have a1 : cs.drop 66 = (cs.drop 66).take 1 := (List.take_of_length_le (by simp; omega)).symm
    have a2 : cs.drop 2 = (cs.drop 2).take 64 ++ cs.drop 66 := by rw [← List.drop_drop (i := 64) (j := 2)]; exact (List.take_append_drop 64 (cs.drop 2)).symm
    have a3 : cs.drop 1 = (cs.drop 1).take 1 ++ cs.drop 2 := by rw [← List.drop_drop (i := 1) (j := 1)]; exact (List.take_append_drop 1 (cs.drop 1)).symm
    rw [← a1, ← a2, ← a3]
    exact (List.take_append_drop 1 cs).symm
  rw [d0]
  rw [List.drop_zero] at e0
  rw [e0, e1, e2, e3]
  rfl
end
theorem open_blk {H : Type} {enc : TypeId × Value → H} {W : World} {base : Nat} {v : Value} {d : DataW H} {p : List MemPlace} (hv : Value.okWide Try.prog W .any base 30 v) (h : DataW.Trod enc Try.prog W 0 (fun _ => true) true 30 v d p) : ∃ l : Blk, l.length = 64 ∧ v = bv l := by
  obtain ⟨fuel, hf⟩ := h
  obtain ⟨l, hl, e⟩ := trod_blk hf
  simp only [Value.okWide, Try.underlying30] at hv
  obtain ⟨cs, rfl, _⟩ := hv
  exact ⟨l, hl, by unfold bv; rw [← e]; simp [Value.cells]⟩
theorem open_deed {H : Type} {enc : TypeId × Value → H} {W : World} {base : Nat} {v : Value} {d : DataW H} {p : List MemPlace} (hv : Value.okWide Try.prog W .any base 32 v) (h : DataW.Trod enc Try.prog W 0 (fun _ => true) true 32 v d p) : ∃ x : Dd, v = .agg (ddCells x).toArray ∧ DdOk x := by
  obtain ⟨fuel, hf⟩ := h
  obtain ⟨x, e, hx⟩ := trod_deed hf
  simp only [Value.okWide, Try.underlying32] at hv
  obtain ⟨cs, rfl, _⟩ := hv
  exact ⟨x, by rw [← e]; simp [Value.cells], hx⟩
/-- a slice reads as these deeds -/
def Ds (w : World) (A : Option Addr) (l : List Dd) : Prop := l = [] ∨ ∃ b f, A = some ⟨b, f, none⟩ ∧ ∀ i (h : i < l.length), At w b (f + i * 67) (ddCells l[i])
theorem ddCells_len (x : Dd) (h : DdOk x) : (ddCells x).length = 67 := by simp [ddCells, cellsOf_length, h.1]
theorem open_deeds {H : Type} {enc : TypeId × Value → H} {W : World} {base : Nat} {v : Value} {d : DataW H} {p : List MemPlace} (hv : Value.okWide Try.prog W .any base 22 v) (h : DataW.Trod enc Try.prog W 0 (fun _ => true) true 22 v d p) :
    ∃ A l c, v = .slice A l.length c ∧ Ds W A l ∧ (∀ x ∈ l, DdOk x) ∧ l.length ≤ maxLen ∧ (∀ b, A = some b → b.block < W.heap.size ∨ l = []) := by
  obtain ⟨A, len, cap, rfl⟩ := okWide_slice Try.underlying22 hv
  obtain ⟨fuel, hf⟩ := h
  rcases open_slice Try.underlying22 hf with ⟨hcs, hx⟩ | ⟨x, len', cap', m, n, D, Pl, hcs, _, hl, hm, hmm, hx, hi⟩
  · simp [Value.cells] at hcs
    obtain ⟨rfl, rfl, rfl⟩ := hcs
    exact ⟨none, [], 0, rfl, .inl rfl, by simp, Nat.zero_le _, fun b h => by cases h⟩
  · simp [Value.cells] at hcs
    obtain ⟨rfl, rfl, rfl⟩ := hcs
    have hmle : len ≤ m := by rw [hmm]; split <;> omega
    have hC : Try.prog.cellsOf 32 = 67 := by kernel_rfl
    obtain ⟨xs, hxl, hxs⟩ := exists_list (fun i (z : Dd) => DdOk z ∧ ∀ j v, (ddCells z)[j]? = some v → W.cell? ((x.add (i * 67)).add j) = some v) len fun i hlt => by
      obtain ⟨cs', hc, ht⟩ := hi i (by omega)
      obtain ⟨z, rfl, hz⟩ := trod_deed ht
      refine ⟨z, hz, fun j v hv => ?_⟩
      obtain ⟨_, hcl, hat⟩ := World.cells?_some hc
      rw [hC] at hcl hat
      have hj : j < 67 := by have := (List.getElem?_eq_some_iff.1 hv).1; omega
      rw [hat j hj, hv]
    subst hxl
    refine ⟨some x, xs, cap, rfl, ?_, fun z hz => ?_, Nat.le_trans hl hm, fun b hb => ?_⟩
    · by_cases h0 : xs = []
      · exact .inl h0
      · have hpos : 0 < xs.length := List.length_pos_iff.2 h0
        obtain ⟨b, off, spot⟩ := x
        have hc0 := (hxs 0 hpos).2 0 _ rfl
        have hspot : spot = none := by simpa [Addr.add] using World.cell?_spot hc0
        subst hspot
        refine .inr ⟨b, off, rfl, fun i hi' j v hv => ?_⟩
        have := (hxs i hi').2 j v hv
        rwa [addr_add, addr_add] at this
    · obtain ⟨i, hi', rfl⟩ := List.getElem_of_mem hz
      exact (hxs i hi').1
    · cases hb
      by_cases h0 : xs = []
      · exact .inr h0
      · have hc0 := (hxs 0 (List.length_pos_iff.2 h0)).2 0 _ rfl
        have := lt_of_cell hc0
        refine .inl ?_
        have e : ((x.add (0 * 67)).add 0).block = x.block := by
          unfold Addr.add
          split <;> (try split) <;> rfl
        rwa [e] at this
theorem open_picks {H : Type} {enc : TypeId × Value → H} {W : World} {base : Nat} {v : Value} {d : DataW H} {p : List MemPlace} (hv : Value.okWide Try.prog W .any base 23 v) (h : DataW.Trod enc Try.prog W 0 (fun _ => true) true 23 v d p) :
    ∃ A l c, v = .slice A l.length c ∧ RdI W A l ∧ (∀ x ∈ l, -9223372036854775808 ≤ x ∧ x ≤ 9223372036854775807) ∧ l.length ≤ 9223372036854775807 := by
  obtain ⟨A, len, cap, rfl⟩ := okWide_slice Try.underlying23 hv
  obtain ⟨fuel, hf⟩ := h
  rcases open_ints Try.underlying23 Try.underlying3 (by kernel_rfl) hf with ⟨hcs, hx⟩ | ⟨x, len', cap', zs, hcs, _, hl, hm, hz, hx, hcell, hwz⟩
  · simp [Value.cells] at hcs
    obtain ⟨rfl, rfl, rfl⟩ := hcs
    exact ⟨none, [], 0, rfl, .inl rfl, by simp, by decide⟩
  · simp [Value.cells] at hcs
    obtain ⟨rfl, rfl, rfl⟩ := hcs
    have hz' : zs.length = cap := by simpa using hz
    have hlen : (zs.take len).length = len := by rw [List.length_take]; omega
    refine ⟨some x, zs.take len, cap, by rw [hlen], ?_, fun y hy => wf_i64 (hwz y (List.mem_of_mem_take hy)), by rw [hlen]; unfold maxLen at hm; omega⟩
    by_cases h0 : len = 0
    · subst h0; exact .inl (by simp)
    · obtain ⟨b, off, spot⟩ := x
      have hc0 := hcell 0 (by omega)
      have hspot : spot = none := by simpa [Addr.add] using World.cell?_spot hc0
      subst hspot
      refine .inr ⟨b, off, rfl, fun j hj => ?_⟩
      have hj' : j < zs.length := by rw [hlen] at hj; omega
      have hc := hcell j hj'
      rw [addr_add] at hc
      rw [hc]
      simp [List.getD, List.getElem?_eq_getElem hj']

end Go.Proofs.Ytnhbhfnpcbmjkaa
