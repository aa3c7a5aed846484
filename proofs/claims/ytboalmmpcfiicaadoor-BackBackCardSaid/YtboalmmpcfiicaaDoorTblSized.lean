/- Rows among the arguments, each value no longer than a machine holds. -/
import Derived.SizedLaws
import Derived.Test.YtboalmmpcfiicaaDoorTblK
namespace Go.Proofs.YtboalmmpcfiicaaDoor
open Go.RowKit Go.Shelf Go.ChangeShapes Go.WideShapes Go.ChangeAt Go.Deep
set_option linter.unusedVariables false
set_option maxRecDepth 100000
set_option linter.unusedSimpArgs false

section
variable {H : Type} {enc : TypeId × Value → H} {W : World} {fuel : Nat}
theorem weights_mem_all {P : Program} {e : TypeId} : ∀ {ds : List (DataW H)} {d : DataW H}, d ∈ ds → ∀ n ∈ d.weights P e, n ∈ DataW.weightsAll P e ds
  | d0 :: ds, d, h, n, hn => by
    simp only [DataW.weightsAll, List.mem_append]
    rcases List.mem_cons.1 h with rfl | h
    · exact .inl hn
    · exact .inr (weights_mem_all h n hn)
theorem trod_bytesV_sz {cs : List Value} {x : DataW H × List MemPlace} (h : DataW.trod enc Tryd.prog W 0 (fun _ => true) true fuel 28 cs = some x) (hz : ∀ n ∈ x.1.weights Tryd.prog 28, n ≤ reachBytes) : ∀ v l, cs = [v] → BsV W (· < W.heap.size) v l → l.length ≤ reachBytes := by
  intro v l hv hb
  obtain ⟨A, c, rfl, h1, h2, h3, h4⟩ := hb
  rcases open_ints Tryd.underlying28 Tryd.underlying5 (by kernel_rfl) h with ⟨hcs, _⟩ | ⟨a, len, cap, zs, hcs, _, hl, hm, hzs, rfl, _, _⟩
  · rw [hcs] at hv
    simp at hv
    omega
  · rw [hcs] at hv
    simp at hv
    have := hz _ (by rw [DataW.weights, Tryd.underlying28]; exact List.mem_cons_self)
    rw [Try_bytes5] at this
    have hzs' : zs.length = cap := by simpa using hzs
    simp [lits] at this
    omega
/-- a list of elements, each weighed -/
theorem open_list_sz {α : Type} {E : Elem α} (Pr : α → Prop) (hE : ∀ fuel cs x, DataW.trod enc Tryd.prog W 0 (fun _ => true) true fuel E.ety cs = some x → (∀ n ∈ x.1.weights Tryd.prog E.ety, n ≤ reachBytes) → ∃ z, E.rd W (· < W.heap.size) cs z ∧ Pr z) (hn : Tryd.prog.cellsOf E.ety = E.n)
    {base : Nat} {v : Value} {d : DataW H} {p : List MemPlace} (hv : Value.okWide Tryd.prog W .any base E.sty v) (h : DataW.Trod enc Tryd.prog W 0 (fun _ => true) true E.sty v d p) (hz : ∀ n ∈ d.weights Tryd.prog E.sty, n ≤ reachBytes) :
    ∃ A l c, v = .slice A l.length c ∧ RdX E W (· < W.heap.size) A l ∧ (∀ x ∈ l, Pr x) ∧ l.length ≤ c ∧ c ≤ maxLen ∧ (A = none → l = [] ∧ c = 0) := by
  obtain ⟨A, len, cap, rfl⟩ := okWide_slice E.und hv
  obtain ⟨fuel, hf⟩ := h
  rcases open_slice E.und hf with ⟨hcs, hx⟩ | ⟨x, len', cap', m, n, D, Pl, hcs, _, hl, hm, hmm, hx, hi⟩
  · simp [Value.cells] at hcs
    obtain ⟨rfl, rfl, rfl⟩ := hcs
    exact ⟨none, [], 0, rfl, .inl rfl, by simp, Nat.le_refl _, Nat.zero_le _, fun _ => ⟨rfl, rfl⟩⟩
  · simp [Value.cells] at hcs
    obtain ⟨rfl, rfl, rfl⟩ := hcs
    have hmle : len ≤ m := by rw [hmm]; split <;> omega
    have hD : ∀ k, k < len → ∀ n ∈ (D k).weights Tryd.prog E.ety, n ≤ reachBytes := fun k hk n hn => by
      refine hz n ?_
      have : d = .slice ((List.range len).map D) ((List.range (m - len)).map fun j => D (len + j)) := congrArg Prod.fst hx
      rw [this, DataW.weights, E.und]
      refine List.mem_cons_of_mem _ (List.mem_append_left _ (weights_mem_all (d := D k) (List.mem_map_of_mem (List.mem_range.2 hk)) n hn))
    have key : ∀ k, k ≤ len → ∃ (xs : List Value) (ls : List α), ls.length = k ∧ RowX E W (· < W.heap.size) xs ls ∧ (∀ z ∈ ls, Pr z) ∧ ∀ i u, xs[i]? = some u → W.cell? (x.add i) = some u := by
      intro k
      induction k with
      | zero => exact fun _ => ⟨[], [], rfl, RowX.nil _ _, by simp, fun i u h => by simp at h⟩
      | succ k ih =>
        intro hk
        obtain ⟨xs, ls, h1, h2, h3, h4⟩ := ih (by omega)
        obtain ⟨cs', hc, ht⟩ := hi k (by omega)
        obtain ⟨z, hz, hp⟩ := hE _ _ _ ht (hD k (by omega))
        obtain ⟨_, hcl, hat⟩ := World.cells?_some hc
        rw [hn] at hcl hat
        refine ⟨xs ++ cs', ls ++ [z], by simp [h1], h2.append (RowX.single hz), fun y hy => ?_, fun i u hu => ?_⟩
        · rcases List.mem_append.1 hy with hy | hy
          · exact h3 y hy
          · rw [List.mem_singleton] at hy; subst hy; exact hp
        · have hxl : xs.length = k * E.n := by rw [h2.1, h1]
          by_cases hlt : i < xs.length
          · rw [List.getElem?_append_left hlt] at hu
            exact h4 i u hu
          · rw [List.getElem?_append_right (by omega)] at hu
            have hj := (List.getElem?_eq_some_iff.1 hu).1
            have := hat (i - xs.length) (by omega)
            have e1 : (x.add (k * E.n)).add (i - xs.length) = x.add i := by
              rw [addr_add2, show k * E.n + (i - xs.length) = i by omega]
            rw [e1, hu] at this
            exact this
    obtain ⟨xs, ls, h1, h2, h3, h4⟩ := key len (Nat.le_refl _)
    subst h1
    refine ⟨some x, ls, cap, rfl, ?_, h3, hl, hm, fun h => by cases h⟩
    by_cases h0 : ls = []
    · exact .inl h0
    · have hpos : 0 < xs.length := by rw [h2.1]; exact Nat.mul_pos (List.length_pos_iff.2 h0) E.pos
      obtain ⟨b, off, spot⟩ := x
      have hc0 := h4 0 _ (List.getElem?_eq_getElem hpos)
      have hspot : spot = none := by simpa [Addr.add] using World.cell?_spot hc0
      subst hspot
      have e1 : ∀ i, (⟨b, off, none⟩ : Addr).add i = ⟨b, off + i, none⟩ := fun i => by
        unfold Addr.add
        split <;> simp_all
      refine .inr ⟨b, off, xs, rfl, ?_, h2, fun i u hu => by rw [← e1]; exact h4 i u hu⟩
      rw [e1] at hc0
      exact lt_of_cell hc0
end
end Go.Proofs.YtboalmmpcfiicaaDoor
