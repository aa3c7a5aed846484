/- A thing as a variable of its own. -/
import Derived.Test.YtafafffheabjjaaXdArgs
import Derived.Test.YtafafffheabjjaaXdLives
import Derived.Test.YtafafffheabjjaaXdQ1
namespace Go.Proofs.Ytafafffheabjjaa
open Go.RowKit Go.Shelf Go.ChangeShapes Go.WideShapes Go.ChangeAt Go.Deep
set_option linter.unusedVariables false
set_option maxRecDepth 100000
set_option linter.unusedSimpArgs false

def thZero : List Value := [.int .u8 0, .int .u64 0, .bool false, .slice none 0 0, .int .i64 0]
theorem zeroTh (w : World) : (zeroValue 29).run Try.prog w = .ok (.agg thZero.toArray) w := by kernel_rfl
theorem infoTh : (Try.prog.info? 29).map (·.size) = some 5 := by kernel_rfl
theorem thOne {a b c d e : Value} {l : List Value} (h : l = [a, b, c, d, e]) (ha : a.oneCell' = true := by rfl) (hb : b.oneCell' = true := by rfl) (hc : c.oneCell' = true := by rfl) (hd : d.oneCell' = true := by rfl) (he : e.oneCell' = true := by rfl) : ∀ v ∈ l, v.oneCell' = true := by
  subst h
  intro v hv
  simp at hv
  rcases hv with rfl | rfl | rfl | rfl | rfl <;> assumption
theorem wrap32' (n : Nat) : IntKind.u32.wrap (n : Int) = ((n % 4294967296 : Nat) : Int) := by
  rw [IntKind.wrap_u32]
  omega
theorem BsV.rdh {w : World} {F : Nat → Prop} {A : Option Addr} {n c : Nat} {l : List UInt8} (h : BsV w F (.slice A n c) l) : Rd w A l := by
  obtain ⟨A', c', e, h1, _⟩ := h
  cases e
  exact h1.rd
section
variable {H : Type} {enc : TypeId × Value → H} {W : World} {fuel : Nat}
theorem open_list_bulk {α : Type} {E : Elem α} (N : Nat) (Pr : α → Prop) (hE : ∀ fuel cs x, DataW.trod enc Try.prog W 0 (fun _ => true) true fuel E.ety cs = some x → Rows.uptoBulk x.1 ≤ N → ∃ z, E.rd W (· < W.heap.size) cs z ∧ Pr z) (hn : Try.prog.cellsOf E.ety = E.n)
    {base : Nat} {v : Value} {d : DataW H} {p : List MemPlace} (hv : Value.okWide Try.prog W .any base E.sty v) (h : DataW.Trod enc Try.prog W 0 (fun _ => true) true E.sty v d p) (hz : Rows.uptoBulk d ≤ N) :
    ∃ A l c, v = .slice A l.length c ∧ RdX E W (· < W.heap.size) A l ∧ (∀ x ∈ l, Pr x) ∧ l.length ≤ c ∧ c ≤ maxLen ∧ (A = none → l = [] ∧ c = 0) := by
  obtain ⟨A, len, cap, rfl⟩ := okWide_slice E.und hv
  obtain ⟨fuel, hf⟩ := h
  rcases open_slice E.und hf with ⟨hcs, hx⟩ | ⟨x, len', cap', m, n, D, Pl, hcs, _, hl, hm, hmm, hx, hi⟩
  · simp [Value.cells] at hcs
    obtain ⟨rfl, rfl, rfl⟩ := hcs
    exact ⟨none, [], 0, rfl, .inl rfl, by simp, Nat.le_refl _, Nat.zero_le _, fun _ => ⟨rfl, rfl⟩⟩
  · simp [Value.cells] at hcs
    obtain ⟨rfl, rfl, rfl⟩ := hcs
    have hmle : len ≤ m := by rw [hmm]; split <;> omega
    have hD : ∀ k, k < len → Rows.uptoBulk (D k) ≤ N := fun k hk => by
      have e : d = .slice ((List.range len).map D) ((List.range (m - len)).map fun j => D (len + j)) := congrArg Prod.fst hx
      have h1 := bulk_mem (d := D k) (List.mem_map_of_mem (List.mem_range.2 hk))
      rw [e] at hz
      simp only [Rows.uptoBulk] at hz
      omega
    have key : ∀ k, k ≤ len → ∃ (xs : List Value) (ls : List α), ls.length = k ∧ RowX E W (· < W.heap.size) xs ls ∧ (∀ z ∈ ls, Pr z) ∧ ∀ i u, xs[i]? = some u → W.cell? (x.add i) = some u := by
      intro k
      induction k with
      | zero => exact fun _ => ⟨[], [], rfl, RowX.nil _ _, by simp, fun i u h => by simp at h⟩
      | succ k ih =>
        intro hk
        obtain ⟨xs, ls, h1, h2, h3, h4⟩ := ih (by omega)
        obtain ⟨cs', hc, ht⟩ := hi k (by omega)
        obtain ⟨z, hz, hp⟩ := hE _ _ _ ht (hD k (by omega))
        obtain ⟨_, hcl, hat⟩ := World.cells?_some hc
        rw [hn] at hcl hat
        refine ⟨xs ++ cs', ls ++ [z], by simp [h1], h2.append (RowX.single hz), fun y hy => ?_, fun i u hu => ?_⟩
        · rcases List.mem_append.1 hy with hy | hy
          · exact h3 y hy
          · rw [List.mem_singleton] at hy; subst hy; exact hp
        · have hxl : xs.length = k * E.n := by rw [h2.1, h1]
          by_cases hlt : i < xs.length
          · rw [List.getElem?_append_left hlt] at hu
            exact h4 i u hu
          · rw [List.getElem?_append_right (by omega)] at hu
            have hj := (List.getElem?_eq_some_iff.1 hu).1
            have := hat (i - xs.length) (by omega)
            have e1 : (x.add (k * E.n)).add (i - xs.length) = x.add i := by
              rw [addr_add2, show k * E.n + (i - xs.length) = i by omega]
            rw [e1, hu] at this
            exact this
    obtain ⟨xs, ls, h1, h2, h3, h4⟩ := key len (Nat.le_refl _)
    subst h1
    refine ⟨some x, ls, cap, rfl, ?_, h3, hl, hm, fun h => by cases h⟩
    by_cases h0 : ls = []
    · exact .inl h0
    · have hpos : 0 < xs.length := by rw [h2.1]; exact Nat.mul_pos (List.length_pos_iff.2 h0) E.pos
      obtain ⟨b, off, spot⟩ := x
      have hc0 := h4 0 _ (List.getElem?_eq_getElem hpos)
      have hspot : spot = none := by simpa [Addr.add] using World.cell?_spot hc0
      subst hspot
      have e1 : ∀ i, (⟨b, off, none⟩ : Addr).add i = ⟨b, off + i, none⟩ := fun i => by
        unfold Addr.add
        split <;> simp_all
      refine .inr ⟨b, off, xs, rfl, ?_, h2, fun i u hu => by rw [← e1]; exact h4 i u hu⟩
      rw [e1] at hc0
      exact lt_of_cell hc0
/-- a list of things, each no longer than all -/
theorem open_things_bulk {base : Nat} {v : Value} {d : DataW H} {p : List MemPlace} {N : Nat} (hz : Rows.uptoBulk d ≤ N) (hv : Value.okWide Try.prog W .any base 22 v) (h : DataW.Trod enc Try.prog W 0 (fun _ => true) true 22 v d p) :
    ∃ A l c, v = .slice A l.length c ∧ RdX thingE W (· < W.heap.size) A l ∧ (∀ z ∈ l, z.b.length ≤ N) ∧ l.length ≤ c ∧ c ≤ maxLen ∧ (A = none → l = [] ∧ c = 0) :=
  open_list_bulk (E := thingE) N (fun z => z.b.length ≤ N) (fun _ _ _ h hN => by
    obtain ⟨z, v, n, y0, y1, y2, y3, y4, hz, -, hb, hx, h3⟩ := trod_thing h
    refine ⟨z, hz, ?_⟩
    have h1 := trod_bytesV_bulk h3 v z.b rfl hb
    rw [hx] at hN
    simp only [Rows.uptoBulk, Rows.uptoBulkAll] at hN
    omega) (by kernel_rfl) hv h hz
end

end Go.Proofs.Ytafafffheabjjaa
