/- Layer 9's laws: things among the arguments. -/
import Derived.Lib.SmallJoins
import Derived.Test.YtafafffheabjjaaTblK
import Derived.Test.YtafafffheabjjaaTblSized
namespace Go.Proofs.Ytafafffheabjjaa
open Go.RowKit Go.Shelf Go.ChangeShapes Go.WideShapes Go.ChangeAt Go.Deep
set_option linter.unusedVariables false
set_option maxRecDepth 100000
set_option linter.unusedSimpArgs false

/-- a thing: what it is, a number, a truth, bytes, how many at most -/
structure Th where
  what : Nat
  n : Nat
  is : Bool
  b : List UInt8
  most : Int
def thCells (x : Th) (v : Value) : List Value := [.int .u8 (x.what : Int), .int .u64 (x.n : Int), .bool x.is, v, .int .i64 x.most]
def thOk (x : Th) : Prop := x.what < 256 ∧ x.n < 18446744073709551616 ∧ -9223372036854775808 ≤ x.most ∧ x.most ≤ 9223372036854775807
def thingE : Elem Th where
  ety := 29
  sty := 22
  n := 5
  bytes := 56
  rd w F cs x := ∃ v, cs = thCells x v ∧ BsV w F v x.b ∧ thOk x
  und := Try.underlying22
  info := ⟨_, _, rfl, rfl, rfl, rfl, rfl⟩
  pos := by decide
  byt := by decide
  len := by rintro w F cs x ⟨v, rfl, _⟩; rfl
  one := by
    rintro w F cs x ⟨v, rfl, h, _⟩ u hu
    simp [thCells] at hu
    rcases hu with rfl | rfl | rfl | rfl | rfl
    · rfl
    · rfl
    · rfl
    · exact h.one
    · rfl
  turn := by rintro w w' F G cs x ⟨v, h, hv, ho⟩ ht hG; exact ⟨v, h, hv.turn ht hG, ho⟩
  mono := by rintro w F G cs x ⟨v, h, hv, ho⟩ hF; exact ⟨v, h, hv.mono hF, ho⟩
section
variable {H : Type} {enc : TypeId × Value → H} {W : World} {fuel : Nat}
theorem u8_wf {x : Int} (h : (Lit.int .u8 x).wf = true) : 0 ≤ x ∧ x < 256 := by
  simp [Lit.wf, IntKind.min, IntKind.max, IntKind.signed, IntKind.bits] at h
  exact ⟨by omega, by omega⟩
theorem u64_wf {x : Int} (h : (Lit.int .u64 x).wf = true) : 0 ≤ x ∧ x < 18446744073709551616 := by
  simp [Lit.wf, IntKind.min, IntKind.max, IntKind.signed, IntKind.bits] at h
  exact ⟨by omega, by omega⟩
theorem i64_wf {x : Int} (h : (Lit.int .i64 x).wf = true) : -9223372036854775808 ≤ x ∧ x ≤ 9223372036854775807 := by
  simp [Lit.wf, IntKind.min, IntKind.max, IntKind.signed, IntKind.bits] at h
  exact ⟨by omega, by omega⟩
/-- a thing's fields, read one by one -/
theorem th_mk {v0 v1 v2 v3 v4 : Value} {y0 y1 y2 y3 y4 : DataW H × List MemPlace} {n : Nat} (f0 : DataW.trod enc Try.prog W 0 (fun _ => true) true n 5 [v0] = some y0) (f1 : DataW.trod enc Try.prog W 0 (fun _ => true) true n 27 [v1] = some y1) (f2 : DataW.trod enc Try.prog W 0 (fun _ => true) true n 4 [v2] = some y2)
    (f3 : DataW.trod enc Try.prog W 0 (fun _ => true) true n 24 [v3] = some y3) (f4 : DataW.trod enc Try.prog W 0 (fun _ => true) true n 3 [v4] = some y4) : ∃ z : Th, [v0, v1, v2, v3, v4] = thCells z v3 ∧ BsV W (· < W.heap.size) v3 z.b ∧ thOk z := by
  obtain ⟨a0, e0, _, w0⟩ := DataW.trod_int Try.underlying5 f0
  obtain ⟨a1, e1, _, w1⟩ := DataW.trod_int Try.underlying27 f1
  obtain ⟨b, e2, _⟩ := DataW.trod_bool Try.underlying4 f2
  obtain ⟨v, l, e3, hv⟩ := trod_bytesV f3
  obtain ⟨a4, e4, _, w4⟩ := DataW.trod_int Try.underlying3 f4
  simp at e0 e1 e2 e3 e4
  subst e0 e1 e2 e3 e4
  obtain ⟨x0, rfl⟩ := Int.eq_ofNat_of_zero_le (u8_wf w0).1
  obtain ⟨x1, rfl⟩ := Int.eq_ofNat_of_zero_le (u64_wf w1).1
  have h0 := (u8_wf w0).2
  have h1 := (u64_wf w1).2
  exact ⟨⟨x0, x1, b, l, a4⟩, rfl, hv, by show x0 < 256; omega, by show x1 < 18446744073709551616; omega, i64_wf w4⟩
/-- a thing's datum, and its bytes' datum -/
theorem trod_thing {cs : List Value} {x : DataW H × List MemPlace} (h : DataW.trod enc Try.prog W 0 (fun _ => true) true fuel 29 cs = some x) : ∃ (z : Th) (v : Value) (n : Nat) (y0 y1 y2 y3 y4 : DataW H × List MemPlace), thingE.rd W (· < W.heap.size) cs z ∧ cs = thCells z v ∧ BsV W (· < W.heap.size) v z.b ∧ x.1 = .agg [y0.1, y1.1, y2.1, y3.1, y4.1] ∧ DataW.trod enc Try.prog W 0 (fun _ => true) true n 24 [v] = some y3 := by
  obtain ⟨xs, n, _, hx, hl, hlen, hf⟩ := DataW.trod_struct Try.underlying29 h
  have hc : Try.prog.cellsOf 29 = 5 := by kernel_rfl
  have k0 : Try.prog.cellsOf 5 = 1 := by kernel_rfl
  have k1 : Try.prog.cellsOf 27 = 1 := by kernel_rfl
  have k2 : Try.prog.cellsOf 4 = 1 := by kernel_rfl
  have k3 : Try.prog.cellsOf 24 = 1 := by kernel_rfl
  have k4 : Try.prog.cellsOf 3 = 1 := by kernel_rfl
  rw [hc] at hl
  match cs, hl, xs, hlen with
  | [c0, c1, c2, c3, c4], _, [y0, y1, y2, y3, y4], _ =>
    have f0 : DataW.trod enc Try.prog W 0 (fun _ => true) true n 5 (([c0, c1, c2, c3, c4].drop 0).take (Try.prog.cellsOf 5)) = some y0 := hf 0 _ rfl
    have f1 : DataW.trod enc Try.prog W 0 (fun _ => true) true n 27 (([c0, c1, c2, c3, c4].drop 1).take (Try.prog.cellsOf 27)) = some y1 := hf 1 _ rfl
    have f2 : DataW.trod enc Try.prog W 0 (fun _ => true) true n 4 (([c0, c1, c2, c3, c4].drop 2).take (Try.prog.cellsOf 4)) = some y2 := hf 2 _ rfl
    have f3 : DataW.trod enc Try.prog W 0 (fun _ => true) true n 24 (([c0, c1, c2, c3, c4].drop 3).take (Try.prog.cellsOf 24)) = some y3 := hf 3 _ rfl
    have f4 : DataW.trod enc Try.prog W 0 (fun _ => true) true n 3 (([c0, c1, c2, c3, c4].drop 4).take (Try.prog.cellsOf 3)) = some y4 := hf 4 _ rfl
    rw [k0] at f0
    rw [k1] at f1
    rw [k2] at f2
    rw [k3] at f3
    rw [k4] at f4
    obtain ⟨z, hz, hv, ho⟩ := th_mk f0 f1 f2 f3 f4
    exact ⟨z, c3, n, y0, y1, y2, y3, y4, ⟨c3, hz, hv, ho⟩, hz, hv, by rw [hx]; simp, f3⟩
theorem bulk_len : ∀ q : List (DataW H), q.length ≤ Rows.uptoBulkAll q := by
  intro q
  induction q with
  | nil => simp [Rows.uptoBulkAll]
  | cons x r ih =>
    have h1 : 1 ≤ Rows.uptoBulk x := by
      cases x with
      | lit y => cases y <;> simp [Rows.uptoBulk]
      | _ => simp [Rows.uptoBulk]
    simp only [Rows.uptoBulkAll, List.length_cons]
    omega
theorem bulk_mem : ∀ {q : List (DataW H)} {d : DataW H}, d ∈ q → Rows.uptoBulk d ≤ Rows.uptoBulkAll q
  | x :: r, d, h => by
    simp only [Rows.uptoBulkAll]
    rcases List.mem_cons.1 h with rfl | h
    · omega
    · have := bulk_mem h; omega
theorem trod_bytesV_bulk {cs : List Value} {x : DataW H × List MemPlace} (h : DataW.trod enc Try.prog W 0 (fun _ => true) true fuel 24 cs = some x) : ∀ v l, cs = [v] → BsV W (· < W.heap.size) v l → l.length ≤ Rows.uptoBulk x.1 := by
  intro v l hv hb
  obtain ⟨A, c, rfl, h1, h2, h3, h4⟩ := hb
  rcases open_ints Try.underlying24 Try.underlying5 (by kernel_rfl) h with ⟨hcs, _⟩ | ⟨a, len, cap, zs, hcs, _, hl, hm, hzs, rfl, _, _⟩
  · rw [hcs] at hv
    simp at hv
    omega
  · rw [hcs] at hv
    simp at hv
    have hzs' : zs.length = cap := by simpa using hzs
    simp only [Rows.uptoBulk]
    have := bulk_len (H := H) (lits (H := H) .u8 (zs.take len))
    simp [lits] at this ⊢
    omega
/-- a list of things, each no longer than all -/
theorem open_things {base : Nat} {v : Value} {d : DataW H} {p : List MemPlace} (hv : Value.okWide Try.prog W .any base 22 v) (h : DataW.Trod enc Try.prog W 0 (fun _ => true) true 22 v d p) :
    ∃ A l c, v = .slice A l.length c ∧ RdX thingE W (· < W.heap.size) A l ∧ l.length ≤ c ∧ c ≤ maxLen ∧ (A = none → l = [] ∧ c = 0) := by
  obtain ⟨A, l, c, h1, h2, -, h3⟩ := open_list (E := thingE) (fun _ => True) (fun _ _ _ h => by obtain ⟨z, v, n, _, _, _, _, _, hz, _⟩ := trod_thing h; exact ⟨z, hz, trivial⟩) (by kernel_rfl) hv h
  exact ⟨A, l, c, h1, h2, h3⟩
end

end Go.Proofs.Ytafafffheabjjaa
