/- What the laws take of the program: its contracts, as one bundle. -/
import Derived.Test.YthjcnijageiaiaaSpa7
namespace Go.Proofs.Ythjcnijageiaiaa
open Go.RowKit Go.Shelf
set_option linter.unusedVariables false
set_option maxRecDepth 100000
set_option linter.unusedSimpArgs false

/-- a slice that reads as spans -/
def LsF (w : World) (A : Option Addr) (c : Nat) (l : List Sp) : Prop := RdX spE w (· < w.heap.size) A l ∧ l.length ≤ c ∧ c ≤ maxLen ∧ (A = none → l = [] ∧ c = 0)
theorem LsF.below {w w' : World} {A : Option Addr} {c : Nat} {l : List Sp} (h : LsF w A c l) (hb : Below w.heap.size w w') : LsF w' A c l := ⟨(h.1.below hb).mono fun k hk _ => hk, h.2⟩
theorem AppX.ls {w0 w : World} {v : Value} {l : List Sp} (h : AppX spE w0 v l w) : ∃ A c, v = .slice A l.length c ∧ LsF w A c l := by
  obtain ⟨A, c, h1, h2, h3, h4, h5⟩ := h.1.form
  exact ⟨A, c, h1, h2.mono fun k hk _ => hk, h3, h4, h5⟩
structure K12 : Prop where
  may : ∀ (l : List Sp) (A : Option Addr) (c : Nat) (w : World), l.length ≤ 10000000 → LsF w A c l → Calls Try.prog 13 #[.slice A l.length c] w fun e w' => e = .returned (.bool (mayS l)) ∧ Below w.heap.size w w'
  has : ∀ (l : List Sp) (x : Nat) (A : Option Addr) (c : Nat) (w : World), l.length ≤ 10000000 → x < 4294967296 → LsF w A c l → Calls Try.prog 15 #[.slice A l.length c, .int .u32 (x : Int)] w fun e w' => e = .returned (.bool (hasP l x)) ∧ Below w.heap.size w w'
  holds : ∀ (l : List Sp) (s : Sp) (A : Option Addr) (c : Nat) (w : World), l.length ≤ 10000000 → s.1 < 4294967296 ∧ s.2 < 4294967296 → LsF w A c l → Calls Try.prog 17 #[.slice A l.length c, .agg (spC s).toArray] w fun e w' => e = .returned (.bool (holdsP l s)) ∧ Below w.heap.size w w'
  len : ∀ (l : List Sp) (A : Option Addr) (c : Nat) (w : World), l.length ≤ 10000000 → LsF w A c l → Calls Try.prog 19 #[.slice A l.length c] w fun e w' => e = .returned (.int .u64 (lenP l : Int)) ∧ Below w.heap.size w w'
  pages : ∀ (s : Sp) (w : World), s.1 < 4294967296 ∧ s.2 < 4294967296 → Calls Try.prog 22 #[.agg (spC s).toArray] w fun e w' => GivesX ptE (pagesP s) w e w'
  add : ∀ (l : List Sp) (s : Sp) (A : Option Addr) (c : Nat) (w : World), l.length ≤ 10000000 → s.1 < 4294967296 ∧ s.2 < 4294967296 → LsF w A c l → Calls Try.prog 8 #[.slice A l.length c, .agg (spC s).toArray] w fun e w' => DidSp AddOf l s w e w'
  cut : ∀ (l : List Sp) (s : Sp) (A : Option Addr) (c : Nat) (w : World), l.length ≤ 10000000 → s.1 < 4294967296 ∧ s.2 < 4294967296 → LsF w A c l → Calls Try.prog 10 #[.slice A l.length c, .agg (spC s).toArray] w fun e w' => DidSp CutOf l s w e w'
/-- spans that are told, with no error -/
def GivesS (r : List Sp) (w : World) (e : Ending) (w' : World) : Prop := ∃ A c, e = .returned (.tuple #[.slice A r.length c, .int .i64 0]) ∧ LsF w' A c r ∧ AppX spE w (.slice A r.length c) r w'
theorem DidSp.is {P : List Sp → Sp → List Sp → Prop} (hP : ∀ {l s r q}, P l s r → P l s q → r = q) {l : List Sp} {s : Sp} {r : List Sp} {w w' : World} {e : Ending} (h : DidSp P l s w e w') (hm : mayS l = true) (hs : s.1 ≤ s.2) (hr : P l s r) : GivesS r w e w' := by
  rcases h with ⟨_, _, v, q, rfl, h1, _, h2⟩ | ⟨h, _⟩
  · obtain rfl := hP h1 hr
    obtain ⟨A, c, rfl, h3⟩ := h2.ls
    exact ⟨A, c, rfl, h3, h2⟩
  · exact absurd ⟨hm, hs⟩ h
theorem DidSp.no {P : List Sp → Sp → List Sp → Prop} {l : List Sp} {s : Sp} {w w' : World} {e : Ending} (h : DidSp P l s w e w') (hm : ¬ (mayS l = true ∧ s.1 ≤ s.2)) : e = .returned (.tuple #[.slice none 0 0, .int .i64 2]) ∧ Below w.heap.size w w' := by
  rcases h with ⟨h1, h2, _⟩ | ⟨_, h1, h2⟩
  · exact absurd ⟨h1, h2⟩ hm
  · exact ⟨h1, h2⟩
/-- spans that stand alone in a block -/
theorem Cs.ls1 {w : World} {g : Nat} {s : Sp} (h : Cs w g 25 (spC s).toArray) (hs : s.1 < 4294967296 ∧ s.2 < 4294967296) : LsF w (some ⟨g, 0, none⟩) 1 [s] :=
  ⟨.inr ⟨g, 0, spC s, rfl, h.lt, RowX.single (E := spE) ⟨rfl, hs⟩, fun i v hv => by rw [Nat.zero_add]; exact h.cell i (by simpa using hv)⟩, Nat.le_refl _, by decide, fun h => by cases h⟩
theorem Cs.ls2 {w : World} {g : Nat} {s t : Sp} (h : Cs w g 25 (spC s ++ spC t).toArray) (hs : s.1 < 4294967296 ∧ s.2 < 4294967296) (ht : t.1 < 4294967296 ∧ t.2 < 4294967296) : LsF w (some ⟨g, 0, none⟩) 2 [s, t] :=
  ⟨.inr ⟨g, 0, spC s ++ spC t, rfl, h.lt, (RowX.single (E := spE) ⟨rfl, hs⟩).append (RowX.single (E := spE) ⟨rfl, ht⟩), fun i v hv => by rw [Nat.zero_add]; exact h.cell i (by simpa using hv)⟩, Nat.le_refl _, by decide, fun h => by cases h⟩
theorem LsF.take1 {w : World} {A : Option Addr} {c : Nat} {s t : Sp} (h : LsF w A c [s, t]) : LsF w A c [s] := ⟨h.1.take 1, by have := h.2.1; simp at this ⊢; omega, h.2.2.1, fun e => by have := (h.2.2.2 e).1; cases this⟩
section
variable {w : World} {ops : Array Oper} {rest : List Oper} {o : Oper} {a : Act} {Q : Exit → Act → World → Prop}
theorem wpList_buildSpG (hw : Region.wanted o (yielded ops a.tmps) = true) (x : Operand) (ho : o.op = .buildSlice 22 1 #[(0, x)]) (s : Sp) (hx : a.eval x = .agg (spC s).toArray)
    (hK : ∀ g w', Cs w' g 25 (spC s).toArray → Below w.heap.size w w' → w.heap.size ≤ g → wpList Try.prog ops Q rest (a.put o.dst (.slice (some ⟨g, 0, none⟩) 1 1)) w') : wpList Try.prog ops Q (o :: rest) a w := by
  refine wpList_step fun K hh => ?_
  rw [if_pos hw]
  refine wp_of_run2 (v := .slice (some ⟨w.heap.size, 0, none⟩) 1 1) (w' := w.alloc (.cells (spC s).toArray 25)) ?_ (hh _ _ (hK _ _ (Cs.new _ _ _) ((Below.refl _ _).alloc (Nat.le_refl _) _) (Nat.le_refl _)))
  unfold execOp
  simp only [ho, hx, List.map_toArray, List.map_cons, List.map_nil, spC]
  go_simp
theorem wpList_buildSp2 (hw : Region.wanted o (yielded ops a.tmps) = true) (x y : Operand) (ho : o.op = .buildSlice 22 2 #[(0, x), (1, y)]) (s t : Sp) (hx : a.eval x = .agg (spC s).toArray) (hy : a.eval y = .agg (spC t).toArray)
    (hK : ∀ g w', Cs w' g 25 (spC s ++ spC t).toArray → Below w.heap.size w w' → w.heap.size ≤ g → wpList Try.prog ops Q rest (a.put o.dst (.slice (some ⟨g, 0, none⟩) 2 2)) w') : wpList Try.prog ops Q (o :: rest) a w := by
  refine wpList_step fun K hh => ?_
  rw [if_pos hw]
  refine wp_of_run2 (v := .slice (some ⟨w.heap.size, 0, none⟩) 2 2) (w' := w.alloc (.cells (spC s ++ spC t).toArray 25)) ?_ (hh _ _ (hK _ _ (Cs.new _ _ _) ((Below.refl _ _).alloc (Nat.le_refl _) _) (Nat.le_refl _)))
  unfold execOp
  simp only [ho, hx, hy, List.map_toArray, List.map_cons, List.map_nil, spC]
  go_simp
theorem wpList_buildPt2 (hw : Region.wanted o (yielded ops a.tmps) = true) (x y : Operand) (ho : o.op = .buildSlice 37 2 #[(0, x), (1, y)]) (m n : Nat) (hx : a.eval x = .int .u32 (m : Int)) (hy : a.eval y = .int .u32 (n : Int))
    (hK : ∀ g w', Cs w' g 23 #[.int .u32 (m : Int), .int .u32 (n : Int)] → Below w.heap.size w w' → w.heap.size ≤ g → wpList Try.prog ops Q rest (a.put o.dst (.slice (some ⟨g, 0, none⟩) 2 2)) w') : wpList Try.prog ops Q (o :: rest) a w := by
  refine wpList_step fun K hh => ?_
  rw [if_pos hw]
  refine wp_of_run2 (v := .slice (some ⟨w.heap.size, 0, none⟩) 2 2) (w' := w.alloc (.cells #[.int .u32 (m : Int), .int .u32 (n : Int)] 23)) ?_ (hh _ _ (hK _ _ (Cs.new _ _ _) ((Below.refl _ _).alloc (Nat.le_refl _) _) (Nat.le_refl _)))
  unfold execOp
  simp only [ho, hx, hy, List.map_toArray, List.map_cons, List.map_nil]
  go_simp
end
theorem Cs.pt2 {w : World} {g m n : Nat} (h : Cs w g 23 #[.int .u32 (m : Int), .int .u32 (n : Int)]) (hm : m < 4294967296) (hn : n < 4294967296) : RdX ptE w (· < w.heap.size) (some ⟨g, 0, none⟩) [m, n] :=
  .inr ⟨g, 0, [.int .u32 (m : Int), .int .u32 (n : Int)], rfl, h.lt, (RowX.single (E := ptE) ⟨rfl, hm⟩).append (RowX.single (E := ptE) ⟨rfl, hn⟩), fun i v hv => by rw [Nat.zero_add]; exact h.cell i (by simpa using hv)⟩
theorem two_v (w : World) : Calls Try.prog 24 #[] w fun e w' => ∃ g, e = .returned (.slice (some ⟨g, 0, none⟩) 2 2) ∧ LsF w' (some ⟨g, 0, none⟩) 2 [(0, 4), (8, 9)] ∧ Below w.heap.size w w' := by
  go_enter Try.func24, Try.ntmps24
  go_wp2_with (first
    | ((with_reducible show wpList _ _ _ _ _ w); refine wpList_buildSp2 (by rfl) _ _ rfl (0, 4) (8, 9) rfl rfl ?_; intro g1 w1 hk1 hb1 hg1; go_frame; have C1 := Lib.hid hk1; have B1 := Lib.hid hb1; clear hk1 hb1 hg1)
    | fail)
  go_ret
  exact ⟨_, rfl, C1.out.ls2 ⟨by decide, by decide⟩ ⟨by decide, by decide⟩, B1.out⟩
theorem ex_add : AddOf [(0, 4), (8, 9)] (4, 8) [(0, 9)] := ⟨rfl, fun x => by
  rw [Bool.eq_iff_iff]
  simp [memS, inS]
  omega⟩
theorem ex_cut : CutOf [(0, 9)] (3, 5) [(0, 3), (5, 9)] := ⟨rfl, fun x => by
  rw [Bool.eq_iff_iff]
  simp [memS, inS]
  omega⟩

end Go.Proofs.Ythjcnijageiaiaa
