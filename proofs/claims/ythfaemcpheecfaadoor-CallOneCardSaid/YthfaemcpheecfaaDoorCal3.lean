/- Which calls are the same; what changes something. -/
import Derived.Test.YthfaemcpheecfaaDoorCal2
namespace Go.Proofs.YthfaemcpheecfaaDoor
open Go.RowKit Go.Shelf
set_option linter.unusedVariables false
set_option maxRecDepth 100000
set_option linter.unusedSimpArgs false

theorem wpSkip {P : Program} {w : World} {ops : Array Oper} {rest : List Oper} {o : Oper} {a : Act} {Q : Exit → Act → World → Prop} (hw : Region.wanted o (yielded ops a.tmps) = false) (h : wpList P ops Q rest (a.put o.dst undef) w) : wpList P ops Q (o :: rest) a w :=
  wpList_step fun K hK => by
    rw [if_neg (by rw [hw]; decide)]
    exact hK _ _ h
theorem sv_eqC (p q : List UInt8) : ((⟨p.toArray⟩ : ByteArray).toList == (⟨q.toArray⟩ : ByteArray).toList) = (p == q) := by
  rw [toL, toL]
theorem EqualC (p q : List UInt8) (A B : Option Addr) (c d : Nat) (w : World) (hp : Rd w A p) (hq : Rd w B q) :
    Calls Tryd.prog 39 #[.slice A p.length c, .slice B q.length d] w fun e w' => e = .returned (.bool (p == q)) ∧ w = w' := by
  have h1 := conv_rd hp c
  have h2 := conv_rd hq d
  have h3 := sv_eqC p q
  clear hp hq
  go_enter Tryd.func39, Tryd.ntmps39
  go_wp2_with fail
  go_ret
  exact ⟨by first | rfl | rw [h3], rfl⟩
theorem BsV.rdC {w : World} {F : Nat → Prop} {A : Option Addr} {n c : Nat} {l : List UInt8} (h : BsV w F (.slice A n c) l) : Rd w A l := by
  obtain ⟨A', c', e, h1, _⟩ := h
  cases e
  exact h1.rd
theorem same_int (a b : CallX) : sameX a b = ((((((((((((a.client : Int) == (b.client : Int)) && ((a.inc : Int) == (b.inc : Int))) && ((a.seq : Int) == (b.seq : Int))) && ((a.kind : Int) == (b.kind : Int))) && (((a.ino : Int) == (b.ino : Int)) && ((a.gen : Int) == (b.gen : Int)))) && (a.name.toList == b.name.toList)) && (((a.tino : Int) == (b.tino : Int)) && ((a.tgen : Int) == (b.tgen : Int)))) && (a.toname.toList == b.toname.toList)) && ((a.off : Int) == (b.off : Int))) && ((a.size : Int) == (b.size : Int))) && (a.data == b.data)) := by
  unfold sameX
  rw [nat_eq a.client, nat_eq a.inc, nat_eq a.seq, nat_eq a.kind, nat_eq a.ino, nat_eq a.gen, nat_eq a.tino, nat_eq a.tgen, nat_eq a.off, nat_eq a.size, toL, toL, toL, toL]
theorem Cs.cal {w : World} {g : Nat} {c : CallX} {v : Value} (h : Cs w g 28 (calCells c v).toArray) : w.cell? ⟨g, 0, none⟩ = some (.int .u8 (c.client : Int)) ∧ w.cell? ⟨g, 1, none⟩ = some (.int .u32 (c.inc : Int)) ∧ w.cell? ⟨g, 2, none⟩ = some (.int .u64 (c.seq : Int)) ∧ w.cell? ⟨g, 3, none⟩ = some (.int .u8 (c.kind : Int)) ∧ w.cell? ⟨g, 4, none⟩ = some (.int .u32 (c.ino : Int)) ∧ w.cell? ⟨g, 5, none⟩ = some (.int .u32 (c.gen : Int)) ∧ w.cell? ⟨g, 6, none⟩ = some (.string c.name) ∧ w.cell? ⟨g, 7, none⟩ = some (.int .u32 (c.tino : Int)) ∧ w.cell? ⟨g, 8, none⟩ = some (.int .u32 (c.tgen : Int)) ∧ w.cell? ⟨g, 9, none⟩ = some (.string c.toname) ∧ w.cell? ⟨g, 10, none⟩ = some (.int .u32 (c.off : Int)) ∧ w.cell? ⟨g, 11, none⟩ = some (.int .u32 (c.size : Int)) ∧ w.cell? ⟨g, 12, none⟩ = some v :=
  ⟨h.cell 0 rfl, h.cell 1 rfl, h.cell 2 rfl, h.cell 3 rfl, h.cell 4 rfl, h.cell 5 rfl, h.cell 6 rfl, h.cell 7 rfl, h.cell 8 rfl, h.cell 9 rfl, h.cell 10 rfl, h.cell 11 rfl, h.cell 12 rfl⟩
theorem cal_one {c : CallX} {v : Value} (hv : v.oneCell' = true) : ∀ u ∈ calCells c v, u.oneCell' = true := by
  intro u hu
  simp only [calCells, List.mem_cons, List.not_mem_nil, or_false] at hu
  rcases hu with rfl | rfl | rfl | rfl | rfl | rfl | rfl | rfl | rfl | rfl | rfl | rfl | rfl
  all_goals first | rfl | exact hv
set_option maxHeartbeats 16000000 in
theorem Same_v {F G : Nat → Prop} {a b : CallX} {u v : Value} {w : World} (ha : CalV w F a u) (hb : CalV w G b v) : Calls Tryd.prog 15 #[.agg (calCells a u).toArray, .agg (calCells b v).toArray] w fun e w' => e = .returned (.bool (sameX a b)) ∧ Below w.heap.size w w' := by
  obtain ⟨A, ca, rfl, -⟩ := id ha.1
  obtain ⟨B, cb, rfl, -⟩ := id hb.1
  have HE := Lib.hid fun W (h : Below w.heap.size w W) => EqualC a.data b.data A B ca cb W (ha.1.rdC.below h) (hb.1.rdC.below h)
  rw [same_int]
  clear ha hb
  obtain ⟨a1, a2, a3, a4, a5, a6, a7, a8, a9, a10, a11, a12, a13⟩ := a
  obtain ⟨b1, b2, b3, b4, b5, b6, b7, b8, b9, b10, b11, b12, b13⟩ := b
  unfold calCells at *
  dsimp only at *
  generalize (a13 == b13) = e13 at *
  generalize a13.length = n13 at *
  generalize b13.length = m13 at *
  go_enter Tryd.func15, Tryd.ntmps15
  go_wp2_with fail
  all_goals first
    | (refine (HE.out _ (below_chain (below_new1 w _) (below_new1 _ _))).mono ?_
       rintro e w3 ⟨rfl, rfl⟩
       go_wp2_with fail
       go_ret
       exact ⟨by simp_all, below_chain (below_new1 w _) (below_new1 _ _)⟩)
    | (go_ret
       exact ⟨by simp_all, below_chain (below_new1 w _) (below_new1 _ _)⟩)
set_option maxHeartbeats 4000000 in
theorem Changes_v (k : Nat) (hk : k < 256) (w : World) : Calls Tryd.prog 16 #[.int .u8 (k : Int)] w fun e w' => e = .returned (.bool (changesX k)) ∧ w = w' := by
  by_cases h : kindX k = true
  · rcases kind_cases k h with rfl | rfl | rfl | rfl | rfl | rfl | rfl | rfl | rfl | rfl | rfl | rfl
    all_goals
      clear h hk
      go_enter Tryd.func16, Tryd.ntmps16
      go_wp2_with fail
      go_ret
      exact ⟨rfl, rfl⟩
  · have h := Bool.not_eq_true _ ▸ h
    have hc : changesX k = false := by
      have a := kind_no k h 2 (by decide) (by decide)
      have b := of_decide_eq_false h
      unfold changesX
      rw [beq_false_of_ne a, Bool.false_or, Bool.and_eq_false_iff, decide_eq_false_iff_not, decide_eq_false_iff_not]
      omega
    rw [hc]
    have e2 := kind_ne k h 2 (by decide) (by decide)
    have e5 := kind_ne k h 5 (by decide) (by decide)
    have e6 := kind_ne k h 6 (by decide) (by decide)
    have e7 := kind_ne k h 7 (by decide) (by decide)
    have e8 := kind_ne k h 8 (by decide) (by decide)
    have e9 := kind_ne k h 9 (by decide) (by decide)
    have e10 := kind_ne k h 10 (by decide) (by decide)
    have e11 := kind_ne k h 11 (by decide) (by decide)
    clear h hc hk
    go_enter Tryd.func16, Tryd.ntmps16
    go_wp2_with fail
    go_ret
    exact ⟨rfl, rfl⟩

end Go.Proofs.YthfaemcpheecfaaDoor
