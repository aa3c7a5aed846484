/- The reference: which calls are the same; what changes something. -/
import Derived.Test.YthfaemcpheecfaaDoorCal3
namespace Go.Proofs.YthfaemcpheecfaaDoor
open Go.RowKit Go.Shelf
set_option linter.unusedVariables false
set_option maxRecDepth 100000
set_option linter.unusedSimpArgs false

theorem SameQ (p q : List UInt8) (A B : Option Addr) (c d : Nat) (w : World) (hp : Rd w A p) (hq : Rd w B q) : Calls Tryd.prog 13 #[.slice A p.length c, .slice B q.length d] w fun e w' => e = .returned (.bool (p == q)) ∧ w = w' := Same_any A B p q c d w hp hq
set_option maxHeartbeats 16000000 in
theorem SameR_v {F G : Nat → Prop} {a b : CallX} {u v : Value} {w : World} (ha : CalV w F a u) (hb : CalV w G b v) : Calls Tryd.prog 14 #[.agg (calCells a u).toArray, .agg (calCells b v).toArray] w fun e w' => e = .returned (.bool (sameX a b)) ∧ Below w.heap.size w w' := by
  obtain ⟨A, ca, rfl, -⟩ := id ha.1
  obtain ⟨B, cb, rfl, -⟩ := id hb.1
  have HE := Lib.hid fun W (h : Below w.heap.size w W) => SameQ a.data b.data A B ca cb W (ha.1.rdC.below h) (hb.1.rdC.below h)
  rw [same_int]
  clear ha hb
  obtain ⟨a1, a2, a3, a4, a5, a6, a7, a8, a9, a10, a11, a12, a13⟩ := a
  obtain ⟨b1, b2, b3, b4, b5, b6, b7, b8, b9, b10, b11, b12, b13⟩ := b
  unfold calCells at *
  dsimp only at *
  generalize (a13 == b13) = e13 at *
  generalize a13.length = n13 at *
  generalize b13.length = m13 at *
  go_enter Tryd.func14, Tryd.ntmps14
  go_wp2_with fail
  all_goals first
    | (refine (HE.out _ (below_chain (below_new1 w _) (below_new1 _ _))).mono ?_
       rintro e w3 ⟨rfl, rfl⟩
       go_wp2_with fail
       go_ret
       exact ⟨by simp_all, below_chain (below_new1 w _) (below_new1 _ _)⟩)
    | (go_ret
       exact ⟨by simp_all, below_chain (below_new1 w _) (below_new1 _ _)⟩)
set_option maxHeartbeats 4000000 in
theorem ChangesR (k : Nat) (hk : k < 256) (w : World) : Calls Tryd.prog 17 #[.int .u8 (k : Int)] w fun e w' => e = .returned (.bool (changesX k)) ∧ w = w' := by
  have h1 : (k == 2) = ((k : Int) == 2) := nat_eq k 2
  have h2 : decide (5 ≤ k) = decide (5 ≤ (k : Int)) := nat_le 5 k
  have h3 : decide (k ≤ 11) = decide ((k : Int) ≤ 11) := nat_le k 11
  unfold changesX
  rw [h1, h2, h3]
  clear h1 h2 h3
  by_cases p1 : k = 2
  · subst p1
    go_enter Tryd.func17, Tryd.ntmps17
    go_wp2_with fail
    go_ret
    exact ⟨rfl, rfl⟩
  · have q1 : ((k : Int) == 2) = false := by rw [beq_eq_false_iff_ne]; omega
    rw [q1]
    by_cases p2 : 5 ≤ k
    · have q2 : decide (5 ≤ (k : Int)) = true := decide_eq_true (by omega)
      rw [q2]
      go_enter Tryd.func17, Tryd.ntmps17
      go_wp2_with fail
      go_ret
      exact ⟨by simp, rfl⟩
    · have q2 : decide (5 ≤ (k : Int)) = false := decide_eq_false (by omega)
      rw [q2]
      go_enter Tryd.func17, Tryd.ntmps17
      go_wp2_with fail
      go_ret
      exact ⟨by simp, rfl⟩

end Go.Proofs.YthfaemcpheecfaaDoor
