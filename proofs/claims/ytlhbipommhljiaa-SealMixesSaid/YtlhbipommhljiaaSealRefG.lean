/- The document's answer for layer 5: Greatest. -/
import Derived.Test.YtlhbipommhljiaaSealRef2
namespace Go.Proofs.Ytlhbipommhljiaa
open Go.RowKit Go.Shelf
set_option linter.unusedVariables false
set_option linter.unusedSimpArgs false

theorem run_max4 {P : Program} (w : World) (ts : Array TypeId) (t : TypeId) (k : IntKind) (a b c d : Int) : (Builtin.max_ ts t #[.int k a, .int k b, .int k c, .int k d]).run P w = .ok (.int k (max (max (max a b) c) d)) w := by
  have two : ∀ x y : Int, Builtin.max2 (.int k x) (.int k y) = pure (.int k (max x y)) := fun x y => by
    have e : (if y > x then y else x) = max x y := by
      rw [Int.max_def]
      split <;> split <;> omega
    rw [← e]
    rfl
  simp [Builtin.max_, two]
set_option maxHeartbeats 1000000 in
theorem GreatestRef_any (x : Blk) (hx : x.length = 64) (w : World) : Calls Try.prog 15 #[bv x] w fun e w' => e = .returned (.int .u32 (greatest x)) ∧ Below w.heap.size w w' := by
  have hmix : Try.prog.follows .mixedOrders = true := by kernel_rfl
  have ht0 := tagRef_any x hx 0 (by decide)
  rw [show ((0 : Nat) : Int) = 0 from rfl] at ht0
  have ht1 := tagRef_any x hx 1 (by decide)
  rw [show ((1 : Nat) : Int) = 1 from rfl] at ht1
  have ht2 := tagRef_any x hx 2 (by decide)
  rw [show ((2 : Nat) : Int) = 2 from rfl] at ht2
  have ht3 := tagRef_any x hx 3 (by decide)
  rw [show ((3 : Nat) : Int) = 3 from rfl] at ht3
  have hgr : greatest x = max (max (max (tag x 0) (tag x 1)) (tag x 2)) (tag x 3) := rfl
  generalize greatest x = gr at *
  generalize tag x 0 = n0 at *
  generalize tag x 1 = n1 at *
  generalize tag x 2 = n2 at *
  generalize tag x 3 = n3 at *
  have HX := Lib.hid hx
  have HG := Lib.hid hgr
  have HT0 := Lib.hid ht0
  have HT1 := Lib.hid ht1
  have HT2 := Lib.hid ht2
  have HT3 := Lib.hid ht3
  clear hx hgr ht0 ht1 ht2 ht3
  go_enter Try.func15, Try.ntmps15
  go_wp2_with (first | (refine wpList_box_blk rfl (.tmp 0) rfl x rfl ?_; intro g1 w1 hk hb hg; go_frame; have K1 := Lib.hid hk; have B1 := Lib.hid hb; clear hk hb hg))
  refine wp_region_U (S := BlkI w g1 x) hmix (BlkI.below ⟨K1.out, B1.out⟩ (Below.refl _ _).drew) ?_
  change wpAnyU _ _ _ _ _ _ _ _
  refine wpAnyU_take (i := 0) (v := bv x) rfl (by kernel_rfl) (by kernel_rfl) (by kernel_rfl) (fun _ _ _ h => h) (DoesIf.reads (by rfl) fun w9 hS => exec_load_blk (.tmp 1) rfl g1 0 rfl x HX.out (At.whole hS.1)) ?_
  try simp only [List.getElem_toArray, List.getElem_cons_succ, List.getElem_cons_zero, Act.put, List.setIfInBounds_toArray, List.set_cons_succ, List.set_cons_zero]
  refine wpAnyU_take (i := 2) (v := bv x) rfl (by kernel_rfl) (by kernel_rfl) (by kernel_rfl) (fun _ _ _ h => h) (DoesIf.reads (by rfl) fun w9 hS => exec_load_blk (.tmp 1) rfl g1 0 rfl x HX.out (At.whole hS.1)) ?_
  try simp only [List.getElem_toArray, List.getElem_cons_succ, List.getElem_cons_zero, Act.put, List.setIfInBounds_toArray, List.set_cons_succ, List.set_cons_zero]
  refine wpAnyU_take (i := 4) (v := bv x) rfl (by kernel_rfl) (by kernel_rfl) (by kernel_rfl) (fun _ _ _ h => h) (DoesIf.reads (by rfl) fun w9 hS => exec_load_blk (.tmp 1) rfl g1 0 rfl x HX.out (At.whole hS.1)) ?_
  try simp only [List.getElem_toArray, List.getElem_cons_succ, List.getElem_cons_zero, Act.put, List.setIfInBounds_toArray, List.set_cons_succ, List.set_cons_zero]
  refine wpAnyU_take (i := 6) (v := bv x) rfl (by kernel_rfl) (by kernel_rfl) (by kernel_rfl) (fun _ _ _ h => h) (DoesIf.reads (by rfl) fun w9 hS => exec_load_blk (.tmp 1) rfl g1 0 rfl x HX.out (At.whole hS.1)) ?_
  try simp only [List.getElem_toArray, List.getElem_cons_succ, List.getElem_cons_zero, Act.put, List.setIfInBounds_toArray, List.set_cons_succ, List.set_cons_zero]
  refine wpAnyU_take (i := 1) (v := .int .u32 n0) rfl (by kernel_rfl) (by kernel_rfl) (by kernel_rfl) (fun _ _ _ h => h) (DoesIf.calls (f := 28) (args := #[bv x, .int .i64 0]) (by rfl) (fun w9 hS => by go_simp) (fun w9 hS => (HT0.out w9).mono fun e w' h => ⟨h.1, hS.below h.2⟩)) ?_
  try simp only [List.getElem_toArray, List.getElem_cons_succ, List.getElem_cons_zero, Act.put, List.setIfInBounds_toArray, List.set_cons_succ, List.set_cons_zero]
  refine wpAnyU_take (i := 3) (v := .int .u32 n1) rfl (by kernel_rfl) (by kernel_rfl) (by kernel_rfl) (fun _ _ _ h => h) (DoesIf.calls (f := 28) (args := #[bv x, .int .i64 1]) (by rfl) (fun w9 hS => by go_simp) (fun w9 hS => (HT1.out w9).mono fun e w' h => ⟨h.1, hS.below h.2⟩)) ?_
  try simp only [List.getElem_toArray, List.getElem_cons_succ, List.getElem_cons_zero, Act.put, List.setIfInBounds_toArray, List.set_cons_succ, List.set_cons_zero]
  refine wpAnyU_take (i := 5) (v := .int .u32 n2) rfl (by kernel_rfl) (by kernel_rfl) (by kernel_rfl) (fun _ _ _ h => h) (DoesIf.calls (f := 28) (args := #[bv x, .int .i64 2]) (by rfl) (fun w9 hS => by go_simp) (fun w9 hS => (HT2.out w9).mono fun e w' h => ⟨h.1, hS.below h.2⟩)) ?_
  try simp only [List.getElem_toArray, List.getElem_cons_succ, List.getElem_cons_zero, Act.put, List.setIfInBounds_toArray, List.set_cons_succ, List.set_cons_zero]
  refine wpAnyU_take (i := 7) (v := .int .u32 n3) rfl (by kernel_rfl) (by kernel_rfl) (by kernel_rfl) (fun _ _ _ h => h) (DoesIf.calls (f := 28) (args := #[bv x, .int .i64 3]) (by rfl) (fun w9 hS => by go_simp) (fun w9 hS => (HT3.out w9).mono fun e w' h => ⟨h.1, hS.below h.2⟩)) ?_
  try simp only [List.getElem_toArray, List.getElem_cons_succ, List.getElem_cons_zero, Act.put, List.setIfInBounds_toArray, List.set_cons_succ, List.set_cons_zero]
  refine wpAnyU_take (i := 8) (v := .int .u32 gr) rfl (by kernel_rfl) (by kernel_rfl) (by kernel_rfl) (fun _ _ _ h => h) (DoesIf.reads (by rfl) fun w9 hS => by have hr := fun w => run_max4 (P := Try.prog) w #[22, 22, 22, 22] 22 .u32 n0 n1 n2 n3; rw [← HG.out] at hr; go_simp) ?_
  try simp only [List.getElem_toArray, List.getElem_cons_succ, List.getElem_cons_zero, Act.put, List.setIfInBounds_toArray, List.set_cons_succ, List.set_cons_zero]
  refine wpAnyU_take (i := 9) (v := .int .u32 gr) rfl (by kernel_rfl) (by kernel_rfl) (by kernel_rfl) (fun _ _ _ h => h) (DoesIf.reads (by rfl) fun w9 hS => by go_simp) ?_
  try simp only [List.getElem_toArray, List.getElem_cons_succ, List.getElem_cons_zero, Act.put, List.setIfInBounds_toArray, List.set_cons_succ, List.set_cons_zero]
  refine wpAnyU_done (by kernel_rfl) (fun w9 hS => ?_) _
  go_wp2
  go_ret
  exact ⟨rfl, hS.2⟩

end Go.Proofs.Ytlhbipommhljiaa
