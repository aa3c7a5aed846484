/- lives: the numbers that the document tells. -/
import Derived.Test.YtdlpnndoifdamaaNumRef2
namespace Go.Proofs.Ytdlpnndoifdamaa
open Go.RowKit Go.Shelf
set_option linter.unusedVariables false

theorem put258 (w : World) : Calls Try.prog 8 #[.int .u64 258, .int .i64 2] w fun e W' => e = .returned (.tuple #[.slice (some ⟨w.heap.size + 1, 0, none⟩) 2 2, .int .i64 0]) ∧ Below w.heap.size w W' ∧ Rd W' (some ⟨w.heap.size + 1, 0, none⟩) [1, 2] :=
  Put_ok 258 2 (by decide) (by decide) (by decide) w (by decide)
theorem put256 (w : World) : Calls Try.prog 8 #[.int .u64 256, .int .i64 1] w fun e W' => e = .returned (.tuple #[.slice none 0 0, .int .i64 2]) ∧ Below w.heap.size w W' :=
  Put_no 256 1 (by decide) (by decide) w (.inr (by decide))

theorem rd_cs {W : World} {g : Nat} {l : List UInt8} {cs : Array Value} (h : Cs W g 5 cs) (e : cs = (l.map fun c => Value.int .u8 (c.toNat : Int)).toArray) : Rd W (some ⟨g, 0, none⟩) l :=
  .inr ⟨g, 0, rfl, fun j hj => by
    rw [Nat.zero_add]
    exact h.cell j (by rw [e]; simp [List.getElem?_eq_getElem hj])⟩

theorem below_alloc {W W' : World} (o : Obj) (h : Below (W.alloc o).heap.size (W.alloc o) W') : Below W.heap.size W W' :=
  ((Below.refl W.heap.size W).alloc (Nat.le_refl _) o).trans (h.mono (by simp))

theorem get12 (W : World) : Calls Try.prog 10 #[.slice (some ⟨W.heap.size, 0, none⟩) 2 2, .int .i64 0, .int .i64 2] (W.alloc (.cells #[.int .u8 1, .int .u8 2] 5)) fun e W' => e = .returned (.tuple #[.int .u64 258, .int .i64 0]) ∧ Below W.heap.size W W' := by
  have h := Get_any [1, 2] (some ⟨W.heap.size, 0, none⟩) 2 0 2 (W.alloc (.cells #[.int .u8 1, .int .u8 2] 5)) (by decide) (by decide) (rd_cs (Cs.new W 5 _) rfl)
  rw [show getV [1, 2] 0 2 = .tuple #[.int .u64 258, .int .i64 0] from rfl] at h
  exact h.mono fun e W' ⟨he, hb⟩ => ⟨he, below_alloc _ hb⟩
theorem get1 (W : World) : Calls Try.prog 10 #[.slice (some ⟨W.heap.size, 0, none⟩) 1 1, .int .i64 0, .int .i64 2] (W.alloc (.cells #[.int .u8 1] 5)) fun e W' => e = .returned (.tuple #[.int .u64 0, .int .i64 4]) ∧ Below W.heap.size W W' := by
  have h := Get_any [1] (some ⟨W.heap.size, 0, none⟩) 1 0 2 (W.alloc (.cells #[.int .u8 1] 5)) (by decide) (by decide) (rd_cs (Cs.new W 5 _) rfl)
  rw [show getV [1] 0 2 = .tuple #[.int .u64 0, .int .i64 4] from rfl] at h
  exact h.mono fun e W' ⟨he, hb⟩ => ⟨he, below_alloc _ hb⟩
theorem addOver (W : World) : Calls Try.prog 12 #[.int .u64 18446744073709551615, .int .u64 1] W fun e W' => e = .returned (.tuple #[.int .u64 0, .bool false]) ∧ W = W' :=
  Add_any 18446744073709551615 1 (by decide) (by decide) (by decide) (by decide) W
theorem same12 (W : World) (A : Option Addr) (c : Nat) (h : Rd W A [1, 2]) :
    Calls Try.prog 14 #[.slice A 2 c, .slice (some ⟨W.heap.size, 0, none⟩) 2 2] (W.alloc (.cells #[.int .u8 1, .int .u8 2] 5)) fun e W' => e = .returned (.bool true) ∧ Below W.heap.size W W' :=
  (Same_any A (some ⟨W.heap.size, 0, none⟩) [1, 2] [1, 2] c 2 (W.alloc (.cells #[.int .u8 1, .int .u8 2] 5)) (h.below ((Below.refl _ _).alloc (Nat.le_refl _) _)) (rd_cs (Cs.new W 5 _) rfl)).mono
    fun e W' ⟨he, hb⟩ => ⟨he, by rw [← hb]; exact (Below.refl _ _).alloc (Nat.le_refl _) _⟩
theorem pad5 (W : World) : Calls Try.prog 15 #[.int .i64 5] W fun e W' => e = .returned (.int .i64 3) ∧ W = W' := Pad_any 5 (by decide) W
theorem pad8 (W : World) : Calls Try.prog 15 #[.int .i64 8] W fun e W' => e = .returned (.int .i64 0) ∧ W = W' := Pad_any 8 (by decide) W
theorem zero0 (W : World) : Calls Try.prog 17 #[.slice (some ⟨W.heap.size, 0, none⟩) 3 3, .int .i64 0, .int .i64 2] (W.alloc (.cells #[.int .u8 0, .int .u8 0, .int .u8 1] 5)) fun e W' => e = .returned (.int .i64 0) ∧ Below W.heap.size W W' :=
  (Zero_any [0, 0, 1] (some ⟨W.heap.size, 0, none⟩) 3 0 2 (W.alloc (.cells #[.int .u8 0, .int .u8 0, .int .u8 1] 5)) (by decide) (by decide) (rd_cs (Cs.new W 5 _) rfl)).mono
    fun e W' ⟨he, hb⟩ => ⟨he, by rw [← hb]; exact (Below.refl _ _).alloc (Nat.le_refl _) _⟩
theorem zero1 (W : World) : Calls Try.prog 17 #[.slice (some ⟨W.heap.size, 0, none⟩) 3 3, .int .i64 1, .int .i64 2] (W.alloc (.cells #[.int .u8 0, .int .u8 0, .int .u8 1] 5)) fun e W' => e = .returned (.int .i64 5) ∧ Below W.heap.size W W' :=
  (Zero_any [0, 0, 1] (some ⟨W.heap.size, 0, none⟩) 3 1 2 (W.alloc (.cells #[.int .u8 0, .int .u8 0, .int .u8 1] 5)) (by decide) (by decide) (rd_cs (Cs.new W 5 _) rfl)).mono
    fun e W' ⟨he, hb⟩ => ⟨he, by rw [← hb]; exact (Below.refl _ _).alloc (Nat.le_refl _) _⟩

theorem below_chain {a b c : World} (h : Below a.heap.size a b) (k : Below b.heap.size b c) : Below a.heap.size a c := h.trans (k.mono h.size)

set_option maxHeartbeats 1000000 in
theorem lives_any (w : World) : Calls Try.prog 20 #[] w fun e W' => e = .returned (.bool true) ∧ Below w.heap.size w W' := by
  go_enter Try.func20, Try.ntmps20
  go_wp2_with fail
  refine (put258 _).mono ?_
  rintro e w1 ⟨rfl, hb1, hr1⟩
  go_wp2_with fail
  refine (put256 _).mono ?_
  rintro e w2 ⟨rfl, hb2⟩
  have hr2 := hr1.below hb2
  go_wp2_with fail
  refine (get12 _).mono ?_
  rintro e w3 ⟨rfl, hb3⟩
  have hr3 := hr2.below hb3
  go_wp2_with fail
  refine (get1 _).mono ?_
  rintro e w4 ⟨rfl, hb4⟩
  have hr4 := hr3.below hb4
  go_wp2_with fail
  refine (addOver _).mono ?_
  rintro e _ ⟨rfl, rfl⟩
  go_wp2_with fail
  refine (same12 _ _ _ hr4).mono ?_
  rintro e w5 ⟨rfl, hb5⟩
  go_wp2_with fail
  refine (pad5 _).mono ?_
  rintro e _ ⟨rfl, rfl⟩
  go_wp2_with fail
  refine (pad8 _).mono ?_
  rintro e _ ⟨rfl, rfl⟩
  go_wp2_with fail
  refine (zero0 _).mono ?_
  rintro e w6 ⟨rfl, hb6⟩
  go_wp2_with fail
  refine (zero1 _).mono ?_
  rintro e w7 ⟨rfl, hb7⟩
  go_wp2_with fail
  go_ret
  exact ⟨rfl, below_chain (below_chain (below_chain (below_chain (below_chain (below_chain hb1 hb2) hb3) hb4) hb5) hb6) hb7⟩

end Go.Proofs.Ytdlpnndoifdamaa
