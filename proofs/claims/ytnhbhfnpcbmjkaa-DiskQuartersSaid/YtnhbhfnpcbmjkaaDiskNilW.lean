/- The walk of DiskNil: of none, and of a zero one, all is refused, or nothing. -/
import Derived.Test.YtnhbhfnpcbmjkaaDiskArgs
namespace Go.Proofs.Ytnhbhfnpcbmjkaa
open Go.RowKit Go.Shelf Go.Maps
set_option linter.unusedVariables false
set_option linter.unusedSimpArgs false

/-- no disk, or one that New did not make -/
def NoneAt (w : World) (a : Option Addr) : Prop := a = none ∨ ∃ z, a = some ⟨z, 0, none⟩ ∧ w.cell? ⟨z, 0, none⟩ = some (.int .i64 0)
theorem NoneAt.calls {w : World} {a : Option Addr} (h : NoneAt w a) : Calls Try.prog 24 #[.pointer a] w fun e w' => e = .returned (.bool true) ∧ w = w' := by
  rcases h with rfl | ⟨z, rfl, hc⟩
  · exact isNone_nil w
  · exact isNone_zero z w hc
theorem NoneAt.below {w w' : World} {a : Option Addr} (h : NoneAt w a) (hb : Below w.heap.size w w') : NoneAt w' a := by
  rcases h with rfl | ⟨z, rfl, hc⟩
  · exact .inl rfl
  · exact .inr ⟨z, rfl, (hb.cell (lt_of_cell hc)).trans hc⟩
theorem NoneAt.all {w : World} {a : Option Addr} (h : NoneAt w a) : ∀ w', (∃ o, w' = w.alloc o) → Calls Try.prog 24 #[.pointer a] w' fun e w'' => e = .returned (.bool true) ∧ w' = w'' := by
  rintro _ ⟨o, rfl⟩
  exact (h.below ((Below.refl _ _).alloc (Nat.le_refl _) o)).calls
section
variable {w : World} {ops : Array Oper} {rest : List Oper} {o : Oper} {a : Act} {Q : Exit → Act → World → Prop}
theorem wpList_load_blk_g (hw : Region.wanted o (yielded ops a.tmps) = true) (x : Operand) (ho : o.op = .load 30 x) (b f : Nat) (hx : a.eval x = .pointer (some ⟨b, f, none⟩)) (l : Blk) (hl : l.length = 64) (hc : At w b f (cellsOf l))
    (hK : wpList Try.prog ops Q rest (a.put o.dst (bv l)) w) : wpList Try.prog ops Q (o :: rest) a w :=
  BigFrame.wpList_want hw fun K h => wp_of_run (exec_load_blk x ho b f hx l hl hc) (h _ _ hK)
end
/-- the deed's own variable -/
theorem deed_cells {w : World} {g : Nat} {x : Dd} (h : Cs w g 32 (ddCells x).toArray) (hx : DdOk x) : w.cell? ⟨g, 1, none⟩ = some (.int .i64 x.n) ∧ At w g 2 (cellsOf x.b) ∧ w.cell? ⟨g, 66, none⟩ = some (.slice x.A x.len x.cap) := by
  have hb := hx.1
  refine ⟨h.cell 1 (by simp [ddCells]), At.of_cs h 2 _ fun j v hv => ?_, h.cell 66 ?_⟩
  · have hj : j < (cellsOf x.b).length := (List.getElem?_eq_some_iff.1 hv).1
    rw [List.getElem?_toArray, show 2 + j = j + 2 by omega]
    show (cellsOf x.b ++ [.slice x.A x.len x.cap])[j]? = _
    rw [List.getElem?_append_left hj]
    exact hv
  · rw [List.getElem?_toArray]
    show (cellsOf x.b ++ [.slice x.A x.len x.cap])[64]? = _
    rw [List.getElem?_append_right (by rw [cellsOf_length]; omega), cellsOf_length, hb]
    rfl
set_option maxHeartbeats 4000000 in
theorem nil_walk (x : Dd) (hx : DdOk x) (w : World) : Calls Try.prog 6 #[.agg (ddCells x).toArray, .bool false] w fun e w' => e = .returned (.bool true) ∧ Below w.heap.size w w' := by
  have HX := Lib.hid hx
  clear hx
  go_enter Try.func6, Try.ntmps6
  go_wp2_with (refine wpList_box_agg rfl 32 (.tmp 0) rfl (ddCells x) rfl ?_; go_frame; have K0 := Lib.hid (Cs.new w 32 (ddCells x).toArray); have B0 := Lib.hid ((Below.refl w.heap.size w).alloc (Nat.le_refl _) (.cells (ddCells x).toArray 32)); generalize w.alloc (.cells (ddCells x).toArray 32) = w0 at K0 B0 ⊢; have q1 := (deed_cells K0.out HX.out).1)
  have Z := Lib.hid (show NoneAt w0 none from .inl rfl)
  have K1 := Lib.hid K0.out
  have B1 := Lib.hid B0.out
  refine (Read_none none x.n _ Z.out.all).mono ?_
  rintro e v1 ⟨rfl, hb⟩
  have Z2 := Lib.hid (Z.out.below hb)
  have K2 := Lib.hid (K1.out.below hb K1.out.lt)
  have B2 := Lib.hid (B1.out.trans (hb.mono B1.out.size))
  clear hb
  go_wp2_with (first
    | (refine wpList_alloc_blk rfl rfl ?_; intro g6 va hka hba hga; go_frame; have KA6 := Lib.hid hka; have BA6 := Lib.hid hba; have GA6 := Lib.hid hga; clear hka hba hga)
    | (refine wpList_fill_blk rfl (.tmp 6) (.tmp 18) rfl g6 rfl zb rfl zb_len KA6.out ?_; intro vb6 hkb hrb; go_frame; have hb := keep_own BA6.out hrb GA6.out; clear hkb hrb; have q6 := (deed_cells (K2.out.below hb K2.out.lt) HX.out).1; have q6b := (deed_cells (K2.out.below hb K2.out.lt) HX.out).2.2; have A6 := Lib.hid (deed_cells (K2.out.below hb K2.out.lt) HX.out).2.1; have HB6 := Lib.hid hb; clear hb)
    | (refine wpList_load_blk_g rfl (.tmp 37) rfl _ 2 rfl x.b HX.out.1 A6.out ?_; go_frame))
  have hb := HB6.out
  have Z3 := Lib.hid (Z2.out.below hb)
  have K3 := Lib.hid (K2.out.below hb K2.out.lt)
  have B3 := Lib.hid (B2.out.trans (hb.mono B2.out.size))
  clear hb
  refine (Sure_none none x.n _ Z3.out.all).mono ?_
  rintro e v3 ⟨rfl, hb⟩
  have Z4 := Lib.hid (Z3.out.below hb)
  have K4 := Lib.hid (K3.out.below hb K3.out.lt)
  have B4 := Lib.hid (B3.out.trans (hb.mono B3.out.size))
  clear hb
  go_wp2_with (first
    | (refine wpList_alloc_blk rfl rfl ?_; intro g8 va hka hba hga; go_frame; have KA8 := Lib.hid hka; have BA8 := Lib.hid hba; have GA8 := Lib.hid hga; clear hka hba hga)
    | (refine wpList_fill_blk rfl (.tmp 8) (.tmp 25) rfl g8 rfl zb rfl zb_len KA8.out ?_; intro vb8 hkb hrb; go_frame; have hb := keep_own BA8.out hrb GA8.out; clear hkb hrb; have q8 := (deed_cells (K4.out.below hb K4.out.lt) HX.out).1; have q8b := (deed_cells (K4.out.below hb K4.out.lt) HX.out).2.2; have A8 := Lib.hid (deed_cells (K4.out.below hb K4.out.lt) HX.out).2.1; have HB8 := Lib.hid hb; clear hb)
    | (refine wpList_load_blk_g rfl (.tmp 37) rfl _ 2 rfl x.b HX.out.1 A8.out ?_; go_frame))
  have hb := HB8.out
  have Z5 := Lib.hid (Z4.out.below hb)
  have K5 := Lib.hid (K4.out.below hb K4.out.lt)
  have B5 := Lib.hid (B4.out.trans (hb.mono B4.out.size))
  clear hb
  refine (Write_none none x.n x.b _ Z5.out.all).mono ?_
  rintro e vw ⟨rfl, hb⟩
  have qw := (deed_cells (K5.out.below hb K5.out.lt) HX.out).1
  have qwb := (deed_cells (K5.out.below hb K5.out.lt) HX.out).2.2
  have Z6 := Lib.hid (Z5.out.below hb)
  have K6 := Lib.hid (K5.out.below hb K5.out.lt)
  have B6 := Lib.hid (B5.out.trans (hb.mono B5.out.size))
  clear hb
  go_wp2_with fail
  refine (Flush_none none _ Z6.out.calls).mono ?_
  rintro e _ ⟨rfl, rfl⟩
  go_wp2_with fail
  refine (Arm_none none x.n _ Z6.out.calls).mono ?_
  rintro e _ ⟨rfl, rfl⟩
  go_wp2_with fail
  refine (Crash_none none x.A x.len x.cap _ Z6.out.calls).mono ?_
  rintro e _ ⟨rfl, rfl⟩
  go_wp2_with fail
  refine (Blocks_none none _ Z6.out.calls).mono ?_
  rintro e _ ⟨rfl, rfl⟩
  go_wp2_with fail
  refine (Steps_none none _ Z6.out.calls).mono ?_
  rintro e _ ⟨rfl, rfl⟩
  go_wp2_with fail
  refine (Loose_none none _ Z6.out.calls).mono ?_
  rintro e _ ⟨rfl, rfl⟩
  go_wp2_with fail
  refine (Dark_none none _ Z6.out.calls).mono ?_
  rintro e _ ⟨rfl, rfl⟩
  go_wp2_with fail
  refine (Copy_none none _ Z6.out.calls).mono ?_
  rintro e _ ⟨rfl, rfl⟩
  go_wp2_with fail
  refine (lives_any _).mono ?_
  rintro e vl ⟨rfl, hb⟩
  have BL := Lib.hid (B6.out.trans (hb.mono B6.out.size))
  clear hb
  go_wp2_with fail
  go_ret
  exact ⟨rfl, BL.out⟩
set_option maxHeartbeats 4000000 in
theorem zero_walk (x : Dd) (hx : DdOk x) (w : World) : Calls Try.prog 6 #[.agg (ddCells x).toArray, .bool true] w fun e w' => e = .returned (.bool true) ∧ Below w.heap.size w w' := by
  have HX := Lib.hid hx
  clear hx
  go_enter Try.func6, Try.ntmps6
  go_wp2_with (refine wpList_box_agg rfl 32 (.tmp 0) rfl (ddCells x) rfl ?_; go_frame; have K0 := Lib.hid (Cs.new w 32 (ddCells x).toArray); have B0 := Lib.hid ((Below.refl w.heap.size w).alloc (Nat.le_refl _) (.cells (ddCells x).toArray 32)); generalize w.alloc (.cells (ddCells x).toArray 32) = w0 at K0 B0 ⊢; have q1 := (deed_cells K0.out HX.out).1; have q2 := (deed_cells (K0.out.alloc (.cells zdisk.toArray 49)) HX.out).1; simp only [zdisk] at q2)
  have Z := Lib.hid (show NoneAt (w0.alloc (.cells zdisk.toArray 49)) (some ⟨w0.heap.size, 0, none⟩) from .inr ⟨_, rfl, (Cs.new w0 49 zdisk.toArray).cell 0 rfl⟩)
  have hbz : Below w0.heap.size w0 (w0.alloc (.cells zdisk.toArray 49)) := (Below.refl _ _).alloc (Nat.le_refl _) _
  have K1 := Lib.hid (K0.out.below hbz K0.out.lt)
  have B1 := Lib.hid (B0.out.trans (hbz.mono B0.out.size))
  clear q2 hbz
  change Calls _ _ _ (w0.alloc (.cells zdisk.toArray 49)) _
  generalize w0.alloc (.cells zdisk.toArray 49) = w1 at Z K1 B1 ⊢
  refine (Read_none (some ⟨w0.heap.size, 0, none⟩) x.n _ Z.out.all).mono ?_
  rintro e v1 ⟨rfl, hb⟩
  have Z2 := Lib.hid (Z.out.below hb)
  have K2 := Lib.hid (K1.out.below hb K1.out.lt)
  have B2 := Lib.hid (B1.out.trans (hb.mono B1.out.size))
  clear hb
  go_wp2_with (first
    | (refine wpList_alloc_blk rfl rfl ?_; intro g6 va hka hba hga; go_frame; have KA6 := Lib.hid hka; have BA6 := Lib.hid hba; have GA6 := Lib.hid hga; clear hka hba hga)
    | (refine wpList_fill_blk rfl (.tmp 6) (.tmp 18) rfl g6 rfl zb rfl zb_len KA6.out ?_; intro vb6 hkb hrb; go_frame; have hb := keep_own BA6.out hrb GA6.out; clear hkb hrb; have q6 := (deed_cells (K2.out.below hb K2.out.lt) HX.out).1; have q6b := (deed_cells (K2.out.below hb K2.out.lt) HX.out).2.2; have A6 := Lib.hid (deed_cells (K2.out.below hb K2.out.lt) HX.out).2.1; have HB6 := Lib.hid hb; clear hb)
    | (refine wpList_load_blk_g rfl (.tmp 37) rfl _ 2 rfl x.b HX.out.1 A6.out ?_; go_frame))
  have hb := HB6.out
  have Z3 := Lib.hid (Z2.out.below hb)
  have K3 := Lib.hid (K2.out.below hb K2.out.lt)
  have B3 := Lib.hid (B2.out.trans (hb.mono B2.out.size))
  clear hb
  refine (Sure_none (some ⟨w0.heap.size, 0, none⟩) x.n _ Z3.out.all).mono ?_
  rintro e v3 ⟨rfl, hb⟩
  have Z4 := Lib.hid (Z3.out.below hb)
  have K4 := Lib.hid (K3.out.below hb K3.out.lt)
  have B4 := Lib.hid (B3.out.trans (hb.mono B3.out.size))
  clear hb
  go_wp2_with (first
    | (refine wpList_alloc_blk rfl rfl ?_; intro g8 va hka hba hga; go_frame; have KA8 := Lib.hid hka; have BA8 := Lib.hid hba; have GA8 := Lib.hid hga; clear hka hba hga)
    | (refine wpList_fill_blk rfl (.tmp 8) (.tmp 25) rfl g8 rfl zb rfl zb_len KA8.out ?_; intro vb8 hkb hrb; go_frame; have hb := keep_own BA8.out hrb GA8.out; clear hkb hrb; have q8 := (deed_cells (K4.out.below hb K4.out.lt) HX.out).1; have q8b := (deed_cells (K4.out.below hb K4.out.lt) HX.out).2.2; have A8 := Lib.hid (deed_cells (K4.out.below hb K4.out.lt) HX.out).2.1; have HB8 := Lib.hid hb; clear hb)
    | (refine wpList_load_blk_g rfl (.tmp 37) rfl _ 2 rfl x.b HX.out.1 A8.out ?_; go_frame))
  have hb := HB8.out
  have Z5 := Lib.hid (Z4.out.below hb)
  have K5 := Lib.hid (K4.out.below hb K4.out.lt)
  have B5 := Lib.hid (B4.out.trans (hb.mono B4.out.size))
  clear hb
  refine (Write_none (some ⟨w0.heap.size, 0, none⟩) x.n x.b _ Z5.out.all).mono ?_
  rintro e vw ⟨rfl, hb⟩
  have qw := (deed_cells (K5.out.below hb K5.out.lt) HX.out).1
  have qwb := (deed_cells (K5.out.below hb K5.out.lt) HX.out).2.2
  have Z6 := Lib.hid (Z5.out.below hb)
  have K6 := Lib.hid (K5.out.below hb K5.out.lt)
  have B6 := Lib.hid (B5.out.trans (hb.mono B5.out.size))
  clear hb
  go_wp2_with fail
  refine (Flush_none (some ⟨w0.heap.size, 0, none⟩) _ Z6.out.calls).mono ?_
  rintro e _ ⟨rfl, rfl⟩
  go_wp2_with fail
  refine (Arm_none (some ⟨w0.heap.size, 0, none⟩) x.n _ Z6.out.calls).mono ?_
  rintro e _ ⟨rfl, rfl⟩
  go_wp2_with fail
  refine (Crash_none (some ⟨w0.heap.size, 0, none⟩) x.A x.len x.cap _ Z6.out.calls).mono ?_
  rintro e _ ⟨rfl, rfl⟩
  go_wp2_with fail
  refine (Blocks_none (some ⟨w0.heap.size, 0, none⟩) _ Z6.out.calls).mono ?_
  rintro e _ ⟨rfl, rfl⟩
  go_wp2_with fail
  refine (Steps_none (some ⟨w0.heap.size, 0, none⟩) _ Z6.out.calls).mono ?_
  rintro e _ ⟨rfl, rfl⟩
  go_wp2_with fail
  refine (Loose_none (some ⟨w0.heap.size, 0, none⟩) _ Z6.out.calls).mono ?_
  rintro e _ ⟨rfl, rfl⟩
  go_wp2_with fail
  refine (Dark_none (some ⟨w0.heap.size, 0, none⟩) _ Z6.out.calls).mono ?_
  rintro e _ ⟨rfl, rfl⟩
  go_wp2_with fail
  refine (Copy_none (some ⟨w0.heap.size, 0, none⟩) _ Z6.out.calls).mono ?_
  rintro e _ ⟨rfl, rfl⟩
  go_wp2_with fail
  refine (lives_any _).mono ?_
  rintro e vl ⟨rfl, hb⟩
  have BL := Lib.hid (B6.out.trans (hb.mono B6.out.size))
  clear hb
  go_wp2_with fail
  go_ret
  exact ⟨rfl, BL.out⟩
theorem diskNil_walk (x : Dd) (zero : Bool) (w : World) (hx : DdOk x) : Calls Try.prog 6 #[.agg (ddCells x).toArray, .bool zero] w fun e w' => e = .returned (.bool true) ∧ Below w.heap.size w w' := by
  cases zero
  · exact nil_walk x hx w
  · exact zero_walk x hx w

end Go.Proofs.Ytnhbhfnpcbmjkaa
