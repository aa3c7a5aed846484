/- SWEPT -/
import Derived.Test.YtfgbpinfplllgaaGreatDoorZStAs0
set_option linter.unusedVariables false
set_option linter.unusedSimpArgs false
namespace Go.Proofs.YtfgbpinfplllgaaGreatDoor
open Go.RowKit Go.Extern.Stop Go.Stop Go.Extern Go.Shelf
set_option maxRecDepth 100000
def LaidErr (w : World) : Prop := w.cell? ⟨0, 0, none⟩ = some (.iface 244 (.agg #[.pointer (some ⟨2, 99, none⟩)]))
theorem LaidErr.pos {w : World} (h : LaidErr w) : 0 < w.heap.size := by
  rcases Nat.eq_zero_or_pos w.heap.size with h0 | h1
  · simp [LaidErr, World.cell?, h0] at h
  · exact h1
theorem LaidErr.below {w w' : World} (h : LaidErr w) (hb : Below w.heap.size w w') : LaidErr w' := (hb.cell h.pos).trans h
theorem cell_lt {w : World} {a : Addr} {v : Value} (h : w.cell? a = some v) : a.block < w.heap.size := by
  rcases Nat.lt_or_ge a.block w.heap.size with h1 | h1
  · exact h1
  · simp [World.cell?, Array.getElem?_eq_none h1] at h
theorem As_nil (t : Value) (w : World) : Calls Tryz.prog 97 #[.nilIface, t] w fun e w' => e = .returned (.bool false) ∧ w = w' := by
  go_enter Tryz.func97, Tryz.ntmps97
  go_wp2
  go_ret
  exact ⟨rfl, rfl⟩
set_option maxHeartbeats 4000000 in
theorem As_FB (g : Nat) (n : Int) (t : Addr) (w : World) (hg : LaidErr w) (h1 : w.cell? ⟨g, 0 + 1, none⟩ = some (.iface 25 (.int .i64 n))) :
    Calls Tryz.prog 97 #[.iface 181 (.pointer (some ⟨g, 0, none⟩)), .iface 156 (.pointer (some t))] w fun e w' => e = .returned (.bool false) ∧ Below w.heap.size w w' := by
  have h6 := @run_callFunc_extern Tryz.prog 135 _ saUnpack Tryz.func135 (by kernel_rfl) (by kernel_rfl) (by kernel_rfl) (by kernel_rfl)
  have h7 := @run_callFunc_extern Tryz.prog 136 _ saType Tryz.func136 (by kernel_rfl) (by kernel_rfl) (by kernel_rfl) (by kernel_rfl)
  have h8 := @run_callFunc_extern Tryz.prog 137 _ saIsNil Tryz.func137 (by kernel_rfl) (by kernel_rfl) (by kernel_rfl) (by kernel_rfl)
  have h27 := @run_callFunc_extern Tryz.prog 232 _ saKind Tryz.func232 (by kernel_rfl) (by kernel_rfl) (by kernel_rfl) (by kernel_rfl)
  have h37 := @run_callFunc_extern Tryz.prog 248 _ saElem Tryz.func248 (by kernel_rfl) (by kernel_rfl) (by kernel_rfl) (by kernel_rfl)
  have h38 := @run_callFunc_extern Tryz.prog 249 _ saImpl Tryz.func249 (by kernel_rfl) (by kernel_rfl) (by kernel_rfl) (by kernel_rfl)
  have h10 := @run_callFunc_extern Tryz.prog 133 _ ReflectliteType.typeOf Tryz.func133 (by kernel_rfl) (by kernel_rfl) (by kernel_rfl) (by kernel_rfl)
  have h35 := @run_callFunc_extern Tryz.prog 246 _ saAssign Tryz.func246 (by kernel_rfl) (by kernel_rfl) (by kernel_rfl) (by kernel_rfl)
  have h11 := @run_callFunc_extern Tryz.prog 163 _ saElemV Tryz.func163 (by kernel_rfl) (by kernel_rfl) (by kernel_rfl) (by kernel_rfl)
  have h12 := @run_callFunc_extern Tryz.prog 164 _ saSet Tryz.func164 (by kernel_rfl) (by kernel_rfl) (by kernel_rfl) (by kernel_rfl)
  have f0 := sa_valueBB
  have f1 := sa_typeBB
  have f2 := sa_mKind
  have f3 := sa_mElem
  have f4 := sa_mImpl
  have f5 := sa_mAssign
  have f6 := sa_kindBB
  have f7 := sa_kindB
  have f8 := sa_elemBB
  have f9 := sa_implB
  have f10 := sa_typeOfE
  have f11 := sa_typeOfF
  have f12 := sa_typeOfB
  have f13 := sa_asFB
  have f14 := sa_asEB
  have f15 := sa_asBB
  have f16 := sa_asFE
  have f17 := sa_asEE
  have f18 := sa_valueE
  have f19 := sa_valueB
  have f20 := se_noAsE
  have f21 := se_noAsF
  have f22 := se_noUnwrapE
  have f23 := se_noUnwrapsE
  have f24 := se_hasUnwrapF
  have f25 := se_mUnwrapF
  have hgl := hg.pos
  have n8 := sa_isNilBB ⟨w.heap.size, 0, none⟩ t ((w.alloc (.cells #[.pointer (some t)] 156)).alloc (.cells #[.pointer (some ⟨2, 156, none⟩), .pointer (some ⟨w.heap.size, 0, none⟩), .int .u64 150] 204)) (by simp)
  have hg2 : ((w.alloc (.cells #[.pointer (some t)] 156)).alloc (.cells #[.pointer (some ⟨2, 156, none⟩), .pointer (some ⟨w.heap.size, 0, none⟩), .int .u64 150] 204)).cell? ⟨0, 0, none⟩ = some (.iface 244 (.agg #[.pointer (some ⟨2, 99, none⟩)])) := by
    rw [World.cell?_alloc_lt _ _ ⟨0, 0, none⟩ (by simp), World.cell?_alloc_lt _ _ ⟨0, 0, none⟩ hgl]; exact hg
  have hw3 : (((w.alloc (.cells #[.pointer (some t)] 156)).alloc (.cells #[.pointer (some ⟨2, 156, none⟩), .pointer (some ⟨w.heap.size, 0, none⟩), .int .u64 150] 204)).alloc (.cells #[.pointer (some ⟨2, 156, none⟩), .pointer (some ⟨w.heap.size, 0, none⟩), .int .u64 150] 204)).cell? ⟨g, 0 + 1, none⟩ = some (.iface 25 (.int .i64 n)) := by
    have hl := cell_lt h1
    rw [World.cell?_alloc_lt _ _ ⟨g, 0 + 1, none⟩ (by simp at hl ⊢; omega), World.cell?_alloc_lt _ _ ⟨g, 0 + 1, none⟩ (by simp at hl ⊢; omega), World.cell?_alloc_lt _ _ ⟨g, 0 + 1, none⟩ hl]; exact h1
  go_enter Tryz.func97, Tryz.ntmps97
  go_wp2
  refine wp_loop_rounds 2 ?_
  rw [rounds_succ]
  go_wp2
  rw [rounds_succ]
  go_wp2
  go_ret
  exact ⟨rfl, ((((Below.refl w.heap.size w).alloc (Nat.le_refl _) _).alloc (by simp) _).alloc (by simp; omega) _)⟩
set_option maxHeartbeats 4000000 in
theorem As_FE (g : Nat) (n : Int) (old : Value) (t : Addr) (w : World) (hg : LaidErr w) (h1 : w.cell? ⟨g, 0 + 1, none⟩ = some (.iface 25 (.int .i64 n))) (ht0 : w.cell? t = some old) (hf0 : w.frozen? t = false) :
    Calls Tryz.prog 97 #[.iface 181 (.pointer (some ⟨g, 0, none⟩)), .iface 157 (.pointer (some t))] w fun e w' => e = .returned (.bool true) ∧ ∃ W, Below w.heap.size w W ∧ w' = W.setCell t (.int .i64 n) := by
  have h6 := @run_callFunc_extern Tryz.prog 135 _ saUnpack Tryz.func135 (by kernel_rfl) (by kernel_rfl) (by kernel_rfl) (by kernel_rfl)
  have h7 := @run_callFunc_extern Tryz.prog 136 _ saType Tryz.func136 (by kernel_rfl) (by kernel_rfl) (by kernel_rfl) (by kernel_rfl)
  have h8 := @run_callFunc_extern Tryz.prog 137 _ saIsNil Tryz.func137 (by kernel_rfl) (by kernel_rfl) (by kernel_rfl) (by kernel_rfl)
  have h27 := @run_callFunc_extern Tryz.prog 232 _ saKind Tryz.func232 (by kernel_rfl) (by kernel_rfl) (by kernel_rfl) (by kernel_rfl)
  have h37 := @run_callFunc_extern Tryz.prog 248 _ saElem Tryz.func248 (by kernel_rfl) (by kernel_rfl) (by kernel_rfl) (by kernel_rfl)
  have h38 := @run_callFunc_extern Tryz.prog 249 _ saImpl Tryz.func249 (by kernel_rfl) (by kernel_rfl) (by kernel_rfl) (by kernel_rfl)
  have h10 := @run_callFunc_extern Tryz.prog 133 _ ReflectliteType.typeOf Tryz.func133 (by kernel_rfl) (by kernel_rfl) (by kernel_rfl) (by kernel_rfl)
  have h35 := @run_callFunc_extern Tryz.prog 246 _ saAssign Tryz.func246 (by kernel_rfl) (by kernel_rfl) (by kernel_rfl) (by kernel_rfl)
  have h11 := @run_callFunc_extern Tryz.prog 163 _ saElemV Tryz.func163 (by kernel_rfl) (by kernel_rfl) (by kernel_rfl) (by kernel_rfl)
  have h12 := @run_callFunc_extern Tryz.prog 164 _ saSet Tryz.func164 (by kernel_rfl) (by kernel_rfl) (by kernel_rfl) (by kernel_rfl)
  have f0 := sa_valueEE
  have f1 := sa_typeEE
  have f2 := sa_mKind
  have f3 := sa_mElem
  have f4 := sa_mImpl
  have f5 := sa_mAssign
  have f6 := sa_kindEE
  have f7 := sa_kindE
  have f8 := sa_elemEE
  have f9 := sa_implE
  have f10 := sa_typeOfE
  have f11 := sa_typeOfF
  have f12 := sa_typeOfB
  have f13 := sa_asFB
  have f14 := sa_asEB
  have f15 := sa_asBB
  have f16 := sa_asFE
  have f17 := sa_asEE
  have f18 := sa_valueE
  have f19 := sa_valueB
  have f20 := se_noAsE
  have f21 := se_noAsF
  have f22 := se_noUnwrapE
  have f23 := se_noUnwrapsE
  have f24 := se_hasUnwrapF
  have f25 := se_mUnwrapF
  have hgl := hg.pos
  have n8 := sa_isNilEE ⟨w.heap.size, 0, none⟩ t ((w.alloc (.cells #[.pointer (some t)] 157)).alloc (.cells #[.pointer (some ⟨2, 157, none⟩), .pointer (some ⟨w.heap.size, 0, none⟩), .int .u64 150] 204)) (by simp)
  have hg2 : ((w.alloc (.cells #[.pointer (some t)] 157)).alloc (.cells #[.pointer (some ⟨2, 157, none⟩), .pointer (some ⟨w.heap.size, 0, none⟩), .int .u64 150] 204)).cell? ⟨0, 0, none⟩ = some (.iface 244 (.agg #[.pointer (some ⟨2, 99, none⟩)])) := by
    rw [World.cell?_alloc_lt _ _ ⟨0, 0, none⟩ (by simp), World.cell?_alloc_lt _ _ ⟨0, 0, none⟩ hgl]; exact hg
  have hw3 : (((w.alloc (.cells #[.pointer (some t)] 157)).alloc (.cells #[.pointer (some ⟨2, 157, none⟩), .pointer (some ⟨w.heap.size, 0, none⟩), .int .u64 150] 204)).alloc (.cells #[.pointer (some ⟨2, 157, none⟩), .pointer (some ⟨w.heap.size, 0, none⟩), .int .u64 150] 204)).cell? ⟨g, 0 + 1, none⟩ = some (.iface 25 (.int .i64 n)) := by
    have hl := cell_lt h1
    rw [World.cell?_alloc_lt _ _ ⟨g, 0 + 1, none⟩ (by simp at hl ⊢; omega), World.cell?_alloc_lt _ _ ⟨g, 0 + 1, none⟩ (by simp at hl ⊢; omega), World.cell?_alloc_lt _ _ ⟨g, 0 + 1, none⟩ hl]; exact h1
  have htl := cell_lt ht0
  have el := sa_elemVEE ⟨w.heap.size, 0, none⟩ t (((w.alloc (.cells #[.pointer (some t)] 157)).alloc (.cells #[.pointer (some ⟨2, 157, none⟩), .pointer (some ⟨w.heap.size, 0, none⟩), .int .u64 150] 204)).alloc (.cells #[.pointer (some ⟨2, 157, none⟩), .pointer (some ⟨w.heap.size, 0, none⟩), .int .u64 150] 204)) (by rw [World.cell?_alloc_lt _ _ ⟨w.heap.size, 0, none⟩ (by simp; omega)]; simp)
  have st := sa_setE t ⟨w.heap.size + 1 + 1 + 1, 0, none⟩ n old ((((w.alloc (.cells #[.pointer (some t)] 157)).alloc (.cells #[.pointer (some ⟨2, 157, none⟩), .pointer (some ⟨w.heap.size, 0, none⟩), .int .u64 150] 204)).alloc (.cells #[.pointer (some ⟨2, 157, none⟩), .pointer (some ⟨w.heap.size, 0, none⟩), .int .u64 150] 204)).alloc (.cells #[.int .i64 n] 25))
    (by rw [World.cell?_alloc_at _ _ _ _ (by simp)]; rfl)
    (by rw [World.cell?_alloc_lt _ _ t (by simp; omega), World.cell?_alloc_lt _ _ t (by simp; omega), World.cell?_alloc_lt _ _ t (by simp; omega), World.cell?_alloc_lt _ _ t htl]; exact ht0)
    (by rw [World.frozen?_alloc_old _ _ t (by simp; omega), World.frozen?_alloc_old _ _ t (by simp; omega), World.frozen?_alloc_old _ _ t (by simp; omega), World.frozen?_alloc_old _ _ t (Nat.ne_of_lt htl)]; exact hf0)
  go_enter Tryz.func97, Tryz.ntmps97
  go_wp2
  refine wp_loop_rounds 2 ?_
  rw [rounds_succ]
  go_wp2
  rw [rounds_succ]
  go_wp2
  go_ret
  exact ⟨rfl, _, (((((Below.refl w.heap.size w).alloc (Nat.le_refl _) _).alloc (by simp) _).alloc (by simp; omega) _).alloc (by simp; omega) _), rfl⟩
set_option maxHeartbeats 4000000 in
theorem As_BB (q : Addr) (old : Value) (t : Addr) (w : World) (hg : LaidErr w) (ht0 : w.cell? t = some old) (hf0 : w.frozen? t = false) :
    Calls Tryz.prog 97 #[.iface 154 (.pointer (some q)), .iface 156 (.pointer (some t))] w fun e w' => e = .returned (.bool true) ∧ ∃ W, Below w.heap.size w W ∧ w' = W.setCell t (.pointer (some q)) := by
  have h6 := @run_callFunc_extern Tryz.prog 135 _ saUnpack Tryz.func135 (by kernel_rfl) (by kernel_rfl) (by kernel_rfl) (by kernel_rfl)
  have h7 := @run_callFunc_extern Tryz.prog 136 _ saType Tryz.func136 (by kernel_rfl) (by kernel_rfl) (by kernel_rfl) (by kernel_rfl)
  have h8 := @run_callFunc_extern Tryz.prog 137 _ saIsNil Tryz.func137 (by kernel_rfl) (by kernel_rfl) (by kernel_rfl) (by kernel_rfl)
  have h27 := @run_callFunc_extern Tryz.prog 232 _ saKind Tryz.func232 (by kernel_rfl) (by kernel_rfl) (by kernel_rfl) (by kernel_rfl)
  have h37 := @run_callFunc_extern Tryz.prog 248 _ saElem Tryz.func248 (by kernel_rfl) (by kernel_rfl) (by kernel_rfl) (by kernel_rfl)
  have h38 := @run_callFunc_extern Tryz.prog 249 _ saImpl Tryz.func249 (by kernel_rfl) (by kernel_rfl) (by kernel_rfl) (by kernel_rfl)
  have h10 := @run_callFunc_extern Tryz.prog 133 _ ReflectliteType.typeOf Tryz.func133 (by kernel_rfl) (by kernel_rfl) (by kernel_rfl) (by kernel_rfl)
  have h35 := @run_callFunc_extern Tryz.prog 246 _ saAssign Tryz.func246 (by kernel_rfl) (by kernel_rfl) (by kernel_rfl) (by kernel_rfl)
  have h11 := @run_callFunc_extern Tryz.prog 163 _ saElemV Tryz.func163 (by kernel_rfl) (by kernel_rfl) (by kernel_rfl) (by kernel_rfl)
  have h12 := @run_callFunc_extern Tryz.prog 164 _ saSet Tryz.func164 (by kernel_rfl) (by kernel_rfl) (by kernel_rfl) (by kernel_rfl)
  have f0 := sa_valueBB
  have f1 := sa_typeBB
  have f2 := sa_mKind
  have f3 := sa_mElem
  have f4 := sa_mImpl
  have f5 := sa_mAssign
  have f6 := sa_kindBB
  have f7 := sa_kindB
  have f8 := sa_elemBB
  have f9 := sa_implB
  have f10 := sa_typeOfE
  have f11 := sa_typeOfF
  have f12 := sa_typeOfB
  have f13 := sa_asFB
  have f14 := sa_asEB
  have f15 := sa_asBB
  have f16 := sa_asFE
  have f17 := sa_asEE
  have f18 := sa_valueE
  have f19 := sa_valueB
  have f20 := se_noAsE
  have f21 := se_noAsF
  have f22 := se_noUnwrapE
  have f23 := se_noUnwrapsE
  have f24 := se_hasUnwrapF
  have f25 := se_mUnwrapF
  have hgl := hg.pos
  have n8 := sa_isNilBB ⟨w.heap.size, 0, none⟩ t ((w.alloc (.cells #[.pointer (some t)] 156)).alloc (.cells #[.pointer (some ⟨2, 156, none⟩), .pointer (some ⟨w.heap.size, 0, none⟩), .int .u64 150] 204)) (by simp)
  have hg2 : ((w.alloc (.cells #[.pointer (some t)] 156)).alloc (.cells #[.pointer (some ⟨2, 156, none⟩), .pointer (some ⟨w.heap.size, 0, none⟩), .int .u64 150] 204)).cell? ⟨0, 0, none⟩ = some (.iface 244 (.agg #[.pointer (some ⟨2, 99, none⟩)])) := by
    rw [World.cell?_alloc_lt _ _ ⟨0, 0, none⟩ (by simp), World.cell?_alloc_lt _ _ ⟨0, 0, none⟩ hgl]; exact hg
  have htl := cell_lt ht0
  have el := sa_elemVBB ⟨w.heap.size, 0, none⟩ t (((w.alloc (.cells #[.pointer (some t)] 156)).alloc (.cells #[.pointer (some ⟨2, 156, none⟩), .pointer (some ⟨w.heap.size, 0, none⟩), .int .u64 150] 204)).alloc (.cells #[.pointer (some ⟨2, 156, none⟩), .pointer (some ⟨w.heap.size, 0, none⟩), .int .u64 150] 204)) (by rw [World.cell?_alloc_lt _ _ ⟨w.heap.size, 0, none⟩ (by simp; omega)]; simp)
  have st := sa_setB t ⟨w.heap.size + 1 + 1 + 1, 0, none⟩ q old ((((w.alloc (.cells #[.pointer (some t)] 156)).alloc (.cells #[.pointer (some ⟨2, 156, none⟩), .pointer (some ⟨w.heap.size, 0, none⟩), .int .u64 150] 204)).alloc (.cells #[.pointer (some ⟨2, 156, none⟩), .pointer (some ⟨w.heap.size, 0, none⟩), .int .u64 150] 204)).alloc (.cells #[.pointer (some q)] 154))
    (by rw [World.cell?_alloc_at _ _ _ _ (by simp)]; rfl)
    (by rw [World.cell?_alloc_lt _ _ t (by simp; omega), World.cell?_alloc_lt _ _ t (by simp; omega), World.cell?_alloc_lt _ _ t (by simp; omega), World.cell?_alloc_lt _ _ t htl]; exact ht0)
    (by rw [World.frozen?_alloc_old _ _ t (by simp; omega), World.frozen?_alloc_old _ _ t (by simp; omega), World.frozen?_alloc_old _ _ t (by simp; omega), World.frozen?_alloc_old _ _ t (Nat.ne_of_lt htl)]; exact hf0)
  go_enter Tryz.func97, Tryz.ntmps97
  go_wp2
  refine wp_loop_rounds 1 ?_
  rw [rounds_succ]
  go_wp2
  go_ret
  exact ⟨rfl, _, (((((Below.refl w.heap.size w).alloc (Nat.le_refl _) _).alloc (by simp) _).alloc (by simp; omega) _).alloc (by simp; omega) _), rfl⟩
end Go.Proofs.YtfgbpinfplllgaaGreatDoor
