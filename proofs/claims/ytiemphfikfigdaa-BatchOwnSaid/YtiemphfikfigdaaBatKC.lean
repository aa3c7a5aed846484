/- Go's library as layer 7 takes it (Compare, Equal), a load of a whole element in a region that draws, a list without its first element. -/
import Derived.Test.YtiemphfikfigdaaBatKG
import Derived.Test.YtiemphfikfigdaaBatPlain4
import Derived.Test.YtiemphfikfigdaaBatSlice
namespace Go.Proofs.Ytiemphfikfigdaa
open Go.RowKit Go.Shelf
set_option linter.unusedVariables false
set_option maxRecDepth 100000
set_option linter.unusedSimpArgs false

def cmpK (a b : Key) : Int := if lessK a b then -1 else if lessK b a then 1 else 0
set_option maxHeartbeats 1000000 in
theorem CompareString_any (a b : Key) (w : World) :
    Calls Try.prog 65 #[.string ⟨a.toArray⟩, .string ⟨b.toArray⟩] w fun e w' => e = .returned (.int .i64 (cmpK a b)) ∧ w = w' := by
  have hc : Lib.compareBytes (⟨a.toArray⟩ : ByteArray).data.toList (⟨b.toArray⟩ : ByteArray).data.toList = cmpK a b := compare_is a b
  go_enter Try.func65, Try.ntmps65
  go_wp2
  rw [run_callFunc_extern Try.func69 (by kernel_rfl) (by kernel_rfl) (by kernel_rfl) (e := Extern.BytealgCompare.compare) (by kernel_rfl), Lib.run_compareString, hc]
  simp only [Result.andThen]
  rw [Oper.upon_value]
  go_wp2
  go_ret
  exact ⟨rfl, rfl⟩
theorem Compare_any (a b : Key) (w : World) :
    Calls Try.prog 59 #[.string ⟨a.toArray⟩, .string ⟨b.toArray⟩] w fun e w' => e = .returned (.int .i64 (cmpK a b)) ∧ w = w' := by
  go_enter Try.func59, Try.ntmps59
  go_wp2_with fail
  refine (CompareString_any a b w).mono ?_
  rintro e w1 ⟨rfl, rfl⟩
  go_wp2_with fail
  go_ret
  exact ⟨rfl, rfl⟩
theorem Equal_any (p q : List UInt8) (A B : Option Addr) (c d : Nat) (w : World) (hp : Rd w A p) (hq : Rd w B q) :
    Calls Try.prog 53 #[.slice A p.length c, .slice B q.length d] w fun e w' => e = .returned (.bool (p == q)) ∧ w = w' := by
  have h1 := conv_rd hp c
  have h2 := conv_rd hq d
  have h3 := sv_eq p q
  clear hp hq
  go_enter Try.func53, Try.ntmps53
  go_wp2_with fail
  go_ret
  exact ⟨by first | rfl | rw [h3], rfl⟩
theorem DoesV.loadS {P : Program} {ops : Array Oper} {T : World → Prop} {o : Oper} {a : Act} (hw : Region.wanted o (yielded ops a.tmps) = true) (ty : TypeId) (x : Operand) (ho : o.op = .load ty x) (b f : Nat) (hx : a.eval x = .pointer (some ⟨b, f, none⟩)) (cs : List Value) (hc : ∀ w, T w → At w b f cs) (d : TypeDesc) (hu : P.underlying ty = some d)
    (hd : (match d with | .struct _ | .array _ _ => true | _ => false) = true) (hi : (P.info? ty).map (·.size) = some cs.length) : DoesV P ops T o (.agg cs.toArray) a :=
  DoesV.reads hw fun w hT => by
    unfold execOp
    simp only [ho, hx, Instr.loadAt, Instr.sureAddr, Sem.run_bind, Sem.run_pure, Result.andThen_ok, run_loadVar_at w ty b f cs (hc w hT) d hu hd hi]
theorem slR_1 (b o len cap : Nat) (hk : 1 ≤ len) (hl : len ≤ cap) : ∃ o', (∀ W : World, (Instr.slice 36 (.slice (some ⟨b, o, none⟩) len cap) (some (.int .i64 1)) none none).run Try.prog W = .ok (.slice (some ⟨b, o', none⟩) (len - 1) (cap - 1)) W) ∧ (1 < cap → o' = o + 2) := by
  have ht' : Try.prog.underlying 36 = some (.slice (Try.prog.elem 36)) := by simp [Program.elem, Try.underlying36]
  have he : Try.prog.elem 36 = 50 := by simp [Program.elem, Try.underlying36]
  by_cases hc : cap = 1
  · refine ⟨o, fun W => ?_, fun h => by omega⟩
    rw [run_slice_l W 36 _ _ _ ht' .i64 1 (by omega) (by omega), he, Try.sizeOf50]
    show Result.ok (sliced (some ⟨b, o, none⟩) 1 len cap 2) W = _
    simp [sliced, hc]
  · refine ⟨o + 2, fun W => ?_, fun _ => rfl⟩
    rw [run_slice_l W 36 _ _ _ ht' .i64 1 (by omega) (by omega), he, Try.sizeOf50]
    show Result.ok (sliced (some ⟨b, o, none⟩) 1 len cap 2) W = _
    simp [sliced, Addr.add, hc]
theorem slC_1 (b o len cap : Nat) (hk : 1 ≤ len) (hl : len ≤ cap) : ∃ o', (∀ W : World, (Instr.slice 22 (.slice (some ⟨b, o, none⟩) len cap) (some (.int .i64 1)) none none).run Try.prog W = .ok (.slice (some ⟨b, o', none⟩) (len - 1) (cap - 1)) W) ∧ (1 < cap → o' = o + 3) := by
  have ht' : Try.prog.underlying 22 = some (.slice (Try.prog.elem 22)) := by simp [Program.elem, Try.underlying22]
  have he : Try.prog.elem 22 = 52 := by simp [Program.elem, Try.underlying22]
  by_cases hc : cap = 1
  · refine ⟨o, fun W => ?_, fun h => by omega⟩
    rw [run_slice_l W 22 _ _ _ ht' .i64 1 (by omega) (by omega), he, Try.sizeOf52]
    show Result.ok (sliced (some ⟨b, o, none⟩) 1 len cap 3) W = _
    simp [sliced, hc]
  · refine ⟨o + 3, fun W => ?_, fun _ => rfl⟩
    rw [run_slice_l W 22 _ _ _ ht' .i64 1 (by omega) (by omega), he, Try.sizeOf52]
    show Result.ok (sliced (some ⟨b, o, none⟩) 1 len cap 3) W = _
    simp [sliced, Addr.add, hc]
/-- a list's tail -/
theorem rdx_tail {α : Type} {E : Elem α} {w : World} {F : Nat → Prop} {b o o' cap : Nat} {x : α} {ls : List α} (h : RdX E w F (some ⟨b, o, none⟩) (x :: ls)) (hc : (x :: ls).length ≤ cap) (ho : 1 < cap → o' = o + E.n) : RdX E w F (some ⟨b, o', none⟩) ls := by
  by_cases hl : ls = []
  · exact .inl hl
  · have : 0 < ls.length := List.length_pos_iff.2 hl
    rw [List.length_cons] at hc
    rw [ho (by omega)]
    have := h.drop 1
    rwa [Nat.one_mul] at this

end Go.Proofs.Ytiemphfikfigdaa
