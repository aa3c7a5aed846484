/- What a status stands for. -/
import Derived.Maps.OwnSet
import Derived.Maps.Views
import Derived.Test.YtboalmmpcfiicaaDoorBacP
import Derived.Test.YtboalmmpcfiicaaDoorWordsK
namespace Go.Proofs.YtboalmmpcfiicaaDoor
open Go.RowKit Go.Shelf Go.Maps
set_option linter.unusedVariables false
set_option maxRecDepth 100000
set_option linter.unusedSimpArgs false

def errB (k : Nat) : Int := if k = 0 then 0 else if k = 1 then 12 else if k = 2 then 7 else if k = 3 then 8 else if k = 4 then 13 else if k = 5 then 13 else if k = 6 then 14 else if k = 7 then 10 else 2
def ky8 (k : Int) : Lit := .int .u8 k
def dI (x : Int) : DataW Unit := .lit (.int .i64 x)
def stD0 : DataW Unit := .map []
def stD : DataW Unit := ((((((((((stD0.put (ky8 0) (dI 0)).put (ky8 1) (dI 12)).put (ky8 2) (dI 7)).put (ky8 3) (dI 8)).put (ky8 4) (dI 13)).put (ky8 5) (dI 13)).put (ky8 6) (dI 14)).put (ky8 7) (dI 10)).put (ky8 8) (dI 2)).put (ky8 9) (dI 2))
theorem ukeyed : Keyed Tryd.prog 5 := int_keyed Tryd.underlying5
theorem zeroErrno (w : World) : (zeroValue 34).run Tryd.prog w = .ok (.int .i64 0) w := by kernel_rfl
theorem isM0 : IsMap stD0 := ⟨[], rfl⟩
theorem st_has (k : Nat) : Maps.has stD (ky8 (k : Int)) = decide (k ≤ 9) := by
  by_cases h : k ≤ 9
  · obtain rfl | rfl | rfl | rfl | rfl | rfl | rfl | rfl | rfl | rfl : k = 0 ∨ k = 1 ∨ k = 2 ∨ k = 3 ∨ k = 4 ∨ k = 5 ∨ k = 6 ∨ k = 7 ∨ k = 8 ∨ k = 9 := by omega
    all_goals decide +kernel
  · rw [decide_eq_false h]
    have ne : ∀ j : Int, j ≤ 9 → 0 ≤ j → ky8 (k : Int) ≠ ky8 j := fun j h1 h2 e => by
      injection e with _ e
      omega
    unfold stD
    rw [has_put_other (ne 9 (by decide) (by decide)), has_put_other (ne 8 (by decide) (by decide)), has_put_other (ne 7 (by decide) (by decide)), has_put_other (ne 6 (by decide) (by decide)), has_put_other (ne 5 (by decide) (by decide)), has_put_other (ne 4 (by decide) (by decide)), has_put_other (ne 3 (by decide) (by decide)), has_put_other (ne 2 (by decide) (by decide)), has_put_other (ne 1 (by decide) (by decide)), has_put_other (ne 0 (by decide) (by decide))]
    rfl
theorem st_at (k : Nat) (h : k ≤ 9) : stD.atKey (ky8 (k : Int)) (.lit (.int .i64 0)) = .lit (.int .i64 (errB k)) := by
  obtain rfl | rfl | rfl | rfl | rfl | rfl | rfl | rfl | rfl | rfl : k = 0 ∨ k = 1 ∨ k = 2 ∨ k = 3 ∨ k = 4 ∨ k = 5 ∨ k = 6 ∨ k = 7 ∨ k = 8 ∨ k = 9 := by omega
  all_goals rfl
/-- 'm[k] = v' of a map literal, at the operation -/
theorem wpList_insert_own {H : Type} {P : Program} (w : World) {ops : Array Oper} {rest : List Oper} {o : Oper} {a : Act} {Q : Exit → Act → World → Prop}
    (hg : o.guard = none) (m x v : Operand) (t : TypeId) (hop : o.op = Op.insert t m x v)
    (k e : TypeId) (K : Keyed P k) (ht : P.underlying t = some (.map k e)) (R : Value → Option (DataW H × List MemPlace)) (b n : Nat) (D : DataW H)
    (hm : a.eval m = .map (some b)) (hown : w.ownsMap P k R b n D) (hn : n < maxLen) (key val : Value) (kl : Lit) (hx : a.eval x = key) (hv : a.eval v = val) (hkey : keyOf P k key = some kl)
    (d : DataW H) (ps : List MemPlace) (hval : R val = some (d, ps))
    (hK : ∀ w', w'.ownsMap P k R b (n + 1) (D.put kl d) → w.grownBy w' (some b) → wpList P ops Q rest (a.put o.dst undef) w') :
    wpList P ops Q (o :: rest) a w := by
  refine wpList_plain hg fun K' hK' => ?_
  obtain ⟨w', hrun, r1, r2⟩ := hown.update K ht hn hkey hval
  unfold Oper.wp
  simp [execOp, hop, hm, hx, hv, hrun, Result.andThen]
  exact hK' _ _ (hK w' r1 r2)
theorem key8 (k : Int) (h : 0 ≤ k ∧ k < 256) : keyOf Tryd.prog 5 (.int .u8 k) = some (ky8 k) := keyOf_int_mk (P := Tryd.prog) Tryd.underlying5 (q := .u8) (a := k) (by simp [Lit.wf, IntKind.min, IntKind.max, IntKind.signed, IntKind.bits]; omega)
theorem val64 (x : Int) (h : 0 ≤ x ∧ x < 256) : plainElem (H := Unit) Tryd.prog 34 (.int .i64 x) = some (dI x, []) := plainElem_int Tryd.underlying34 (by simp [Lit.wf, IntKind.min, IntKind.max, IntKind.signed, IntKind.bits]; omega)
/-- the map of statuses -/
def StM (w : World) (g : Nat) : Prop := w.ownsMap Tryd.prog 5 (plainElem Tryd.prog 34) g 10 stD
theorem StM.below {w w' : World} {g : Nat} (h : StM w g) (hb : Below w.heap.size w w') : StM w' g := by
  obtain ⟨es, clock, h1, h2⟩ := h
  refine ⟨es, clock, ?_, h2⟩
  have hlt : g < w.heap.size := by
    rw [Array.getElem?_eq_some_iff] at h1
    exact h1.1
  exact (hb.block g hlt).trans h1
set_option maxHeartbeats 8000000 in
theorem statuses_v (w : World) : Calls Tryd.prog 43 #[] w fun e w' => e = .returned (.map (some w.heap.size)) ∧ StM w' w.heap.size ∧ Below w.heap.size w w' := by
  have hmm := @run_makeMap Tryd.prog
  have M0 := Lib.hid (World.ownsMap_made (H := Unit) w Tryd.prog 5 (plainElem Tryd.prog 34))
  have B0 := Lib.hid ((Below.refl w.heap.size w).alloc (Nat.le_refl _) (.map #[] 0))
  go_enter Tryd.func43, Tryd.ntmps43
  go_wp2_with (first
    | ((with_reducible show wpList _ _ _ _ _ (World.alloc w _)); refine wpList_insert_own _ rfl _ _ _ 72 rfl 5 34 ukeyed Tryd.underlying72 (plainElem Tryd.prog 34) w.heap.size 0 (stD0) rfl M0.out (by decide) (.int .u8 0) (.int .i64 0) (ky8 0) rfl rfl (key8 0 (by decide)) (dI 0) [] (val64 0 (by decide)) ?_; intro w1 hm hg; have M1 := Lib.hid hm; have B1 := Lib.hid (B0.out.grown hg B0.out.size (fun j hj => by cases hj; exact Nat.le_refl _)); clear hm hg; go_frame)
    | ((with_reducible show wpList _ _ _ _ _ w1); refine wpList_insert_own _ rfl _ _ _ 72 rfl 5 34 ukeyed Tryd.underlying72 (plainElem Tryd.prog 34) w.heap.size 1 ((stD0).put (ky8 0) (dI 0)) rfl M1.out (by decide) (.int .u8 1) (.int .i64 12) (ky8 1) rfl rfl (key8 1 (by decide)) (dI 12) [] (val64 12 (by decide)) ?_; intro w2 hm hg; have M2 := Lib.hid hm; have B2 := Lib.hid (B1.out.grown hg B1.out.size (fun j hj => by cases hj; exact Nat.le_refl _)); clear hm hg; go_frame)
    | ((with_reducible show wpList _ _ _ _ _ w2); refine wpList_insert_own _ rfl _ _ _ 72 rfl 5 34 ukeyed Tryd.underlying72 (plainElem Tryd.prog 34) w.heap.size 2 (((stD0).put (ky8 0) (dI 0)).put (ky8 1) (dI 12)) rfl M2.out (by decide) (.int .u8 2) (.int .i64 7) (ky8 2) rfl rfl (key8 2 (by decide)) (dI 7) [] (val64 7 (by decide)) ?_; intro w3 hm hg; have M3 := Lib.hid hm; have B3 := Lib.hid (B2.out.grown hg B2.out.size (fun j hj => by cases hj; exact Nat.le_refl _)); clear hm hg; go_frame)
    | ((with_reducible show wpList _ _ _ _ _ w3); refine wpList_insert_own _ rfl _ _ _ 72 rfl 5 34 ukeyed Tryd.underlying72 (plainElem Tryd.prog 34) w.heap.size 3 ((((stD0).put (ky8 0) (dI 0)).put (ky8 1) (dI 12)).put (ky8 2) (dI 7)) rfl M3.out (by decide) (.int .u8 3) (.int .i64 8) (ky8 3) rfl rfl (key8 3 (by decide)) (dI 8) [] (val64 8 (by decide)) ?_; intro w4 hm hg; have M4 := Lib.hid hm; have B4 := Lib.hid (B3.out.grown hg B3.out.size (fun j hj => by cases hj; exact Nat.le_refl _)); clear hm hg; go_frame)
    | ((with_reducible show wpList _ _ _ _ _ w4); refine wpList_insert_own _ rfl _ _ _ 72 rfl 5 34 ukeyed Tryd.underlying72 (plainElem Tryd.prog 34) w.heap.size 4 (((((stD0).put (ky8 0) (dI 0)).put (ky8 1) (dI 12)).put (ky8 2) (dI 7)).put (ky8 3) (dI 8)) rfl M4.out (by decide) (.int .u8 4) (.int .i64 13) (ky8 4) rfl rfl (key8 4 (by decide)) (dI 13) [] (val64 13 (by decide)) ?_; intro w5 hm hg; have M5 := Lib.hid hm; have B5 := Lib.hid (B4.out.grown hg B4.out.size (fun j hj => by cases hj; exact Nat.le_refl _)); clear hm hg; go_frame)
    | ((with_reducible show wpList _ _ _ _ _ w5); refine wpList_insert_own _ rfl _ _ _ 72 rfl 5 34 ukeyed Tryd.underlying72 (plainElem Tryd.prog 34) w.heap.size 5 ((((((stD0).put (ky8 0) (dI 0)).put (ky8 1) (dI 12)).put (ky8 2) (dI 7)).put (ky8 3) (dI 8)).put (ky8 4) (dI 13)) rfl M5.out (by decide) (.int .u8 5) (.int .i64 13) (ky8 5) rfl rfl (key8 5 (by decide)) (dI 13) [] (val64 13 (by decide)) ?_; intro w6 hm hg; have M6 := Lib.hid hm; have B6 := Lib.hid (B5.out.grown hg B5.out.size (fun j hj => by cases hj; exact Nat.le_refl _)); clear hm hg; go_frame)
    | ((with_reducible show wpList _ _ _ _ _ w6); refine wpList_insert_own _ rfl _ _ _ 72 rfl 5 34 ukeyed Tryd.underlying72 (plainElem Tryd.prog 34) w.heap.size 6 (((((((stD0).put (ky8 0) (dI 0)).put (ky8 1) (dI 12)).put (ky8 2) (dI 7)).put (ky8 3) (dI 8)).put (ky8 4) (dI 13)).put (ky8 5) (dI 13)) rfl M6.out (by decide) (.int .u8 6) (.int .i64 14) (ky8 6) rfl rfl (key8 6 (by decide)) (dI 14) [] (val64 14 (by decide)) ?_; intro w7 hm hg; have M7 := Lib.hid hm; have B7 := Lib.hid (B6.out.grown hg B6.out.size (fun j hj => by cases hj; exact Nat.le_refl _)); clear hm hg; go_frame)
    | ((with_reducible show wpList _ _ _ _ _ w7); refine wpList_insert_own _ rfl _ _ _ 72 rfl 5 34 ukeyed Tryd.underlying72 (plainElem Tryd.prog 34) w.heap.size 7 ((((((((stD0).put (ky8 0) (dI 0)).put (ky8 1) (dI 12)).put (ky8 2) (dI 7)).put (ky8 3) (dI 8)).put (ky8 4) (dI 13)).put (ky8 5) (dI 13)).put (ky8 6) (dI 14)) rfl M7.out (by decide) (.int .u8 7) (.int .i64 10) (ky8 7) rfl rfl (key8 7 (by decide)) (dI 10) [] (val64 10 (by decide)) ?_; intro w8 hm hg; have M8 := Lib.hid hm; have B8 := Lib.hid (B7.out.grown hg B7.out.size (fun j hj => by cases hj; exact Nat.le_refl _)); clear hm hg; go_frame)
    | ((with_reducible show wpList _ _ _ _ _ w8); refine wpList_insert_own _ rfl _ _ _ 72 rfl 5 34 ukeyed Tryd.underlying72 (plainElem Tryd.prog 34) w.heap.size 8 (((((((((stD0).put (ky8 0) (dI 0)).put (ky8 1) (dI 12)).put (ky8 2) (dI 7)).put (ky8 3) (dI 8)).put (ky8 4) (dI 13)).put (ky8 5) (dI 13)).put (ky8 6) (dI 14)).put (ky8 7) (dI 10)) rfl M8.out (by decide) (.int .u8 8) (.int .i64 2) (ky8 8) rfl rfl (key8 8 (by decide)) (dI 2) [] (val64 2 (by decide)) ?_; intro w9 hm hg; have M9 := Lib.hid hm; have B9 := Lib.hid (B8.out.grown hg B8.out.size (fun j hj => by cases hj; exact Nat.le_refl _)); clear hm hg; go_frame)
    | ((with_reducible show wpList _ _ _ _ _ w9); refine wpList_insert_own _ rfl _ _ _ 72 rfl 5 34 ukeyed Tryd.underlying72 (plainElem Tryd.prog 34) w.heap.size 9 ((((((((((stD0).put (ky8 0) (dI 0)).put (ky8 1) (dI 12)).put (ky8 2) (dI 7)).put (ky8 3) (dI 8)).put (ky8 4) (dI 13)).put (ky8 5) (dI 13)).put (ky8 6) (dI 14)).put (ky8 7) (dI 10)).put (ky8 8) (dI 2)) rfl M9.out (by decide) (.int .u8 9) (.int .i64 2) (ky8 9) rfl rfl (key8 9 (by decide)) (dI 2) [] (val64 2 (by decide)) ?_; intro w10 hm hg; have M10 := Lib.hid hm; have B10 := Lib.hid (B9.out.grown hg B9.out.size (fun j hj => by cases hj; exact Nat.le_refl _)); clear hm hg; go_frame)
    | fail)
  go_ret
  exact ⟨rfl, M10.out, B10.out⟩
theorem dI_inj {er c : Int} {D : DataW Unit} (h1 : D = .lit (.int .i64 er)) (h2 : D = .lit (.int .i64 c)) : c = er := by
  rw [h1] at h2
  injection h2 with h2
  injection h2 with _ h2
  exact h2.symm
set_option maxHeartbeats 4000000 in
theorem Errno_v (k : Nat) (hk : k < 256) (w : World) : Calls Tryd.prog 17 #[.int .u8 (k : Int)] w fun e w' => e = .returned (.int .i64 (if k ≤ 9 then errB k else 2)) ∧ Below w.heap.size w w' := by
  have HK := Lib.hid (key8 (k : Int) (by omega))
  have hh := st_has k
  have ha := st_at k
  by_cases h9 : k ≤ 9
  · rw [decide_eq_true h9] at hh
    have ha9 := ha h9
    rw [if_pos h9]
    have HH := Lib.hid hh
    have HA := Lib.hid ha9
    clear ha9
    clear hh ha h9 hk
    generalize errB k = er at *
    go_enter Tryd.func17, Tryd.ntmps17
    go_wp2_with fail
    refine (statuses_v w).mono ?_
    rintro e w1 ⟨rfl, hs, hb⟩
    have HS := Lib.hid hs
    have HB := Lib.hid hb
    clear hs hb
    go_wp2_with (at_lookup; refine wpList_lookup_own_ok_int _ rfl _ _ 72 rfl 5 34 .i64 ukeyed Tryd.underlying72 Tryd.underlying34 (zeroErrno _) _ 10 stD rfl HS.out _ _ rfl HK.out ?_; intro c hat hwc; rw [HH.out]; have hat2 := dI_inj HA.out hat; subst hat2; clear hat hwc; go_frame)
    go_ret
    exact ⟨rfl, HB.out⟩
  · rw [decide_eq_false h9] at hh
    rw [if_neg h9]
    have HH := Lib.hid hh
    clear hh ha h9 hk
    go_enter Tryd.func17, Tryd.ntmps17
    go_wp2_with fail
    refine (statuses_v w).mono ?_
    rintro e w1 ⟨rfl, hs, hb⟩
    have HS := Lib.hid hs
    have HB := Lib.hid hb
    clear hs hb
    go_wp2_with (at_lookup; refine wpList_lookup_own_ok_int _ rfl _ _ 72 rfl 5 34 .i64 ukeyed Tryd.underlying72 Tryd.underlying34 (zeroErrno _) _ 10 stD rfl HS.out _ _ rfl HK.out ?_; intro c hat hwc; rw [HH.out]; clear hat hwc; go_frame)
    go_ret
    exact ⟨rfl, HB.out⟩

end Go.Proofs.YtboalmmpcfiicaaDoor
