/- What the calls of a kind have; which may be. -/
import Derived.Test.YthfaemcpheecfaaDoorCalP
import Derived.Test.YthfaemcpheecfaaDoorNameIs
namespace Go.Proofs.YthfaemcpheecfaaDoor
open Go.RowKit Go.Shelf
set_option linter.unusedVariables false
set_option maxRecDepth 100000
set_option linter.unusedSimpArgs false

theorem rowZero (w : World) : (zeroValue 66).run Tryd.prog w = .ok (.agg (kCells kNone).toArray) w := by kernel_rfl
theorem callZero (w : World) : (zeroValue 28).run Tryd.prog w = .ok (.agg (calCells calZero (.slice none 0 0)).toArray) w := by kernel_rfl
theorem infoRow : (Tryd.prog.info? 66).map (·.size) = some 5 := by kernel_rfl
theorem infoCall : (Tryd.prog.info? 28).map (·.size) = some 13 := by kernel_rfl
theorem row_end {fn : Func} {K : Ending → World → Prop} {tmps : Array Value} {w : World} {g : Nat} {cs : List Value} {x : Value} (h : fn.results = #[.cell 2 66, .tmp 3]) (hl : cs.length = 5) (hc : Cs w g 66 cs.toArray) (hp : tmps.getD 2 undef = .pointer (some ⟨g, 0, none⟩)) (hx : tmps.getD 3 undef = x)
    (hK : K (.returned (.tuple #[.agg cs.toArray, x])) w) : bodyPost Tryd.prog fn K Exit.ret { tmps := tmps, defers := [] } w :=
  bodyPost_ret (by rw [results_agg_tmp (P := Tryd.prog) (p := 2) (u := 3) (ty := 66) h tmps w g 0 cs hp (At.whole hc) _ Tryd.underlying66 rfl (by rw [hl]; exact infoRow), hx]) rfl hK
theorem cal_end {fn : Func} {K : Ending → World → Prop} {tmps : Array Value} {w : World} {g : Nat} {cs : List Value} {x : Value} (h : fn.results = #[.cell 2 28, .tmp 3]) (hl : cs.length = 13) (hc : Cs w g 28 cs.toArray) (hp : tmps.getD 2 undef = .pointer (some ⟨g, 0, none⟩)) (hx : tmps.getD 3 undef = x)
    (hK : K (.returned (.tuple #[.agg cs.toArray, x])) w) : bodyPost Tryd.prog fn K Exit.ret { tmps := tmps, defers := [] } w :=
  bodyPost_ret (by rw [results_agg_tmp (P := Tryd.prog) (p := 2) (u := 3) (ty := 28) h tmps w g 0 cs hp (At.whole hc) _ Tryd.underlying28 rfl (by rw [hl]; exact infoCall), hx]) rfl hK
theorem below_new1 (w : World) (o : Obj) : Below w.heap.size w (w.alloc o) := (Below.refl w.heap.size w).alloc (Nat.le_refl _) o
theorem kRow_no (k : Nat) (h : kindX k = false) : kRow k = kNone := by
  have e := kind_no k h
  unfold kRow
  rw [if_neg (e 2 (by decide) (by decide)), if_neg (by have a := e 3 (by decide) (by decide); have b := e 7 (by decide) (by decide); have c := e 8 (by decide) (by decide); have d := e 9 (by decide) (by decide); have f := e 10 (by decide) (by decide); omega), if_neg (e 4 (by decide) (by decide)), if_neg (e 5 (by decide) (by decide)), if_neg (e 11 (by decide) (by decide))]
theorem kind_ne (k : Nat) (h : kindX k = false) (j : Nat) (h1 : 1 ≤ j) (h2 : j ≤ 12) : ((k : Int) == (j : Int)) = false := by
  have e := kind_no k h j h1 h2
  rw [beq_eq_false_iff_ne]
  omega
set_option maxHeartbeats 4000000 in
theorem rowOf_v (k : Nat) (w : World) : Calls Tryd.prog 33 #[.int .u8 (k : Int)] w fun e w' => e = .returned (.tuple #[.agg (kCells (kRow k)).toArray, .bool (kindX k)]) ∧ Below w.heap.size w w' := by
  by_cases h : kindX k = true
  · rcases kind_cases k h with rfl | rfl | rfl | rfl | rfl | rfl | rfl | rfl | rfl | rfl | rfl | rfl
    all_goals
      clear h
      go_enter Tryd.func33, Tryd.ntmps33
      go_wp2_with fail
      exact row_end (cs := [_, _, _, _, _]) rfl rfl (Cs.new w _ _) rfl rfl ⟨rfl, below_new1 w _⟩
  · have h := Bool.not_eq_true _ ▸ h
    rw [kRow_no k h, h]
    have e1 := kind_ne k h 1 (by decide) (by decide)
    have e2 := kind_ne k h 2 (by decide) (by decide)
    have e3 := kind_ne k h 3 (by decide) (by decide)
    have e4 := kind_ne k h 4 (by decide) (by decide)
    have e5 := kind_ne k h 5 (by decide) (by decide)
    have e6 := kind_ne k h 6 (by decide) (by decide)
    have e7 := kind_ne k h 7 (by decide) (by decide)
    have e8 := kind_ne k h 8 (by decide) (by decide)
    have e9 := kind_ne k h 9 (by decide) (by decide)
    have e10 := kind_ne k h 10 (by decide) (by decide)
    have e11 := kind_ne k h 11 (by decide) (by decide)
    have e12 := kind_ne k h 12 (by decide) (by decide)
    clear h
    go_enter Tryd.func33, Tryd.ntmps33
    go_wp2_with fail
    exact row_end (cs := [_, _, _, _, _]) rfl rfl (Cs.new w _ _) rfl rfl ⟨rfl, below_new1 w _⟩
theorem toL (s : ByteArray) : s.toList = L s := Lib.toList_data s
set_option maxHeartbeats 4000000 in
theorem mayName_v (r : KRow) (c : CallX) (v : Value) (w : World) (hv : v.oneCell' = true) (hT : Tabs w) : Calls Tryd.prog 34 #[.agg (kCells r).toArray, .agg (calCells c v).toArray] w fun e w' => e = .returned (.bool (mayNameX r.name c.name)) ∧ Below w.heap.size w w' := by
  obtain ⟨off, size, name, to, data⟩ := r
  have HI := fun u (hb : Below w.heap.size w u) => Is_any c.name u (hT.below hb)
  have HI := Lib.hid HI
  cases name
  · show Calls _ _ _ _ fun e w' => e = .returned (.bool (L c.name).isEmpty) ∧ _
    rw [← toL]
    unfold calCells kCells
    clear hT
    go_enter Tryd.func34, Tryd.ntmps34
    go_wp2_with fail
    go_ret
    exact ⟨rfl, below_chain (below_new1 w _) (below_new1 _ _)⟩
  · show Calls _ _ _ _ fun e w' => e = .returned (.bool (nameL (L c.name))) ∧ _
    unfold calCells kCells
    clear hT
    go_enter Tryd.func34, Tryd.ntmps34
    go_wp2_with fail
    refine (HI.out _ (below_chain (below_new1 w _) (below_new1 _ _))).mono ?_
    rintro e w1 ⟨rfl, hb⟩
    have HB := Lib.hid (below_chain (below_chain (below_new1 w _) (below_new1 _ _)) hb)
    clear hb
    go_wp2_with fail
    go_ret
    exact ⟨rfl, HB.out⟩
set_option maxHeartbeats 4000000 in
theorem mayTo_v (r : KRow) (c : CallX) (v : Value) (w : World) (hv : v.oneCell' = true) (hT : Tabs w) : Calls Tryd.prog 35 #[.agg (kCells r).toArray, .agg (calCells c v).toArray] w fun e w' => e = .returned (.bool (mayToX r.to c)) ∧ Below w.heap.size w w' := by
  obtain ⟨off, size, name, to, data⟩ := r
  have HI := fun u (hb : Below w.heap.size w u) => Is_any c.toname u (hT.below hb)
  have HI := Lib.hid HI
  have e1 : (c.tino == 0) = ((c.tino : Int) == 0) := by rw [Bool.eq_iff_iff]; simp
  have e2 : (c.tgen == 0) = ((c.tgen : Int) == 0) := by rw [Bool.eq_iff_iff]; simp
  cases to
  · show Calls _ _ _ _ fun e w' => e = .returned (.bool ((c.tino == 0 && c.tgen == 0) && (L c.toname).isEmpty)) ∧ _
    rw [← toL, e1, e2]
    unfold calCells kCells
    clear hT e1 e2
    rcases h1 : ((c.tino : Int) == 0) with _ | _
    · have HP := Lib.hid h1
      go_enter Tryd.func35, Tryd.ntmps35
      go_wp2_with fail
      go_ret
      exact ⟨rfl, below_chain (below_new1 w _) (below_new1 _ _)⟩
    · rcases h2 : ((c.tgen : Int) == 0) with _ | _
      all_goals
        go_enter Tryd.func35, Tryd.ntmps35
        go_wp2_with fail
        go_ret
        exact ⟨rfl, below_chain (below_new1 w _) (below_new1 _ _)⟩
  · show Calls _ _ _ _ fun e w' => e = .returned (.bool (nameL (L c.toname))) ∧ _
    unfold calCells kCells
    clear hT e1 e2
    go_enter Tryd.func35, Tryd.ntmps35
    go_wp2_with fail
    refine (HI.out _ (below_chain (below_new1 w _) (below_new1 _ _))).mono ?_
    rintro e w1 ⟨rfl, hb⟩
    have HB := Lib.hid (below_chain (below_chain (below_new1 w _) (below_new1 _ _)) hb)
    clear hb
    go_wp2_with fail
    go_ret
    exact ⟨rfl, HB.out⟩
set_option maxHeartbeats 4000000 in
theorem mayData_v (r : KRow) (l : List UInt8) (A : Option Addr) (cp : Nat) (w : World) : Calls Tryd.prog 36 #[.agg (kCells r).toArray, .slice A l.length cp] w fun e w' => e = .returned (.bool (mayDataX r.data l)) ∧ Below w.heap.size w w' := by
  obtain ⟨off, size, name, to, data⟩ := r
  have e0 : (l.length == 0) = ((l.length : Int) == 0) := by rw [Bool.eq_iff_iff]; simp
  have e1 : decide (0 < l.length) = decide (0 < (l.length : Int)) := decide_eq_decide.2 (by omega)
  have e2 : decide (l.length ≤ 64) = decide ((l.length : Int) ≤ 64) := decide_eq_decide.2 (by omega)
  cases data
  · show Calls _ _ _ _ fun e w' => e = .returned (.bool (l.length == 0)) ∧ _
    rw [e0]
    unfold kCells
    clear e0 e1 e2
    go_enter Tryd.func36, Tryd.ntmps36
    go_wp2_with fail
    go_ret
    exact ⟨rfl, below_new1 w _⟩
  · show Calls _ _ _ _ fun e w' => e = .returned (.bool (decide (0 < l.length) && decide (l.length ≤ 64))) ∧ _
    rw [e1, e2]
    unfold kCells
    clear e0 e1 e2
    by_cases h0 : l = []
    · subst h0
      go_enter Tryd.func36, Tryd.ntmps36
      go_wp2_with fail
      go_ret
      exact ⟨rfl, below_new1 w _⟩
    · have h1 : decide (0 < (l.length : Int)) = true := by
        have := List.length_pos_iff.2 h0
        exact decide_eq_true (by omega)
      have h2 : 0 < l.length := List.length_pos_iff.2 h0
      rw [h1]
      clear h0
      go_enter Tryd.func36, Tryd.ntmps36
      go_wp2_with fail
      go_ret
      exact ⟨rfl, below_new1 w _⟩

end Go.Proofs.YthfaemcpheecfaaDoor
