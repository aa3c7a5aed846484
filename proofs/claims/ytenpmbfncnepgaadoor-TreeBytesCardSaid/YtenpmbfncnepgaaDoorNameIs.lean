/- name.Is. -/
import Derived.Test.YtenpmbfncnepgaaDoorNameLeaf
namespace Go.Proofs.YtenpmbfncnepgaaDoor
open Go.RowKit Go.Shelf Go.Lib Go.ChangeShapes Go.WideShapes Go.ChangeAt
set_option linter.unusedVariables false

/-- the tests ahead of the loop -/
def headL (l : List UInt8) : Bool := !(l == []) && decide (l.length ≤ 32) && !(l == [46]) && !(l == [46, 46])
theorem nameL_head (l : List UInt8) : nameL l = (headL l && goodL l) := rfl

theorem toList_L (s : ByteArray) : s.toList = L s := Lib.toList_data s

set_option maxHeartbeats 1000000 in
theorem Is_no (s : ByteArray) (h : headL (L s) = false) (w : World) :
    Calls Tryd.prog 42 #[.string s] w fun e w' => e = .returned (.bool false) ∧ Below w.heap.size w w' := by
  by_cases h0 : s.toList = []
  · have b0 : s.toList.isEmpty = true := by rw [h0]; rfl
    clear h
    go_enter Tryd.func42, Tryd.ntmps42
    go_wp2
    go_ret
    exact ⟨rfl, Below.refl _ _⟩
  have b0 : s.toList.isEmpty = false := by simpa using h0
  by_cases h1 : (32 : Int) < (s.size : Int)
  · have d1 : decide ((32 : Int) < (s.size : Int)) = true := by simpa using h1
    clear h h0
    go_enter Tryd.func42, Tryd.ntmps42
    go_wp2
    go_ret
    exact ⟨rfl, Below.refl _ _⟩
  have d1 : decide ((32 : Int) < (s.size : Int)) = false := by simpa using h1
  by_cases h2 : s.toList = [46]
  · have e2 : (s.toList == [46]) = true := by simpa using h2
    clear h h0 h1
    go_enter Tryd.func42, Tryd.ntmps42
    go_wp2
    go_ret
    exact ⟨rfl, Below.refl _ _⟩
  have e2 : (s.toList == [46]) = false := by simpa using h2
  by_cases h3 : s.toList = [46, 46]
  · have e3 : (s.toList == [46, 46]) = true := by simpa using h3
    clear h h0 h1 h2 h3
    go_enter Tryd.func42, Tryd.ntmps42
    go_wp2
    go_ret
    exact ⟨rfl, Below.refl _ _⟩
  · exfalso
    rw [toList_L] at h0 h2 h3
    have hl : (L s).length ≤ 32 := by rw [← L_size]; omega
    have hh : headL (L s) = true := by
      unfold headL
      rw [beq_eq_false_iff_ne.2 h0, beq_eq_false_iff_ne.2 h2, beq_eq_false_iff_ne.2 h3, decide_eq_true hl]
      rfl
    rw [hh] at h
    cases h

/-- pos bytes are behind, all well -/
def IsI (s : ByteArray) (pos : Nat) : Prop := goodL (L s) = goodL ((L s).drop pos) ∧ pos ≤ s.size
theorem IsI.step {s : ByteArray} {pos : Nat} (h : IsI s pos) (hp : pos < s.size) (hb : brkL ((L s).drop pos) = false) (hr : okRune (decL ((L s).drop pos)).1 = true) : IsI s (pos + (decL ((L s).drop pos)).2) := by
  have h2 := decL_le (drop_ne hp) hb
  rw [List.length_drop, ← L_size] at h2
  refine ⟨?_, by omega⟩
  rw [h.1, goodL_step (drop_ne hp) hb, hr, List.drop_drop, Bool.true_and]
theorem IsI.broken {s : ByteArray} {pos : Nat} (h : IsI s pos) (hp : pos < s.size) (hb : brkL ((L s).drop pos) = true) : goodL (L s) = false := by
  rw [h.1, goodL_brk (drop_ne hp) hb]
theorem IsI.bad {s : ByteArray} {pos : Nat} (h : IsI s pos) (hp : pos < s.size) (hb : brkL ((L s).drop pos) = false) (hr : okRune (decL ((L s).drop pos)).1 = false) : goodL (L s) = false := by
  rw [h.1, goodL_step (drop_ne hp) hb, hr, Bool.false_and]
theorem IsI.over {s : ByteArray} {pos : Nat} (h : IsI s pos) (hp : ¬ pos < s.size) : goodL (L s) = true := by
  rw [h.1, List.drop_of_length_le (by rw [← L_size]; omega), goodL_nil]

set_option maxHeartbeats 1000000 in
theorem Is_loop (s : ByteArray) (h : headL (L s) = true) (w : World) (hT : Tabs w) :
    Calls Tryd.prog 42 #[.string s] w fun e w' => e = .returned (.bool (goodL (L s))) ∧ Below w.heap.size w w' := by
  have hh : (L s) ≠ [] ∧ (L s).length ≤ 32 ∧ (L s) ≠ [46] ∧ (L s) ≠ [46, 46] := by
    simp only [headL, Bool.and_eq_true, Bool.not_eq_true', decide_eq_true_eq, beq_eq_false_iff_ne] at h
    exact ⟨h.1.1.1, h.1.1.2, h.1.2, h.2⟩
  obtain ⟨h0, h1, h2, h3⟩ := hh
  rw [← L_size] at h1
  have hbr := fun (i : Nat) (r : Int) (hi : i < s.size) (hr : r = ((decL ((L s).drop i)).1 : Int)) (W : World) (hW : Tabs W) => isBroken_any s i r hi (by omega) hr W hW
  rw [← toList_L] at h0 h2 h3
  have b0 : s.toList.isEmpty = false := by simpa using h0
  have d1 : decide ((32 : Int) < (s.size : Int)) = false := by simp; omega
  have e2 : (s.toList == [46]) = false := by simpa using h2
  have e3 : (s.toList == [46, 46]) = false := by simpa using h3
  have HT := Lib.hid hT
  clear h hT h0 h2 h3
  go_enter Tryd.func42, Tryd.ntmps42
  go_wp2
  clear b0 d1 e2 e3
  go_loopw [] (fun wr => ∃ (pos : Nat), IsI s pos ∧ wr.heap[w.heap.size]? = some (.stringIter s pos) ∧ Below w.heap.size w wr) (fun wr => s.size - wr.iterPos w.heap.size)
  case atStart => exact ⟨0, ⟨by rw [List.drop_zero], Nat.zero_le _⟩, World.alloc_heap_new w _, (Below.refl _ _).alloc (Nat.le_refl _) _⟩
  case round =>
    obtain ⟨pos, hI, hit, hB⟩ := hrel
    have hps := hI.2
    by_cases hp : pos < s.size
    · have hnx : ∀ ty, (Instr.next (.pointer (some ⟨w.heap.size, 0, none⟩)) true ty).run Tryd.prog wr = _ := fun ty => Lib.run_next_any_at wr w.heap.size s pos ty hit hp
      rw [decode_drop] at hnx
      have hstep := fun hb hr => hI.step hp hb hr
      have hbrk := fun hb => hI.broken hp hb
      have hbad := fun hb hr => hI.bad hp hb hr
      have hc := hbr pos _ hp rfl (wr.iterAt w.heap.size s (pos + (decL ((L s).drop pos)).2)) (HT.out.below (Lib.below_iterAt hB (Nat.le_refl _) s _))
      have hit2 := Lib.iterAt_heap wr w.heap.size s pos (pos + (decL ((L s).drop pos)).2) hit
      have hB2 := Lib.below_iterAt hB (Nat.le_refl _) s (pos + (decL ((L s).drop pos)).2)
      have hit0 := Lib.hid hit
      have hms := mayStand_any ((decL ((L s).drop pos)).1 : Int) (by omega)
      rw [Int.toNat_natCast] at hms
      generalize hdd : decL ((L s).drop pos) = d at *
      replace hdd := Lib.hid hdd
      generalize brkL ((L s).drop pos) = bk at *
      generalize okRune d.1 = ok at *
      have HS := Lib.hid hstep
      have HK := Lib.hid hbrk
      have HBad := Lib.hid hbad
      have HI2 := Lib.hid hit2
      clear hstep hbrk hbad hit2 hit hI
      have hd1 : 1 ≤ d.2 := by rw [← hdd.out]; exact decL_pos _
      have hpos : wr.iterPos w.heap.size = pos := by unfold World.iterPos; rw [hit0.out]
      have HP := Lib.hid hpos
      clear hpos
      go_wp2_with fail
      refine hc.mono ?_
      clear hc
      rintro e w2 ⟨rfl, hb2⟩
      have hit3 : w2.heap[w.heap.size]? = some (.stringIter s (pos + d.2)) := (hb2.block _ (Array.getElem?_eq_some_iff.1 HI2.out).1).trans HI2.out
      have hB3 := hB2.trans (hb2.mono hB2.size)
      have HI3 := Lib.hid hit3
      clear hit3
      cases bk
      · clear HK
        go_wp2_with fail
        refine (hms w2).mono ?_
        clear hms
        rintro e _ ⟨rfl, rfl⟩
        cases ok
        · have hno := Lib.hid (HBad.out (by first | trivial | rfl) (by first | trivial | rfl))
          clear HS HBad
          go_wp2
          go_ret
          rw [hno.out]
          exact ⟨rfl, hB3⟩
        · have hI3 := Lib.hid (HS.out (by first | trivial | rfl) (by first | trivial | rfl))
          clear HS HBad
          go_wp2
          go_roundw
          case rel => exact ⟨pos + d.2, hI3.out, HI3.out, hB3⟩
          case measure =>
            have : w2.iterPos w.heap.size = pos + d.2 := by unfold World.iterPos; rw [HI3.out]
            rw [this, HP.out]
            omega
      · have hno := Lib.hid (HK.out rfl)
        clear HS HBad
        go_wp2
        go_ret
        rw [hno.out]
        exact ⟨rfl, hB3⟩
    · have hnx : ∀ ty, (Instr.next (.pointer (some ⟨w.heap.size, 0, none⟩)) true ty).run Tryd.prog wr = _ := fun ty => Lib.run_next_end_at wr w.heap.size s pos ty hit hp
      have hov := Lib.hid (hI.over hp)
      clear hit hI
      go_wp2
      go_ret
      rw [hov.out]
      exact ⟨rfl, hB⟩

theorem Is_any (s : ByteArray) (w : World) (hT : Tabs w) :
    Calls Tryd.prog 42 #[.string s] w fun e w' => e = .returned (.bool (nameL (L s))) ∧ Below w.heap.size w w' := by
  rw [nameL_head]
  cases h : headL (L s)
  · exact Is_no s h w
  · rw [Bool.true_and]; exact Is_loop s h w hT
end Go.Proofs.YtenpmbfncnepgaaDoor
