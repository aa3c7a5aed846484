/- The leaves of package name: a rune that is none, runes that may stand, Runes and Is. -/
import Derived.Below
import Derived.BigQuiet
import Derived.Deep.QuietTactic
import Derived.Lib.Hide
import Derived.Lib.OthersKept
import Derived.LoopTactic
import Derived.Outline
import Derived.Test.YtenpmbfncnepgaaDoorNamePlain
import Derived.Test.YtenpmbfncnepgaaDoorShelf
import Derived.Test.YtenpmbfncnepgaaDoorWordsK
import Derived.WalkKit
import Derived.WalkLawsBesides
import Derived.WalkSpells
namespace Go.Proofs.YtenpmbfncnepgaaDoor
open Go.RowKit Go.Shelf Go.Lib Go.ChangeShapes Go.WideShapes Go.ChangeAt
set_option linter.unusedVariables false

/-- the two tables of the decoder -/
abbrev Tabs (w : World) : Prop := Lib.Utf8Tabs 1 2 w
theorem cell_lt {W : World} {b o : Nat} {v : Value} (h : W.cell? ⟨b, o, none⟩ = some v) : b < W.heap.size := lt_of_cell h
theorem Tabs.below {w w' : World} (h : Tabs w) (hb : Below w.heap.size w w') : Tabs w' :=
  ⟨fun c hc => (hb.cell (cell_lt (h.1 c hc))).trans (h.1 c hc), fun i hi => ⟨(hb.cell (cell_lt (h.2 i hi).1)).trans (h.2 i hi).1, (hb.cell (cell_lt (h.2 i hi).2)).trans (h.2 i hi).2⟩⟩

/-- the list of a text's bytes -/
abbrev L (s : ByteArray) : List UInt8 := s.data.toList
theorem L_size (s : ByteArray) : s.size = (L s).length := Lib.size_eq s

theorem mayStand_any (r : Int) (h0 : 0 ≤ r) (w : World) : Calls Tryd.prog 68 #[.int .i32 r] w fun e w' => e = .returned (.bool (okRune r.toNat)) ∧ w = w' := by
  by_cases h1 : 31 < r
  · have d1 : decide (31 < r) = true := by simpa using h1
    by_cases h2 : r = 127
    · have hs : okRune r.toNat = false := by subst h2; decide
      subst h2
      rw [hs]; clear hs
      go_enter Tryd.func68, Tryd.ntmps68
      go_wp2
      go_ret
      exact ⟨rfl, rfl⟩
    · have d2 : (r == 127) = false := by simpa using h2
      have d2' : (r != 127) = true := by simpa using h2
      by_cases h3 : r = 47
      · have hs : okRune r.toNat = false := by subst h3; decide
        subst h3
        rw [hs]; clear hs
        go_enter Tryd.func68, Tryd.ntmps68
        go_wp2
        go_ret
        exact ⟨rfl, rfl⟩
      · have d3 : (r == 47) = false := by simpa using h3
        have d3' : (r != 47) = true := by simpa using h3
        have hs : okRune r.toNat = true := by simp [okRune]; omega
        rw [hs]; clear hs
        go_enter Tryd.func68, Tryd.ntmps68
        go_wp2
        go_ret
        exact ⟨rfl, rfl⟩
  · have d1 : decide (31 < r) = false := by simpa using h1
    have hs : okRune r.toNat = false := by simp [okRune]; omega
    rw [hs]; clear hs
    go_enter Tryd.func68, Tryd.ntmps68
    go_wp2
    go_ret
    exact ⟨rfl, rfl⟩

/-- the decoder at a place of a text -/
theorem decodeGo_drop (s : ByteArray) (i : Nat) (h : i < s.size) : Lib.decodeGo (s.extract i s.size) = decL ((L s).drop i) := by
  have e : (s.extract i s.size).data.toList = (L s).drop i := by
    rw [Lib.extract_data, List.take_of_length_le]
    rw [List.length_drop, L_size]
    exact Nat.le_refl _
  unfold Lib.decodeGo
  rw [if_neg (by rw [Lib.size_eq, e, List.length_drop, ← L_size]; omega), decode_drop, e, List.drop_zero]

theorem isBroken_any (s : ByteArray) (i : Nat) (r : Int) (hi : i < s.size) (hs : s.size ≤ 281474976710656) (hr : r = ((decL ((L s).drop i)).1 : Int)) (w : World) (hT : Tabs w) :
    Calls Tryd.prog 67 #[.string s, .int .i64 i, .int .i32 r] w fun e w' => e = .returned (.bool (brkL ((L s).drop i))) ∧ Below w.heap.size w w' := by
  have hd := decodeGo_drop s i hi
  have hsl : s.size < 9223372036854775808 := by omega
  by_cases h : (decL ((L s).drop i)).1 = 65533
  · have hb : brkL ((L s).drop i) = ((decL ((L s).drop i)).2 == 1) := by simp [brkL, h]
    rw [hb, hr, h]
    clear hr
    have hc := Tryd.utf8_DecodeRuneInString (s.extract i s.size) w hT
    rw [hd] at hc
    have hp := decL_pos ((L s).drop i)
    generalize decL ((L s).drop i) = d at *
    have hil : (i : Int) ≤ (s.size : Int) := by omega
    obtain ⟨d1, d2⟩ := d
    dsimp only at *
    subst h
    have eb : ((d2 : Int) == 1) = (d2 == 1) := by
      rw [Bool.eq_iff_iff]; simp; omega
    have HD := Lib.hid hd
    have HB := Lib.hid hb
    have HE := Lib.hid eb
    clear hd hb hT eb
    go_enter Tryd.func67, Tryd.ntmps67
    go_wp2_with fail
    refine hc.mono ?_
    clear hc
    rintro e w1 ⟨rfl, hb1⟩
    go_wp2
    go_ret
    exact ⟨by rw [← HE.out]; rfl, hb1⟩
  · have hb : brkL ((L s).drop i) = false := by simp [brkL, h]
    rw [hb]
    have hne : (r == 65533) = false := by rw [hr]; simp; omega
    have hne' : (r != 65533) = true := by rw [bne, hne]; rfl
    clear hb hd hr h
    go_enter Tryd.func67, Tryd.ntmps67
    go_wp2
    go_ret
    exact ⟨rfl, Below.refl _ _⟩

/-- what Runes answers -/
def runesV (l : List UInt8) : Value := match runesL l with | some n => .tuple #[.int .i64 (n : Int), .bool true] | none => .tuple #[.int .i64 0, .bool false]
theorem runesV_some {l : List UInt8} {n : Nat} (h : runesL l = some n) : runesV l = .tuple #[.int .i64 (n : Int), .bool true] := by simp [runesV, h]
theorem runesV_none {l : List UInt8} (h : runesL l = none) : runesV l = .tuple #[.int .i64 0, .bool false] := by simp [runesV, h]

/-- k runes have come, pos bytes are behind -/
def RunesI (s : ByteArray) (k pos : Nat) : Prop := runesL (L s) = (runesL ((L s).drop pos)).map (k + ·) ∧ k ≤ pos ∧ pos ≤ s.size
theorem RunesI.start (s : ByteArray) : RunesI s 0 0 := by
  refine ⟨?_, Nat.le_refl _, Nat.zero_le _⟩
  rw [List.drop_zero]
  cases runesL (L s) <;> simp
theorem drop_ne {s : ByteArray} {pos : Nat} (h : pos < s.size) : (L s).drop pos ≠ [] := by
  intro e
  have := congrArg List.length e
  rw [List.length_drop, ← L_size] at this
  simp at this
  omega
theorem RunesI.step {s : ByteArray} {k pos : Nat} (h : RunesI s k pos) (hp : pos < s.size) (hb : brkL ((L s).drop pos) = false) : RunesI s (k + 1) (pos + (decL ((L s).drop pos)).2) := by
  have h1 := decL_pos ((L s).drop pos)
  have h2 := decL_le (drop_ne hp) hb
  rw [List.length_drop, ← L_size] at h2
  refine ⟨?_, by have := h.2.1; omega, by omega⟩
  rw [h.1, runesL_step (drop_ne hp) hb, List.drop_drop]
  cases runesL (List.drop (pos + (decL ((L s).drop pos)).2) (L s)) <;> simp <;> omega
theorem RunesI.broken {s : ByteArray} {k pos : Nat} (h : RunesI s k pos) (hp : pos < s.size) (hb : brkL ((L s).drop pos) = true) : runesL (L s) = none := by
  rw [h.1, runesL_brk (drop_ne hp) hb]; rfl
theorem RunesI.over {s : ByteArray} {k pos : Nat} (h : RunesI s k pos) (hp : ¬ pos < s.size) : runesL (L s) = some k := by
  rw [h.1, List.drop_of_length_le (by rw [← L_size]; omega), runesL_nil]; rfl


end Go.Proofs.YtenpmbfncnepgaaDoor
