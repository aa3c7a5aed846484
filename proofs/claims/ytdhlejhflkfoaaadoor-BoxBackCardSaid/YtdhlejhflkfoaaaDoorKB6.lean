/- SWEPT -/
import Derived.Lib.Bytealg
import Derived.Lib.DecodeN
import Derived.Lib.Strings
import Derived.Shelf.Small.Strs
import Derived.Shelf.Strconv.Itoa0
import Derived.Shelf.Unicode.DecodeSlow
import Derived.Shelf.Unicode.DecodeAny
import Derived.Test.YtdhlejhflkfoaaaDoorProg
import Derived.Below
import Derived.BigQuiet
import Derived.Deep.QuietTactic
import Derived.Lib.Hide
import Derived.Lib.OthersKept
import Derived.LoopTactic
import Derived.Outline
import Derived.Test.YtdhlejhflkfoaaaDoorKB1
import Derived.WalkKit
import Derived.WalkLawsBesides
import Derived.WalkSpells
import Derived.Test.YtdhlejhflkfoaaaDoorKB3
import Derived.Test.YtdhlejhflkfoaaaDoorKB5
import Derived.Test.YtdhlejhflkfoaaaDoorKB4
import Derived.Test.YtdhlejhflkfoaaaDoorKB2
/- The plain sums under names: runes of a list of bytes, what is a name, what stands between slashes. No program in it. -/
namespace Go.Proofs.YtdhlejhflkfoaaaDoor
open Go.Lib
set_option linter.unusedVariables false

/-- the byte at place k; behind the end 0 -/
def bt (l : List UInt8) (k : Nat) : Nat := (l.getD k 0).toNat
/-- the rune that begins l, and its width -/
def decL (l : List UInt8) : Nat × Nat := decodeN l.length (bt l 0) (bt l 1) (bt l 2) (bt l 3)
/-- no rune begins l -/
def brkL (l : List UInt8) : Bool := (decL l).1 == 65533 && (decL l).2 == 1

theorem get_drop (s : ByteArray) (i k : Nat) : (s.get! (i + k)).toNat = bt (s.data.toList.drop i) k := by
  unfold bt
  congr 1
  cases s with
  | mk d =>
    show d[i + k]! = _
    rw [List.getD_eq_getElem?_getD, List.getElem?_drop, Array.getElem!_eq_getD, Array.getD_eq_getD_getElem?]
    simp
    rfl
theorem decode_drop (s : ByteArray) (i : Nat) : Utf8.decode s i = decL (s.data.toList.drop i) := by
  rw [decode_at]
  have e0 := get_drop s i 0
  rw [Nat.add_zero] at e0
  rw [e0, get_drop, get_drop, get_drop]
  unfold decL
  rw [List.length_drop, ← Lib.size_eq]

theorem decN_cases (n b0 b1 b2 b3 : Nat) : decodeN n b0 b1 b2 b3 = (65533, 1) ∨ (b0 < 128 ∧ decodeN n b0 b1 b2 b3 = (b0, 1)) ∨
    (∃ r, decodeN n b0 b1 b2 b3 = (r, 2) ∧ 128 ≤ r ∧ 2 ≤ n ∧ 128 ≤ b0 ∧ 128 ≤ b1) ∨ (∃ r, decodeN n b0 b1 b2 b3 = (r, 3) ∧ 128 ≤ r ∧ 3 ≤ n ∧ 128 ≤ b0 ∧ 128 ≤ b1 ∧ 128 ≤ b2) ∨
    (∃ r, decodeN n b0 b1 b2 b3 = (r, 4) ∧ 128 ≤ r ∧ 4 ≤ n ∧ 128 ≤ b0 ∧ 128 ≤ b1 ∧ 128 ≤ b2 ∧ 128 ≤ b3) := by
  unfold decodeN
  repeat' split
  all_goals first
    | exact .inl rfl
    | exact .inr (.inl ⟨by assumption, rfl⟩)
    | exact .inr (.inr (.inl ⟨_, rfl, by omega, by omega, by omega, by omega⟩))
    | exact .inr (.inr (.inr (.inl ⟨_, rfl, by omega, by omega, by omega, by omega, by omega⟩)))
    | exact .inr (.inr (.inr (.inr ⟨_, rfl, by omega, by omega, by omega, by omega, by omega, by omega⟩)))
theorem decN_facts (n b0 b1 b2 b3 : Nat) (hn : 1 ≤ n) (h : ¬ ((decodeN n b0 b1 b2 b3).1 = 65533 ∧ (decodeN n b0 b1 b2 b3).2 = 1)) :
    ((decodeN n b0 b1 b2 b3).2 = 1 ∧ (decodeN n b0 b1 b2 b3).1 = b0 ∧ b0 < 128) ∨
    ((decodeN n b0 b1 b2 b3).2 = 2 ∧ 2 ≤ n ∧ 128 ≤ (decodeN n b0 b1 b2 b3).1 ∧ 128 ≤ b0 ∧ 128 ≤ b1) ∨
    ((decodeN n b0 b1 b2 b3).2 = 3 ∧ 3 ≤ n ∧ 128 ≤ (decodeN n b0 b1 b2 b3).1 ∧ 128 ≤ b0 ∧ 128 ≤ b1 ∧ 128 ≤ b2) ∨
    ((decodeN n b0 b1 b2 b3).2 = 4 ∧ 4 ≤ n ∧ 128 ≤ (decodeN n b0 b1 b2 b3).1 ∧ 128 ≤ b0 ∧ 128 ≤ b1 ∧ 128 ≤ b2 ∧ 128 ≤ b3) := by
  rcases decN_cases n b0 b1 b2 b3 with e | ⟨h0, e⟩ | ⟨r, e, k⟩ | ⟨r, e, k⟩ | ⟨r, e, k⟩
  · rw [e] at h; exact absurd ⟨rfl, rfl⟩ h
  · rw [e]; exact .inl ⟨rfl, rfl, h0⟩
  · rw [e]; exact .inr (.inl ⟨rfl, k.2.1, k.1, k.2.2⟩)
  · rw [e]; exact .inr (.inr (.inl ⟨rfl, k.2.1, k.1, k.2.2⟩))
  · rw [e]; exact .inr (.inr (.inr ⟨rfl, k.2.1, k.1, k.2.2⟩))
theorem decN_pos (n b0 b1 b2 b3 : Nat) : 1 ≤ (decodeN n b0 b1 b2 b3).2 := by
  unfold decodeN
  repeat' split
  all_goals simp
theorem brk_iff (l : List UInt8) : brkL l = true ↔ ((decL l).1 = 65533 ∧ (decL l).2 = 1) := by simp [brkL]
theorem brk_not (l : List UInt8) : brkL l = false ↔ ¬ ((decL l).1 = 65533 ∧ (decL l).2 = 1) := by
  rw [← brk_iff]; simp
theorem decL_pos (l : List UInt8) : 1 ≤ (decL l).2 := decN_pos _ _ _ _ _
theorem len_pos {l : List UInt8} (h : l ≠ []) : 1 ≤ l.length := by
  cases l with
  | nil => exact absurd rfl h
  | cons _ _ => simp
theorem decL_le {l : List UInt8} (h : l ≠ []) (hb : brkL l = false) : (decL l).2 ≤ l.length := by
  have := decN_facts l.length (bt l 0) (bt l 1) (bt l 2) (bt l 3) (len_pos h) ((brk_not l).1 hb)
  unfold decL
  have := len_pos h
  omega

/-- how many runes l has, if it is well formed -/
def runesF : Nat → List UInt8 → Option Nat
  | 0, _ => some 0
  | f + 1, l => if l = [] then some 0 else if brkL l then none else (runesF f (l.drop (decL l).2)).map (· + 1)
def runesL (l : List UInt8) : Option Nat := runesF l.length l
theorem runesF_fuel : ∀ (f g : Nat) (l : List UInt8), l.length ≤ f → l.length ≤ g → runesF f l = runesF g l
  | 0, 0, _, _, _ => rfl
  | 0, g + 1, l, h, _ => by
    have : l = [] := List.eq_nil_of_length_eq_zero (by omega)
    subst this; rfl
  | f + 1, 0, l, _, h => by
    have : l = [] := List.eq_nil_of_length_eq_zero (by omega)
    subst this; rfl
  | f + 1, g + 1, l, hf, hg => by
    have h1 := decL_pos l
    simp only [runesF]
    rw [runesF_fuel f g (l.drop (decL l).2) (by rw [List.length_drop]; omega) (by rw [List.length_drop]; omega)]
theorem runesL_nil : runesL [] = some 0 := rfl
theorem runesL_brk {l : List UInt8} (h : l ≠ []) (hb : brkL l = true) : runesL l = none := by
  unfold runesL
  have := len_pos h
  obtain ⟨k, hk⟩ : ∃ k, l.length = k + 1 := ⟨l.length - 1, by omega⟩
  rw [hk, runesF, if_neg h, if_pos hb]
theorem runesL_step {l : List UInt8} (h : l ≠ []) (hb : brkL l = false) : runesL l = (runesL (l.drop (decL l).2)).map (· + 1) := by
  unfold runesL
  have h1 := len_pos h
  have h2 := decL_pos l
  obtain ⟨k, hk⟩ : ∃ k, l.length = k + 1 := ⟨l.length - 1, by omega⟩
  rw [hk, runesF, if_neg h, if_neg (by rw [hb]; decide)]
  congr 1
  exact runesF_fuel _ _ _ (by rw [List.length_drop]; omega) (Nat.le_refl _)
/-- may the rune stand in a name -/
def okRune (r : Nat) : Bool := decide (31 < r) && r != 127 && r != 47
/-- may the byte -/
def okByte (c : UInt8) : Bool := !(decide (c.toNat < 32) || c.toNat == 127 || c.toNat == 47)
def goodF : Nat → List UInt8 → Bool
  | 0, _ => true
  | f + 1, l => if l = [] then true else if brkL l then false else okRune (decL l).1 && goodF f (l.drop (decL l).2)
def goodL (l : List UInt8) : Bool := goodF l.length l
theorem goodF_fuel : ∀ (f g : Nat) (l : List UInt8), l.length ≤ f → l.length ≤ g → goodF f l = goodF g l
  | 0, 0, _, _, _ => rfl
  | 0, g + 1, l, h, _ => by
    have : l = [] := List.eq_nil_of_length_eq_zero (by omega)
    subst this; rfl
  | f + 1, 0, l, _, h => by
    have : l = [] := List.eq_nil_of_length_eq_zero (by omega)
    subst this; rfl
  | f + 1, g + 1, l, hf, hg => by
    have h1 := decL_pos l
    simp only [goodF]
    rw [goodF_fuel f g (l.drop (decL l).2) (by rw [List.length_drop]; omega) (by rw [List.length_drop]; omega)]
theorem goodL_nil : goodL [] = true := rfl
theorem goodL_brk {l : List UInt8} (h : l ≠ []) (hb : brkL l = true) : goodL l = false := by
  unfold goodL
  have := len_pos h
  obtain ⟨k, hk⟩ : ∃ k, l.length = k + 1 := ⟨l.length - 1, by omega⟩
  rw [hk, goodF, if_neg h, if_pos hb]
theorem goodL_step {l : List UInt8} (h : l ≠ []) (hb : brkL l = false) : goodL l = (okRune (decL l).1 && goodL (l.drop (decL l).2)) := by
  unfold goodL
  have h1 := len_pos h
  have h2 := decL_pos l
  obtain ⟨k, hk⟩ : ∃ k, l.length = k + 1 := ⟨l.length - 1, by omega⟩
  rw [hk, goodF, if_neg h, if_neg (by rw [hb]; decide)]
  congr 1
  exact goodF_fuel _ _ _ (by rw [List.length_drop]; omega) (Nat.le_refl _)

/-- is it a name -/
def nameL (l : List UInt8) : Bool := !(l == []) && decide (l.length ≤ 32) && !(l == [46]) && !(l == [46, 46]) && goodL l

end Go.Proofs.YtdhlejhflkfoaaaDoor
/- What the library promises of its own functions, laid at this dump: plain words, one application each. -/
namespace Go.Proofs
open Go.Shelf
def Tryd.lays197_ren : Go.Shelf.Ren := ⟨fun | 197 => 109 | 260 => 110 | n => n, fun | 9 => 9 | 21 => 21 | 3 => 3 | 4 => 4 | 5 => 5 | 105 => 155 | 119 => 157 | 0 => 0 | 46 => 88 | 139 => 160 | 138 => 159 | n => n, fun | 3 => 1 | 4 => 2 | n => n⟩
theorem Tryd.lays197 : Go.Proofs.Lays.n197 Tryd.prog Tryd.lays197_ren := {
  mixed := by kernel_rfl
  f197 := Tryd.func109.trans (congrArg some (by kernel_rfl))
  f260 := Tryd.func110.trans (congrArg some (by kernel_rfl))
  t0 := Tryd.underlying0
  a0 := Tryd.isAgg0
  z0 := Tryd.sizeOf0
  v0 := Tryd.zeroValue0
  t3 := Tryd.underlying3
  a3 := Tryd.isAgg3
  z3 := Tryd.sizeOf3
  v3 := Tryd.zeroValue3
  t4 := Tryd.underlying4
  a4 := Tryd.isAgg4
  z4 := Tryd.sizeOf4
  v4 := Tryd.zeroValue4
  t5 := Tryd.underlying5
  a5 := Tryd.isAgg5
  z5 := Tryd.sizeOf5
  v5 := Tryd.zeroValue5
  t9 := Tryd.underlying9
  a9 := Tryd.isAgg9
  z9 := Tryd.sizeOf9
  v9 := Tryd.zeroValue9
  t21 := Tryd.underlying21
  a21 := Tryd.isAgg21
  z21 := Tryd.sizeOf21
  v21 := Tryd.zeroValue21
  t46 := Tryd.underlying88
  a46 := Tryd.isAgg88
  z46 := Tryd.sizeOf88
  v46 := Tryd.zeroValue88
  t105 := Tryd.underlying155
  a105 := Tryd.isAgg155
  z105 := Tryd.sizeOf155
  v105 := Tryd.zeroValue155
  t119 := Tryd.underlying157
  a119 := Tryd.isAgg157
  z119 := Tryd.sizeOf157
  t138 := Tryd.underlying159
  a138 := Tryd.isAgg159
  z138 := Tryd.sizeOf159
  v138 := Tryd.zeroValue159
  t139 := Tryd.underlying160
  a139 := Tryd.isAgg160
  z139 := Tryd.sizeOf160
  v139 := Tryd.zeroValue160
  g3 := by kernel_rfl
  g4 := by kernel_rfl }
open Go.RowKit Go.Lib in
theorem Tryd.utf8_DecodeRuneInString (s : ByteArray) (w : World) (hT : Lib.Utf8Tabs 1 2 w) :
    Calls Tryd.prog 109 #[.string s] w fun e w' => e = .returned (.tuple #[.int .i32 (Lib.decodeGo s).1, .int .i64 (Lib.decodeGo s).2]) ∧ Below w.heap.size w w' := Any.utf8_DecodeRuneInString Tryd.lays197 s w hT
end Go.Proofs
/- The leaves of package name: a rune that is none, runes that may stand, Runes and Is. -/
namespace Go.Proofs.YtdhlejhflkfoaaaDoor
open Go.RowKit Go.Shelf Go.Lib Go.ChangeShapes Go.WideShapes Go.ChangeAt
set_option linter.unusedVariables false

/-- the two tables of the decoder -/
abbrev Tabs (w : World) : Prop := Lib.Utf8Tabs 1 2 w
theorem cell_lt {W : World} {b o : Nat} {v : Value} (h : W.cell? ⟨b, o, none⟩ = some v) : b < W.heap.size := lt_of_cell h
theorem Tabs.below {w w' : World} (h : Tabs w) (hb : Below w.heap.size w w') : Tabs w' :=
  ⟨fun c hc => (hb.cell (cell_lt (h.1 c hc))).trans (h.1 c hc), fun i hi => ⟨(hb.cell (cell_lt (h.2 i hi).1)).trans (h.2 i hi).1, (hb.cell (cell_lt (h.2 i hi).2)).trans (h.2 i hi).2⟩⟩

/-- the list of a text's bytes -/
abbrev L (s : ByteArray) : List UInt8 := s.data.toList
theorem L_size (s : ByteArray) : s.size = (L s).length := Lib.size_eq s

theorem mayStand_any (r : Int) (h0 : 0 ≤ r) (w : World) : Calls Tryd.prog 106 #[.int .i32 r] w fun e w' => e = .returned (.bool (okRune r.toNat)) ∧ w = w' := by
  by_cases h1 : 31 < r
  · have d1 : decide (31 < r) = true := by simpa using h1
    by_cases h2 : r = 127
    · have hs : okRune r.toNat = false := by subst h2; decide
      subst h2
      rw [hs]; clear hs
      go_enter Tryd.func106, Tryd.ntmps106
      go_wp2
      go_ret
      exact ⟨rfl, rfl⟩
    · have d2 : (r == 127) = false := by simpa using h2
      have d2' : (r != 127) = true := by simpa using h2
      by_cases h3 : r = 47
      · have hs : okRune r.toNat = false := by subst h3; decide
        subst h3
        rw [hs]; clear hs
        go_enter Tryd.func106, Tryd.ntmps106
        go_wp2
        go_ret
        exact ⟨rfl, rfl⟩
      · have d3 : (r == 47) = false := by simpa using h3
        have d3' : (r != 47) = true := by simpa using h3
        have hs : okRune r.toNat = true := by simp [okRune]; omega
        rw [hs]; clear hs
        go_enter Tryd.func106, Tryd.ntmps106
        go_wp2
        go_ret
        exact ⟨rfl, rfl⟩
  · have d1 : decide (31 < r) = false := by simpa using h1
    have hs : okRune r.toNat = false := by simp [okRune]; omega
    rw [hs]; clear hs
    go_enter Tryd.func106, Tryd.ntmps106
    go_wp2
    go_ret
    exact ⟨rfl, rfl⟩

/-- the decoder at a place of a text -/
theorem decodeGo_drop (s : ByteArray) (i : Nat) (h : i < s.size) : Lib.decodeGo (s.extract i s.size) = decL ((L s).drop i) := by
  have e : (s.extract i s.size).data.toList = (L s).drop i := by
    rw [Lib.extract_data, List.take_of_length_le]
    rw [List.length_drop, L_size]
    exact Nat.le_refl _
  unfold Lib.decodeGo
  rw [if_neg (by rw [Lib.size_eq, e, List.length_drop, ← L_size]; omega), decode_drop, e, List.drop_zero]

theorem isBroken_any (s : ByteArray) (i : Nat) (r : Int) (hi : i < s.size) (hs : s.size ≤ 281474976710656) (hr : r = ((decL ((L s).drop i)).1 : Int)) (w : World) (hT : Tabs w) :
    Calls Tryd.prog 105 #[.string s, .int .i64 i, .int .i32 r] w fun e w' => e = .returned (.bool (brkL ((L s).drop i))) ∧ Below w.heap.size w w' := by
  have hd := decodeGo_drop s i hi
  have hsl : s.size < 9223372036854775808 := by omega
  by_cases h : (decL ((L s).drop i)).1 = 65533
  · have hb : brkL ((L s).drop i) = ((decL ((L s).drop i)).2 == 1) := by simp [brkL, h]
    rw [hb, hr, h]
    clear hr
    have hc := Tryd.utf8_DecodeRuneInString (s.extract i s.size) w hT
    rw [hd] at hc
    have hp := decL_pos ((L s).drop i)
    generalize decL ((L s).drop i) = d at *
    have hil : (i : Int) ≤ (s.size : Int) := by omega
    obtain ⟨d1, d2⟩ := d
    dsimp only at *
    subst h
    have eb : ((d2 : Int) == 1) = (d2 == 1) := by
      rw [Bool.eq_iff_iff]; simp; omega
    have HD := Lib.hid hd
    have HB := Lib.hid hb
    have HE := Lib.hid eb
    clear hd hb hT eb
    go_enter Tryd.func105, Tryd.ntmps105
    go_wp2_with fail
    refine hc.mono ?_
    clear hc
    rintro e w1 ⟨rfl, hb1⟩
    go_wp2
    go_ret
    exact ⟨by rw [← HE.out]; rfl, hb1⟩
  · have hb : brkL ((L s).drop i) = false := by simp [brkL, h]
    rw [hb]
    have hne : (r == 65533) = false := by rw [hr]; simp; omega
    have hne' : (r != 65533) = true := by rw [bne, hne]; rfl
    clear hb hd hr h
    go_enter Tryd.func105, Tryd.ntmps105
    go_wp2
    go_ret
    exact ⟨rfl, Below.refl _ _⟩

/-- k runes have come, pos bytes are behind -/
def RunesI (s : ByteArray) (k pos : Nat) : Prop := runesL (L s) = (runesL ((L s).drop pos)).map (k + ·) ∧ k ≤ pos ∧ pos ≤ s.size
theorem RunesI.start (s : ByteArray) : RunesI s 0 0 := by
  refine ⟨?_, Nat.le_refl _, Nat.zero_le _⟩
  rw [List.drop_zero]
  cases runesL (L s) <;> simp
theorem drop_ne {s : ByteArray} {pos : Nat} (h : pos < s.size) : (L s).drop pos ≠ [] := by
  intro e
  have := congrArg List.length e
  rw [List.length_drop, ← L_size] at this
  simp at this
  omega
theorem RunesI.step {s : ByteArray} {k pos : Nat} (h : RunesI s k pos) (hp : pos < s.size) (hb : brkL ((L s).drop pos) = false) : RunesI s (k + 1) (pos + (decL ((L s).drop pos)).2) := by
  have h1 := decL_pos ((L s).drop pos)
  have h2 := decL_le (drop_ne hp) hb
  rw [List.length_drop, ← L_size] at h2
  refine ⟨?_, by have := h.2.1; omega, by omega⟩
  rw [h.1, runesL_step (drop_ne hp) hb, List.drop_drop]
  cases runesL (List.drop (pos + (decL ((L s).drop pos)).2) (L s)) <;> simp <;> omega
theorem RunesI.broken {s : ByteArray} {k pos : Nat} (h : RunesI s k pos) (hp : pos < s.size) (hb : brkL ((L s).drop pos) = true) : runesL (L s) = none := by
  rw [h.1, runesL_brk (drop_ne hp) hb]; rfl
theorem RunesI.over {s : ByteArray} {k pos : Nat} (h : RunesI s k pos) (hp : ¬ pos < s.size) : runesL (L s) = some k := by
  rw [h.1, List.drop_of_length_le (by rw [← L_size]; omega), runesL_nil]; rfl


end Go.Proofs.YtdhlejhflkfoaaaDoor
/- name.Is. -/
namespace Go.Proofs.YtdhlejhflkfoaaaDoor
open Go.RowKit Go.Shelf Go.Lib Go.ChangeShapes Go.WideShapes Go.ChangeAt
set_option linter.unusedVariables false

/-- the tests ahead of the loop -/
def headL (l : List UInt8) : Bool := !(l == []) && decide (l.length ≤ 32) && !(l == [46]) && !(l == [46, 46])
theorem nameL_head (l : List UInt8) : nameL l = (headL l && goodL l) := rfl

theorem toList_L (s : ByteArray) : s.toList = L s := Lib.toList_data s

set_option maxHeartbeats 1000000 in
theorem Is_no (s : ByteArray) (h : headL (L s) = false) (w : World) :
    Calls Tryd.prog 98 #[.string s] w fun e w' => e = .returned (.bool false) ∧ Below w.heap.size w w' := by
  by_cases h0 : s.toList = []
  · have b0 : s.toList.isEmpty = true := by rw [h0]; rfl
    clear h
    go_enter Tryd.func98, Tryd.ntmps98
    go_wp2
    go_ret
    exact ⟨rfl, Below.refl _ _⟩
  have b0 : s.toList.isEmpty = false := by simpa using h0
  by_cases h1 : (32 : Int) < (s.size : Int)
  · have d1 : decide ((32 : Int) < (s.size : Int)) = true := by simpa using h1
    clear h h0
    go_enter Tryd.func98, Tryd.ntmps98
    go_wp2
    go_ret
    exact ⟨rfl, Below.refl _ _⟩
  have d1 : decide ((32 : Int) < (s.size : Int)) = false := by simpa using h1
  by_cases h2 : s.toList = [46]
  · have e2 : (s.toList == [46]) = true := by simpa using h2
    clear h h0 h1
    go_enter Tryd.func98, Tryd.ntmps98
    go_wp2
    go_ret
    exact ⟨rfl, Below.refl _ _⟩
  have e2 : (s.toList == [46]) = false := by simpa using h2
  by_cases h3 : s.toList = [46, 46]
  · have e3 : (s.toList == [46, 46]) = true := by simpa using h3
    clear h h0 h1 h2 h3
    go_enter Tryd.func98, Tryd.ntmps98
    go_wp2
    go_ret
    exact ⟨rfl, Below.refl _ _⟩
  · exfalso
    rw [toList_L] at h0 h2 h3
    have hl : (L s).length ≤ 32 := by rw [← L_size]; omega
    have hh : headL (L s) = true := by
      unfold headL
      rw [beq_eq_false_iff_ne.2 h0, beq_eq_false_iff_ne.2 h2, beq_eq_false_iff_ne.2 h3, decide_eq_true hl]
      rfl
    rw [hh] at h
    cases h

/-- pos bytes are behind, all well -/
def IsI (s : ByteArray) (pos : Nat) : Prop := goodL (L s) = goodL ((L s).drop pos) ∧ pos ≤ s.size
theorem IsI.step {s : ByteArray} {pos : Nat} (h : IsI s pos) (hp : pos < s.size) (hb : brkL ((L s).drop pos) = false) (hr : okRune (decL ((L s).drop pos)).1 = true) : IsI s (pos + (decL ((L s).drop pos)).2) := by
  have h2 := decL_le (drop_ne hp) hb
  rw [List.length_drop, ← L_size] at h2
  refine ⟨?_, by omega⟩
  rw [h.1, goodL_step (drop_ne hp) hb, hr, List.drop_drop, Bool.true_and]
theorem IsI.broken {s : ByteArray} {pos : Nat} (h : IsI s pos) (hp : pos < s.size) (hb : brkL ((L s).drop pos) = true) : goodL (L s) = false := by
  rw [h.1, goodL_brk (drop_ne hp) hb]
theorem IsI.bad {s : ByteArray} {pos : Nat} (h : IsI s pos) (hp : pos < s.size) (hb : brkL ((L s).drop pos) = false) (hr : okRune (decL ((L s).drop pos)).1 = false) : goodL (L s) = false := by
  rw [h.1, goodL_step (drop_ne hp) hb, hr, Bool.false_and]
theorem IsI.over {s : ByteArray} {pos : Nat} (h : IsI s pos) (hp : ¬ pos < s.size) : goodL (L s) = true := by
  rw [h.1, List.drop_of_length_le (by rw [← L_size]; omega), goodL_nil]

set_option maxHeartbeats 1000000 in
theorem Is_loop (s : ByteArray) (h : headL (L s) = true) (w : World) (hT : Tabs w) :
    Calls Tryd.prog 98 #[.string s] w fun e w' => e = .returned (.bool (goodL (L s))) ∧ Below w.heap.size w w' := by
  have hh : (L s) ≠ [] ∧ (L s).length ≤ 32 ∧ (L s) ≠ [46] ∧ (L s) ≠ [46, 46] := by
    simp only [headL, Bool.and_eq_true, Bool.not_eq_true', decide_eq_true_eq, beq_eq_false_iff_ne] at h
    exact ⟨h.1.1.1, h.1.1.2, h.1.2, h.2⟩
  obtain ⟨h0, h1, h2, h3⟩ := hh
  rw [← L_size] at h1
  have hbr := fun (i : Nat) (r : Int) (hi : i < s.size) (hr : r = ((decL ((L s).drop i)).1 : Int)) (W : World) (hW : Tabs W) => isBroken_any s i r hi (by omega) hr W hW
  rw [← toList_L] at h0 h2 h3
  have b0 : s.toList.isEmpty = false := by simpa using h0
  have d1 : decide ((32 : Int) < (s.size : Int)) = false := by simp; omega
  have e2 : (s.toList == [46]) = false := by simpa using h2
  have e3 : (s.toList == [46, 46]) = false := by simpa using h3
  have HT := Lib.hid hT
  clear h hT h0 h2 h3
  go_enter Tryd.func98, Tryd.ntmps98
  go_wp2
  clear b0 d1 e2 e3
  go_loopw [] (fun wr => ∃ (pos : Nat), IsI s pos ∧ wr.heap[w.heap.size]? = some (.stringIter s pos) ∧ Below w.heap.size w wr) (fun wr => s.size - wr.iterPos w.heap.size)
  case atStart => exact ⟨0, ⟨by rw [List.drop_zero], Nat.zero_le _⟩, World.alloc_heap_new w _, (Below.refl _ _).alloc (Nat.le_refl _) _⟩
  case round =>
    obtain ⟨pos, hI, hit, hB⟩ := hrel
    have hps := hI.2
    by_cases hp : pos < s.size
    · have hnx : ∀ ty, (Instr.next (.pointer (some ⟨w.heap.size, 0, none⟩)) true ty).run Tryd.prog wr = _ := fun ty => Lib.run_next_any_at wr w.heap.size s pos ty hit hp
      rw [decode_drop] at hnx
      have hstep := fun hb hr => hI.step hp hb hr
      have hbrk := fun hb => hI.broken hp hb
      have hbad := fun hb hr => hI.bad hp hb hr
      have hc := hbr pos _ hp rfl (wr.iterAt w.heap.size s (pos + (decL ((L s).drop pos)).2)) (HT.out.below (Lib.below_iterAt hB (Nat.le_refl _) s _))
      have hit2 := Lib.iterAt_heap wr w.heap.size s pos (pos + (decL ((L s).drop pos)).2) hit
      have hB2 := Lib.below_iterAt hB (Nat.le_refl _) s (pos + (decL ((L s).drop pos)).2)
      have hit0 := Lib.hid hit
      have hms := mayStand_any ((decL ((L s).drop pos)).1 : Int) (by omega)
      rw [Int.toNat_natCast] at hms
      generalize hdd : decL ((L s).drop pos) = d at *
      replace hdd := Lib.hid hdd
      generalize brkL ((L s).drop pos) = bk at *
      generalize okRune d.1 = ok at *
      have HS := Lib.hid hstep
      have HK := Lib.hid hbrk
      have HBad := Lib.hid hbad
      have HI2 := Lib.hid hit2
      clear hstep hbrk hbad hit2 hit hI
      have hd1 : 1 ≤ d.2 := by rw [← hdd.out]; exact decL_pos _
      have hpos : wr.iterPos w.heap.size = pos := by unfold World.iterPos; rw [hit0.out]
      have HP := Lib.hid hpos
      clear hpos
      go_wp2_with fail
      refine hc.mono ?_
      clear hc
      rintro e w2 ⟨rfl, hb2⟩
      have hit3 : w2.heap[w.heap.size]? = some (.stringIter s (pos + d.2)) := (hb2.block _ (Array.getElem?_eq_some_iff.1 HI2.out).1).trans HI2.out
      have hB3 := hB2.trans (hb2.mono hB2.size)
      have HI3 := Lib.hid hit3
      clear hit3
      cases bk
      · clear HK
        go_wp2_with fail
        refine (hms w2).mono ?_
        clear hms
        rintro e _ ⟨rfl, rfl⟩
        cases ok
        · have hno := Lib.hid (HBad.out (by first | trivial | rfl) (by first | trivial | rfl))
          clear HS HBad
          go_wp2
          go_ret
          rw [hno.out]
          exact ⟨rfl, hB3⟩
        · have hI3 := Lib.hid (HS.out (by first | trivial | rfl) (by first | trivial | rfl))
          clear HS HBad
          go_wp2
          go_roundw
          case rel => exact ⟨pos + d.2, hI3.out, HI3.out, hB3⟩
          case measure =>
            have : w2.iterPos w.heap.size = pos + d.2 := by unfold World.iterPos; rw [HI3.out]
            rw [this, HP.out]
            omega
      · have hno := Lib.hid (HK.out rfl)
        clear HS HBad
        go_wp2
        go_ret
        rw [hno.out]
        exact ⟨rfl, hB3⟩
    · have hnx : ∀ ty, (Instr.next (.pointer (some ⟨w.heap.size, 0, none⟩)) true ty).run Tryd.prog wr = _ := fun ty => Lib.run_next_end_at wr w.heap.size s pos ty hit hp
      have hov := Lib.hid (hI.over hp)
      clear hit hI
      go_wp2
      go_ret
      rw [hov.out]
      exact ⟨rfl, hB⟩

theorem Is_any (s : ByteArray) (w : World) (hT : Tabs w) :
    Calls Tryd.prog 98 #[.string s] w fun e w' => e = .returned (.bool (nameL (L s))) ∧ Below w.heap.size w w' := by
  rw [nameL_head]
  cases h : headL (L s)
  · exact Is_no s h w
  · rw [Bool.true_and]; exact Is_loop s h w hT
end Go.Proofs.YtdhlejhflkfoaaaDoor
/- TrPK: TreP TreQ TreS TreT TreU TreV. -/
/- Trees, plain: when one may be; what changes it. Of no program. -/
namespace Go.Proofs.YtdhlejhflkfoaaaDoor
open Go.RowKit Go.Shelf
set_option linter.unusedVariables false
set_option maxRecDepth 100000
set_option linter.unusedSimpArgs false

abbrev Ent := Key × Nat
/-- a node -/
structure Nd where
  ino : Nat
  gen : Nat
  dir : Bool
  chg : Nat
  data : List UInt8
  names : List Ent
/-- a tree -/
structure Tr where
  nodes : List Nd
  lastGen : Nat
  boot : Nat
  count : Nat
  sess : List (Nat × Nat × List UInt8)
abbrev SortE (l : List Ent) : Prop := l.Pairwise fun x y => lessK x.1 y.1 = true
abbrev SortN (l : List Nd) : Prop := l.Pairwise fun a b => a.ino < b.ino
def inosL (l : List Nd) : List Nat := l.map (·.ino)
def entsL (l : List Nd) : List Ent := l.flatMap (·.names)
/-- a node is another one, or beneath it -/
inductive Under (l : List Nd) (f : Nat) : Nat → Prop
  | here : Under l f f
  | step {n : Nd} {e : Ent} : n ∈ l → e ∈ n.names → Under l f n.ino → Under l f e.2
/-- a node may be -/
structure NdOk (l : List Nd) (lastGen top : Nat) (n : Nd) : Prop where
  pos : 1 ≤ n.ino
  gen1 : 1 ≤ n.gen
  gen2 : n.gen ≤ lastGen
  chg : n.chg ≤ top
  size : n.data.length ≤ 4096
  isDir : n.dir = true → n.data = []
  file : n.dir = false → n.names = []
  sort : SortE n.names
  good : ∀ e ∈ n.names, nameL e.1 = true ∧ e.2 ∈ inosL l
  many : n.names.length ≤ 32
def topT (t : Tr) : Nat := t.boot * 4294967296 + t.count
/-- a tree may be -/
structure MayT (t : Tr) : Prop where
  boot1 : 1 ≤ t.boot
  boot2 : t.boot ≤ 2147483648
  last1 : 1 ≤ t.lastGen
  root : ∃ r ∈ t.nodes, r.ino = 1 ∧ r.gen = 1 ∧ r.dir = true
  many : t.nodes.length ≤ 64
  rise : SortN t.nodes
  gens : t.nodes.Pairwise fun a b => a.gen ≠ b.gen
  ok : ∀ n ∈ t.nodes, NdOk t.nodes t.lastGen (topT t) n
  once : ((entsL t.nodes).map (·.2)).Nodup
  noroot : 1 ∉ (entsL t.nodes).map (·.2)
  above : ∀ n ∈ t.nodes, Under t.nodes 1 n.ino
theorem Under.mono {l l' : List Nd} {f y : Nat} (h : Under l f y) (k : ∀ n ∈ l, ∀ e ∈ n.names, ∃ n' ∈ l', n'.ino = n.ino ∧ e ∈ n'.names) : Under l' f y := by
  induction h with
  | here => exact .here
  | step hn he _ ih =>
    obtain ⟨n', h1, h2, h3⟩ := k _ hn _ he
    rw [← h2] at ih
    exact .step h1 h3 ih
theorem Under.trans {l : List Nd} {f g y : Nat} (h : Under l f g) (k : Under l g y) : Under l f y := by
  induction k with
  | here => exact h
  | step hn he _ ih => exact .step hn he ih
theorem entsL_app (a b : List Nd) : entsL (a ++ b) = entsL a ++ entsL b := List.flatMap_append
theorem entsL_cons (n : Nd) (l : List Nd) : entsL (n :: l) = n.names ++ entsL l := rfl
theorem mem_ents {l : List Nd} {e : Ent} : e ∈ entsL l ↔ ∃ n ∈ l, e ∈ n.names := List.mem_flatMap
theorem mem_inos {l : List Nd} {i : Nat} : i ∈ inosL l ↔ ∃ n ∈ l, n.ino = i := List.mem_map
/-- one node anew -/
def updN (l : List Nd) (i : Nat) (f : Nd → Nd) : List Nd := l.map fun m => if m.ino = i then f m else m
theorem sort_split {l : List Nd} (h : SortN l) {d : Nd} (hd : d ∈ l) : ∃ pre post, l = pre ++ d :: post ∧ (∀ m ∈ pre, m.ino < d.ino) ∧ ∀ m ∈ post, d.ino < m.ino := by
  obtain ⟨pre, post, rfl⟩ := List.append_of_mem hd
  refine ⟨pre, post, rfl, ?_, ?_⟩
  · rw [SortN, List.pairwise_append] at h
    exact fun m hm => h.2.2 m hm d (by simp)
  · rw [SortN, List.pairwise_append, List.pairwise_cons] at h
    exact h.2.1.1
theorem updN_none (f : Nd → Nd) (i : Nat) (l : List Nd) (h : ∀ m ∈ l, m.ino ≠ i) : updN l i f = l := by
  unfold updN
  conv => rhs; rw [← List.map_id l]
  refine List.map_congr_left fun m hm => ?_
  rw [if_neg (h m hm)]
  rfl
theorem updN_at {pre post : List Nd} {d : Nd} (f : Nd → Nd) (h1 : ∀ m ∈ pre, m.ino < d.ino) (h2 : ∀ m ∈ post, d.ino < m.ino) : updN (pre ++ d :: post) d.ino f = pre ++ f d :: post := by
  have e1 := updN_none f d.ino pre fun m hm => by have := h1 m hm; omega
  have e2 := updN_none f d.ino post fun m hm => by have := h2 m hm; omega
  unfold updN at *
  rw [List.map_append, List.map_cons, e1, e2, if_pos rfl]
theorem updN_inos (f : Nd → Nd) (hf : ∀ m, (f m).ino = m.ino) (i : Nat) (l : List Nd) : inosL (updN l i f) = inosL l := by
  unfold inosL updN
  rw [List.map_map]
  refine List.map_congr_left fun m _ => ?_
  show (if m.ino = i then f m else m).ino = m.ino
  split
  · exact hf m
  · rfl
theorem updN_sort {f : Nd → Nd} (hf : ∀ m, (f m).ino = m.ino) {i : Nat} {l : List Nd} (h : SortN l) : SortN (updN l i f) := by
  unfold updN
  refine List.pairwise_map.2 (h.imp fun {a b} hab => ?_)
  have ha : (if a.ino = i then f a else a).ino = a.ino := by split <;> simp [hf]
  have hb : (if b.ino = i then f b else b).ino = b.ino := by split <;> simp [hf]
  rw [ha, hb]
  exact hab
theorem updN_gens {f : Nd → Nd} (hf : ∀ m, (f m).gen = m.gen) {i : Nat} {l : List Nd} (h : l.Pairwise fun a b => a.gen ≠ b.gen) : (updN l i f).Pairwise fun a b => a.gen ≠ b.gen := by
  unfold updN
  refine List.pairwise_map.2 (h.imp fun {a b} hab => ?_)
  have ha : (if a.ino = i then f a else a).gen = a.gen := by split <;> simp [hf]
  have hb : (if b.ino = i then f b else b).gen = b.gen := by split <;> simp [hf]
  rw [ha, hb]
  exact hab
theorem mem_updN {f : Nd → Nd} {i : Nat} {l : List Nd} {m : Nd} : m ∈ updN l i f ↔ (m ∈ l ∧ m.ino ≠ i) ∨ ∃ d ∈ l, d.ino = i ∧ f d = m := by
  unfold updN
  rw [List.mem_map]
  constructor
  · rintro ⟨a, ha, rfl⟩
    by_cases h : a.ino = i
    · rw [if_pos h]; exact .inr ⟨a, ha, h, rfl⟩
    · rw [if_neg h]; exact .inl ⟨ha, h⟩
  · rintro (⟨h1, h2⟩ | ⟨d, h1, h2, h3⟩)
    · exact ⟨m, h1, if_neg h2⟩
    · exact ⟨d, h1, by rw [if_pos h2, h3]⟩
theorem updN_len (f : Nd → Nd) (i : Nat) (l : List Nd) : (updN l i f).length = l.length := List.length_map _
/-- of one Ino there is one node -/
theorem sort_one {l : List Nd} (h : SortN l) {a b : Nd} (ha : a ∈ l) (hb : b ∈ l) (e : a.ino = b.ino) : a = b := by
  obtain ⟨pre, post, rfl, h1, h2⟩ := sort_split h ha
  simp only [List.mem_append, List.mem_cons] at hb
  rcases hb with hb | rfl | hb
  · have := h1 b hb; omega
  · rfl
  · have := h2 b hb; omega
theorem updN_ents {l : List Nd} (h : SortN l) {d : Nd} (hd : d ∈ l) (f : Nd → Nd) : ∃ A C, entsL l = A ++ d.names ++ C ∧ entsL (updN l d.ino f) = A ++ (f d).names ++ C := by
  obtain ⟨pre, post, rfl, h1, h2⟩ := sort_split h hd
  rw [updN_at f h1 h2]
  exact ⟨entsL pre, entsL post, by rw [entsL_app, entsL_cons, List.append_assoc], by rw [entsL_app, entsL_cons, List.append_assoc]⟩
/-- the node of an Ino -/
def nodeT (l : List Nd) (i : Nat) : Option Nd := l.find? fun n => n.ino == i
theorem nodeT_some {l : List Nd} (hs : SortN l) {i : Nat} {d : Nd} : nodeT l i = some d ↔ d ∈ l ∧ d.ino = i := by
  constructor
  · intro e
    have h1 := List.mem_of_find?_eq_some e
    have h2 := List.find?_some e
    simp only [beq_iff_eq] at h2
    exact ⟨h1, h2⟩
  · rintro ⟨h1, h2⟩
    cases e : nodeT l i with
    | none =>
      have := List.find?_eq_none.1 e d h1
      simp [h2] at this
    | some d' =>
      have k1 := List.mem_of_find?_eq_some e
      have k2 := List.find?_some e
      simp only [beq_iff_eq] at k2
      rw [sort_one hs k1 h1 (by rw [k2, h2])]
theorem sortE_one {l : List Ent} (h : SortE l) {a b : Ent} (ha : a ∈ l) (hb : b ∈ l) (e : a.1 = b.1) : a = b := by
  obtain ⟨pre, post, rfl⟩ := List.append_of_mem ha
  rw [SortE, List.pairwise_append, List.pairwise_cons] at h
  simp only [List.mem_append, List.mem_cons] at hb
  rcases hb with hb | rfl | hb
  · exact absurd e.symm (lessK_ne (h.2.2 b hb a (by simp)))
  · rfl
  · exact absurd e (lessK_ne (h.2.1.1 b hb))
/-- a name less, a name more -/
def lessE (l : List Ent) (name : Key) : List Ent := l.filter fun e => !(e.1 == name)
theorem mem_lessE {l : List Ent} {name : Key} {e : Ent} : e ∈ lessE l name ↔ e ∈ l ∧ e.1 ≠ name := by
  unfold lessE
  rw [List.mem_filter]
  simp
theorem lessE_at {l : List Ent} (hs : SortE l) {e : Ent} (he : e ∈ l) : ∃ a b, l = a ++ e :: b ∧ lessE l e.1 = a ++ b := by
  obtain ⟨a, b, rfl⟩ := List.append_of_mem he
  refine ⟨a, b, rfl, ?_⟩
  rw [SortE, List.pairwise_append, List.pairwise_cons] at hs
  unfold lessE
  rw [List.filter_append, List.filter_cons]
  have h1 : a.filter (fun x => !(x.1 == e.1)) = a := List.filter_eq_self.2 fun y hy => by simpa using lessK_ne (hs.2.2 y hy e (by simp))
  have h2 : b.filter (fun x => !(x.1 == e.1)) = b := List.filter_eq_self.2 fun y hy => by simpa using (lessK_ne (hs.2.1.1 y hy)).symm
  rw [h1, h2]
  simp
theorem lessE_sort {l : List Ent} (hs : SortE l) (name : Key) : SortE (lessE l name) := hs.filter _
/-- a node less -/
def outN (l : List Nd) (x : Nat) : List Nd := l.filter fun m => !(m.ino == x)
theorem mem_outN {l : List Nd} {x : Nat} {m : Nd} : m ∈ outN l x ↔ m ∈ l ∧ m.ino ≠ x := by
  unfold outN
  rw [List.mem_filter]
  simp
theorem outN_ents {l : List Nd} {x : Nat} (h : ∀ m ∈ l, m.ino = x → m.names = []) : entsL (outN l x) = entsL l := by
  induction l with
  | nil => rfl
  | cons m r ih =>
    have h2 := ih fun m hm => h m (by simp [hm])
    unfold outN at h2 ⊢
    rw [List.filter_cons]
    split
    · rw [entsL_cons, entsL_cons, h2]
    · rename_i hc
      have : m.ino = x := by simpa using hc
      rw [entsL_cons, h m (by simp) this, List.nil_append, h2]
/-- the least Ino that is not there -/
def gapI : Nat → List Nat → Nat
  | k, [] => k
  | k, i :: r => if i = k then gapI (k + 1) r else k
def freeI (l : List Nd) : Nat := gapI 1 (inosL l)

end Go.Proofs.YtdhlejhflkfoaaaDoor

/- Trees, plain: what changes them, and that they may be behind it. Of no program. -/
namespace Go.Proofs.YtdhlejhflkfoaaaDoor
open Go.RowKit Go.Shelf
set_option linter.unusedVariables false
set_option maxRecDepth 100000
set_option linter.unusedSimpArgs false

theorem NdOk.mono {l l' : List Nd} {a a' b b' : Nat} {n : Nd} (h : NdOk l a b n) (hl : ∀ i ∈ inosL l, i ∈ inosL l') (ha : a ≤ a') (hb : b ≤ b') : NdOk l' a' b' n :=
  ⟨h.pos, h.gen1, Nat.le_trans h.gen2 ha, Nat.le_trans h.chg hb, h.size, h.isDir, h.file, h.sort, fun e he => ⟨(h.good e he).1, hl _ (h.good e he).2⟩, h.many⟩
theorem root_upd {f : Nd → Nd} (hf : ∀ m, (f m).ino = m.ino ∧ (f m).gen = m.gen ∧ (f m).dir = m.dir) {i : Nat} {l : List Nd} (h : ∃ r ∈ l, r.ino = 1 ∧ r.gen = 1 ∧ r.dir = true) : ∃ r ∈ updN l i f, r.ino = 1 ∧ r.gen = 1 ∧ r.dir = true := by
  obtain ⟨r, h1, h2, h3, h4⟩ := h
  by_cases e : r.ino = i
  · exact ⟨f r, mem_updN.2 (.inr ⟨r, h1, e, rfl⟩), by rw [(hf r).1, h2], by rw [(hf r).2.1, h3], by rw [(hf r).2.2, h4]⟩
  · exact ⟨r, mem_updN.2 (.inl ⟨h1, e⟩), h2, h3, h4⟩
end Go.Proofs.YtdhlejhflkfoaaaDoor

/- Trees, plain: something removed, something renamed: they may be behind it. Of no program. -/
namespace Go.Proofs.YtdhlejhflkfoaaaDoor
open Go.RowKit Go.Shelf
set_option linter.unusedVariables false
set_option maxRecDepth 100000
set_option linter.unusedSimpArgs false

theorem mem_outN_inos {l : List Nd} {x i : Nat} : i ∈ inosL (outN l x) ↔ i ∈ inosL l ∧ i ≠ x := by
  rw [mem_inos, mem_inos]
  constructor
  · rintro ⟨n, h1, rfl⟩
    obtain ⟨h2, h3⟩ := mem_outN.1 h1
    exact ⟨⟨n, h2, rfl⟩, h3⟩
  · rintro ⟨⟨n, h1, rfl⟩, h2⟩
    exact ⟨n, mem_outN.2 ⟨h1, h2⟩, rfl⟩
/-- .. so the directory is one, too -/
theorem ents_dir {l : List Nd} (hs : SortN l) (h : ((entsL l).map (·.2)).Nodup) {n m : Nd} (hn : n ∈ l) (hm : m ∈ l) {e e' : Ent} (he : e ∈ n.names) (he' : e' ∈ m.names) (k : e.2 = e'.2) : n = m := by
  obtain ⟨pre, post, rfl, h1, h2⟩ := sort_split hs hn
  rw [entsL_app, entsL_cons, List.map_append, List.map_append, List.nodup_append] at h
  obtain ⟨_, h4, h5⟩ := h
  rw [List.nodup_append] at h4
  simp only [List.mem_append, List.mem_cons] at hm
  have hx : e.2 ∈ n.names.map (·.2) := List.mem_map.2 ⟨e, he, rfl⟩
  rcases hm with hm | rfl | hm
  · exact absurd k.symm (h5 e'.2 (List.mem_map.2 ⟨e', mem_ents.2 ⟨m, hm, he'⟩, rfl⟩) e.2 (List.mem_append.2 (.inl hx)))
  · rfl
  · exact absurd k (h4.2.2 e.2 hx e'.2 (List.mem_map.2 ⟨e', mem_ents.2 ⟨m, hm, he'⟩, rfl⟩))
end Go.Proofs.YtdhlejhflkfoaaaDoor

/- Trees, plain: something renamed: they may be behind it. Of no program. -/
namespace Go.Proofs.YtdhlejhflkfoaaaDoor
open Go.RowKit Go.Shelf
set_option linter.unusedVariables false
set_option maxRecDepth 100000
set_option linter.unusedSimpArgs false

/-- nodes of which one stands in no directory -/
structure Loose (l : List Nd) (lastGen top f : Nat) : Prop where
  root : ∃ r ∈ l, r.ino = 1 ∧ r.gen = 1 ∧ r.dir = true
  many : l.length ≤ 64
  rise : SortN l
  gens : l.Pairwise fun a b => a.gen ≠ b.gen
  ok : ∀ n ∈ l, NdOk l lastGen top n
  once : ((entsL l).map (·.2)).Nodup
  noroot : 1 ∉ (entsL l).map (·.2)
  off : f ∉ (entsL l).map (·.2)
  above : ∀ n ∈ l, Under l 1 n.ino ∨ Under l f n.ino
def lessF (st : Nat) (nm : Key) (m : Nd) : Nd := { m with chg := st, names := lessE m.names nm }
theorem less_perm {l : List Nd} (hs : SortN l) {d : Nd} (hd : d ∈ l) (hso : SortE d.names) {nm : Key} {x : Nat} (hx : (nm, x) ∈ d.names) (st : Nat) : ((entsL l).map (·.2)).Perm (x :: (entsL (updN l d.ino (lessF st nm))).map (·.2)) := by
  obtain ⟨A, C, e1, e2⟩ := updN_ents hs hd (lessF st nm)
  obtain ⟨a, b, e3, e4⟩ := lessE_at hso hx
  dsimp only at e4
  rw [e2, show (lessF st nm d).names = lessE d.names nm from rfl, e4, e1, e3]
  simp only [List.map_append, List.map_cons, List.append_assoc]
  refine (List.perm_middle (l₁ := A.map (·.2) ++ a.map (·.2)) (a := x) (l₂ := b.map (·.2) ++ C.map (·.2))).symm.symm.trans ?_ |> fun p => by simpa only [List.append_assoc, List.cons_append] using p
  simp only [List.append_assoc]
  exact List.Perm.refl _
/-- .. and may lose what is empty -/
theorem drop {l : List Nd} {lg top f : Nat} (h : Loose l lg top f) {d : Nd} (hd : d ∈ l) {nm : Key} {x : Nat} (hx : (nm, x) ∈ d.names) {m : Nd} (hm : m ∈ l) (hmx : m.ino = x) (hme : m.names = []) {st : Nat} (hst : st ≤ top) :
    Loose (outN (updN l d.ino (lessF st nm)) x) lg top f ∧ (∀ y, Under l 1 y → y ≠ x → Under (outN (updN l d.ino (lessF st nm)) x) 1 y) ∧ d.ino ≠ x ∧ f ≠ x := by
  have hdok := h.ok d hd
  have hp := less_perm h.rise hd hdok.sort hx st
  have hnd := hp.nodup_iff.1 h.once
  rw [List.nodup_cons] at hnd
  have hdm : d ≠ m := by rintro rfl; rw [hme] at hx; cases hx
  have hdx : d.ino ≠ x := fun e => hdm (sort_one h.rise hd hm (by rw [e, hmx]))
  have hxin : x ∈ (entsL l).map (·.2) := List.mem_map.2 ⟨(nm, x), mem_ents.2 ⟨d, hd, hx⟩, rfl⟩
  have hx1 : x ≠ 1 := fun e => h.noroot (by rw [← e]; exact hxin)
  have hfx : f ≠ x := fun e => h.off (by rw [e]; exact hxin)
  have hi : ∀ i, i ∈ inosL (outN (updN l d.ino (lessF st nm)) x) ↔ i ∈ inosL l ∧ i ≠ x := fun i => by rw [mem_outN_inos, updN_inos _ (by intro m; rfl)]
  have hxm : ∀ n ∈ updN l d.ino (lessF st nm), n.ino = x → n.names = [] := fun n hn e => by
    rcases mem_updN.1 hn with ⟨h1, _⟩ | ⟨d', h1, h2, rfl⟩
    · rw [sort_one h.rise h1 hm (by rw [e, hmx]), hme]
    · exact absurd (h2.symm.trans e) hdx
  have he := outN_ents hxm
  have keep : ∀ n ∈ l, ∀ e ∈ n.names, e.2 ≠ x → n.ino ≠ x ∧ ∃ n' ∈ outN (updN l d.ino (lessF st nm)) x, n'.ino = n.ino ∧ e ∈ n'.names := fun n hn e he1 hne => by
    have hnx : n.ino ≠ x := fun k => by
      rw [sort_one h.rise hn hm (by rw [k, hmx]), hme] at he1
      cases he1
    refine ⟨hnx, ?_⟩
    by_cases k : n.ino = d.ino
    · obtain rfl := sort_one h.rise hn hd k
      refine ⟨lessF st nm n, mem_outN.2 ⟨mem_updN.2 (.inr ⟨n, hn, rfl, rfl⟩), hnx⟩, rfl, mem_lessE.2 ⟨he1, fun k2 => hne ?_⟩⟩
      rw [sortE_one hdok.sort he1 hx k2]
    · exact ⟨n, mem_outN.2 ⟨mem_updN.2 (.inl ⟨hn, k⟩), hnx⟩, rfl, he1⟩
  have und : ∀ g y, Under l g y → y ≠ x → Under (outN (updN l d.ino (lessF st nm)) x) g y := fun g y hu => by
    induction hu with
    | here => exact fun _ => .here
    | @step n e hn he1 _ ih =>
      intro hy
      obtain ⟨hnx, n', k1, k2, k3⟩ := keep n hn e he1 hy
      have := ih hnx
      rw [← k2] at this
      exact .step k1 k3 this
  refine ⟨⟨?_, ?_, (updN_sort (by intro m; rfl) h.rise).filter _, (updN_gens (by intro m; rfl) h.gens).filter _, fun n hn => ?_, by rw [he]; exact hnd.2, by rw [he]; exact fun hh => h.noroot (hp.mem_iff.2 (List.mem_cons.2 (.inr hh))), by rw [he]; exact fun hh => h.off (hp.mem_iff.2 (List.mem_cons.2 (.inr hh))), fun n hn => ?_⟩, fun y => und 1 y, hdx, hfx⟩
  · obtain ⟨r, h1, h2, h3⟩ := root_upd (f := lessF st nm) (i := d.ino) (by intro m; exact ⟨rfl, rfl, rfl⟩) h.root
    exact ⟨r, mem_outN.2 ⟨h1, by rw [h2]; exact fun e => hx1 e.symm⟩, h2, h3⟩
  · have h1 : (outN (updN l d.ino (lessF st nm)) x).length ≤ (updN l d.ino (lessF st nm)).length := List.length_filter_le _ _
    rw [updN_len] at h1
    exact Nat.le_trans h1 h.many
  · obtain ⟨hn1, hnx⟩ := mem_outN.1 hn
    have good : ∀ e ∈ n.names, e.2 ∈ inosL l → e.2 ∈ inosL (outN (updN l d.ino (lessF st nm)) x) := fun e he1 k => (hi _).2 ⟨k, fun k4 => hnd.1 (by
      rw [← he]
      exact List.mem_map.2 ⟨e, mem_ents.2 ⟨n, hn, he1⟩, k4⟩)⟩
    rcases mem_updN.1 hn1 with ⟨h1, _⟩ | ⟨d', h1, h2, rfl⟩
    · have k := h.ok n h1
      exact ⟨k.pos, k.gen1, k.gen2, k.chg, k.size, k.isDir, k.file, k.sort, fun e he1 => ⟨(k.good e he1).1, good e he1 (k.good e he1).2⟩, k.many⟩
    · obtain rfl := sort_one h.rise h1 hd h2
      refine ⟨hdok.pos, hdok.gen1, hdok.gen2, hst, hdok.size, hdok.isDir, fun e => ?_, lessE_sort hdok.sort _, fun e he1 => ⟨(hdok.good e (mem_lessE.1 he1).1).1, good e he1 (hdok.good e (mem_lessE.1 he1).1).2⟩, Nat.le_trans (List.length_filter_le _ _) hdok.many⟩
      show lessE d'.names nm = []
      rw [hdok.file e]
      rfl
  · obtain ⟨h1, h2⟩ := (hi n.ino).1 (mem_inos.2 ⟨n, hn, rfl⟩)
    obtain ⟨p, h3, h4⟩ := mem_inos.1 h1
    rw [← h4]
    rcases h.above p h3 with k | k
    · exact .inl (und 1 _ k (by rw [h4]; exact h2))
    · exact .inr (und f _ k (by rw [h4]; exact h2))
end Go.Proofs.YtdhlejhflkfoaaaDoor

/- Trees, plain: the ops, as the document has them, and what follows. Of no program. -/
namespace Go.Proofs.YtdhlejhflkfoaaaDoor
open Go.RowKit Go.Shelf
set_option linter.unusedVariables false
set_option maxRecDepth 100000
set_option linter.unusedSimpArgs false

end Go.Proofs.YtdhlejhflkfoaaaDoor

/- Trees, plain: the ops with their statuses; a step of a play. Of no program. -/
namespace Go.Proofs.YtdhlejhflkfoaaaDoor
open Go.RowKit Go.Shelf
set_option linter.unusedVariables false
set_option maxRecDepth 100000
set_option linter.unusedSimpArgs false

/-- a new tree -/
def newT : Tr := ⟨[⟨1, 1, true, 4294967297, [], []⟩], 1, 1, 1, [(0, 0, []), (0, 0, []), (0, 0, []), (0, 0, [])]⟩
theorem may_new : MayT newT := by
  refine ⟨by decide, by decide, by decide, ⟨_, List.mem_singleton.2 rfl, rfl, rfl, rfl⟩, by decide, List.pairwise_singleton _ _, List.pairwise_singleton _ _, fun n hn => ?_, List.nodup_nil, fun h => (by cases h), fun n hn => ?_⟩
  · obtain rfl := List.mem_singleton.1 hn
    exact ⟨by decide, by decide, by decide, by decide, by decide, fun _ => rfl, fun e => (by cases e), List.Pairwise.nil, fun e he => (by cases he), by decide⟩
  · obtain rfl := List.mem_singleton.1 hn
    exact .here

end Go.Proofs.YtdhlejhflkfoaaaDoor
/- TreEK: TreE TreF TreK TreLp TreM. -/
/- Trees in memory: entries, nodes as elements of lists; a tree as a value; the reference's SameNode. -/
namespace Go.Proofs.YtdhlejhflkfoaaaDoor
open Go.RowKit Go.Shelf
set_option linter.unusedVariables false
set_option maxRecDepth 100000
set_option linter.unusedSimpArgs false

def entE : Elem Ent where
  ety := 80
  sty := 46
  n := 2
  bytes := 24
  rd w F cs x := cs = [sv x.1, .int .u32 (x.2 : Int)] ∧ x.2 < 4294967296
  und := Tryd.underlying46
  info := ⟨_, _, rfl, rfl, rfl, rfl, rfl⟩
  pos := by decide
  byt := by decide
  len := by rintro w F cs x ⟨rfl, _⟩; rfl
  one := by
    rintro w F cs x ⟨rfl, _⟩ u hu
    simp at hu
    rcases hu with rfl | rfl <;> rfl
  turn := fun h _ _ => h
  mono := fun h _ => h
/-- a value that reads as a list -/
def LsV {α : Type} (E : Elem α) (w : World) (F : Nat → Prop) (v : Value) (l : List α) : Prop := ∃ A c, v = .slice A l.length c ∧ RdX E w F A l ∧ l.length ≤ c ∧ c ≤ maxLen ∧ (A = none → l = [] ∧ c = 0)
section
variable {α : Type} {E : Elem α}
theorem LsV.turn {w w' : World} {F G : Nat → Prop} {v : Value} {l : List α} (h : LsV E w F v l) (ht : Turn w w' G) (hG : ∀ k, F k → ¬ G k) : LsV E w' F v l := by
  obtain ⟨A, c, h1, h2, h3⟩ := h
  exact ⟨A, c, h1, h2.turn ht hG, h3⟩
theorem LsV.below {w w' : World} {F : Nat → Prop} {v : Value} {l : List α} (h : LsV E w F v l) (hb : Below w.heap.size w w') : LsV E w' F v l := h.turn (Turn.of_below hb fun _ => False) fun _ _ h => h
theorem LsV.mono {w : World} {F G : Nat → Prop} {v : Value} {l : List α} (h : LsV E w F v l) (hF : ∀ k, k < w.heap.size → F k → G k) : LsV E w G v l := by
  obtain ⟨A, c, h1, h2, h3⟩ := h
  exact ⟨A, c, h1, h2.mono hF, h3⟩
theorem LsV.one {w : World} {F : Nat → Prop} {v : Value} {l : List α} (h : LsV E w F v l) : v.oneCell' = true := by
  obtain ⟨A, c, rfl, _⟩ := h
  rfl
theorem LsV.nil (w : World) (F : Nat → Prop) : LsV E w F (.slice none 0 0) [] := ⟨none, 0, rfl, .inl rfl, Nat.le_refl _, Nat.zero_le _, fun _ => ⟨rfl, rfl⟩⟩
end
/-- a node's cells -/
def ndC (n : Nd) (dv nv : Value) : List Value := [.int .u32 (n.ino : Int), .int .u32 (n.gen : Int), .bool n.dir, .int .u64 (n.chg : Int), dv, nv]
def NdAt (w : World) (F : Nat → Prop) (cs : List Value) (n : Nd) : Prop := ∃ dv nv, cs = ndC n dv nv ∧ BsV w F dv n.data ∧ LsV entE w F nv n.names ∧ n.ino < 4294967296 ∧ n.gen < 4294967296 ∧ n.chg < 18446744073709551616
theorem NdAt.one {w : World} {F : Nat → Prop} {cs : List Value} {n : Nd} (h : NdAt w F cs n) : ∀ v ∈ cs, v.oneCell' = true := by
  obtain ⟨dv, nv, rfl, h1, h2, -⟩ := h
  intro u hu
  simp [ndC] at hu
  rcases hu with rfl | rfl | rfl | rfl | rfl | rfl
  · rfl
  · rfl
  · rfl
  · rfl
  · exact h1.one
  · exact h2.one
theorem NdAt.turn {w w' : World} {F G : Nat → Prop} {cs : List Value} {n : Nd} (h : NdAt w F cs n) (ht : Turn w w' G) (hG : ∀ k, F k → ¬ G k) : NdAt w' F cs n := by
  obtain ⟨dv, nv, h0, h1, h2, h3⟩ := h
  exact ⟨dv, nv, h0, h1.turn ht hG, h2.turn ht hG, h3⟩
theorem NdAt.below {w w' : World} {F : Nat → Prop} {cs : List Value} {n : Nd} (h : NdAt w F cs n) (hb : Below w.heap.size w w') : NdAt w' F cs n := h.turn (Turn.of_below hb fun _ => False) fun _ _ h => h
theorem NdAt.mono {w : World} {F G : Nat → Prop} {cs : List Value} {n : Nd} (h : NdAt w F cs n) (hF : ∀ k, k < w.heap.size → F k → G k) : NdAt w G cs n := by
  obtain ⟨dv, nv, h0, h1, h2, h3⟩ := h
  exact ⟨dv, nv, h0, h1.mono hF, h2.mono hF, h3⟩
theorem NdAt.len {w : World} {F : Nat → Prop} {cs : List Value} {n : Nd} (h : NdAt w F cs n) : cs.length = 6 := by
  obtain ⟨dv, nv, rfl, -⟩ := h
  rfl
def nodeE : Elem Nd where
  ety := 48
  sty := 22
  n := 6
  bytes := 72
  rd := NdAt
  und := Tryd.underlying22
  info := ⟨_, _, rfl, rfl, rfl, rfl, rfl⟩
  pos := by decide
  byt := by decide
  len := fun h => h.len
  one := fun h => h.one
  turn := fun h ht hG => h.turn ht hG
  mono := fun h hF => h.mono hF
theorem infoNode : (Tryd.prog.info? 48).map (·.size) = some 6 := by kernel_rfl
theorem infoTree : (Tryd.prog.info? 30).map (·.size) = some 16 := by kernel_rfl
/-- a session's cells; all of them -/
def SeAt (w : World) (F : Nat → Prop) (cs : List Value) (x : Nat × Nat × List UInt8) : Prop := ∃ v, cs = [.int .u32 (x.1 : Int), .int .u64 (x.2.1 : Int), v] ∧ BsV w F v x.2.2 ∧ x.1 < 4294967296 ∧ x.2.1 < 18446744073709551616 ∧ x.2.2.length ≤ 140737488355328
def SesAt (w : World) (F : Nat → Prop) : List Value → List (Nat × Nat × List UInt8) → Prop
  | cs, [] => cs = []
  | cs, x :: r => SeAt w F (cs.take 3) x ∧ SesAt w F (cs.drop 3) r
/-- a tree's cells -/
def TrAt (w : World) (F : Nat → Prop) (cs : List Value) (t : Tr) : Prop := ∃ nv ss, cs = nv :: .int .u32 (t.lastGen : Int) :: .int .u32 (t.boot : Int) :: .int .u32 (t.count : Int) :: ss ∧ LsV nodeE w F nv t.nodes ∧ SesAt w F ss t.sess ∧ t.sess.length = 4 ∧ ss.length = 12 ∧ t.lastGen < 4294967296 ∧ t.boot < 4294967296 ∧ t.count < 4294967296
theorem SeAt.turn {w w' : World} {F G : Nat → Prop} {cs : List Value} {x : Nat × Nat × List UInt8} (h : SeAt w F cs x) (ht : Turn w w' G) (hG : ∀ k, F k → ¬ G k) : SeAt w' F cs x := by
  obtain ⟨v, h1, h2, h3⟩ := h
  exact ⟨v, h1, h2.turn ht hG, h3⟩
theorem SeAt.mono {w : World} {F G : Nat → Prop} {cs : List Value} {x : Nat × Nat × List UInt8} (h : SeAt w F cs x) (hF : ∀ k, k < w.heap.size → F k → G k) : SeAt w G cs x := by
  obtain ⟨v, h1, h2, h3⟩ := h
  exact ⟨v, h1, h2.mono hF, h3⟩
theorem SesAt.turn {w w' : World} {F G : Nat → Prop} : ∀ {l : List (Nat × Nat × List UInt8)} {cs : List Value}, SesAt w F cs l → Turn w w' G → (∀ k, F k → ¬ G k) → SesAt w' F cs l
  | [], _, h, _, _ => h
  | x :: r, _, h, ht, hG => ⟨h.1.turn ht hG, h.2.turn ht hG⟩
theorem SesAt.mono {w : World} {F G : Nat → Prop} : ∀ {l : List (Nat × Nat × List UInt8)} {cs : List Value}, SesAt w F cs l → (∀ k, k < w.heap.size → F k → G k) → SesAt w G cs l
  | [], _, h, _ => h
  | x :: r, _, h, hF => ⟨h.1.mono hF, h.2.mono hF⟩
theorem SesAt.one {w : World} {F : Nat → Prop} : ∀ {l : List (Nat × Nat × List UInt8)} {cs : List Value}, SesAt w F cs l → ∀ v ∈ cs, v.oneCell' = true
  | [], cs, h, v, hv => by
    rw [show cs = [] from h] at hv
    cases hv
  | x :: r, cs, h, v, hv => by
    obtain ⟨⟨u, h1, h2, -⟩, h3⟩ := h
    rw [← List.take_append_drop 3 cs, List.mem_append] at hv
    rcases hv with hv | hv
    · rw [h1] at hv
      simp at hv
      rcases hv with rfl | rfl | rfl
      · rfl
      · rfl
      · exact h2.one
    · exact h3.one v hv
theorem TrAt.turn {w w' : World} {F G : Nat → Prop} {cs : List Value} {t : Tr} (h : TrAt w F cs t) (ht : Turn w w' G) (hG : ∀ k, F k → ¬ G k) : TrAt w' F cs t := by
  obtain ⟨nv, ss, h0, h1, h2, h3⟩ := h
  exact ⟨nv, ss, h0, h1.turn ht hG, h2.turn ht hG, h3⟩
theorem TrAt.below {w w' : World} {F : Nat → Prop} {cs : List Value} {t : Tr} (h : TrAt w F cs t) (hb : Below w.heap.size w w') : TrAt w' F cs t := h.turn (Turn.of_below hb fun _ => False) fun _ _ h => h
theorem TrAt.mono {w : World} {F G : Nat → Prop} {cs : List Value} {t : Tr} (h : TrAt w F cs t) (hF : ∀ k, k < w.heap.size → F k → G k) : TrAt w G cs t := by
  obtain ⟨nv, ss, h0, h1, h2, h3⟩ := h
  exact ⟨nv, ss, h0, h1.mono hF, h2.mono hF, h3⟩
theorem TrAt.one {w : World} {F : Nat → Prop} {cs : List Value} {t : Tr} (h : TrAt w F cs t) : ∀ v ∈ cs, v.oneCell' = true := by
  obtain ⟨nv, ss, rfl, h1, h2, -⟩ := h
  intro u hu
  simp only [List.mem_cons] at hu
  rcases hu with rfl | rfl | rfl | rfl | hu
  · exact h1.one
  · rfl
  · rfl
  · rfl
  · exact h2.one u hu
theorem TrAt.len {w : World} {F : Nat → Prop} {cs : List Value} {t : Tr} (h : TrAt w F cs t) : cs.length = 16 := by
  obtain ⟨nv, ss, rfl, -, -, -, h3, -⟩ := h
  simp [h3]
theorem ent_at {w : World} {F : Nat → Prop} {A : Option Addr} {ls : List Ent} (h : RdX entE w F A ls) (j : Nat) (hj : j < ls.length) : ∃ b off, A = some ⟨b, off, none⟩ ∧ w.cell? ⟨b, off + j * 2, none⟩ = some (sv ls[j].1) ∧ w.cell? ⟨b, off + j * 2 + 1, none⟩ = some (.int .u32 (ls[j].2 : Int)) ∧ ls[j].2 < 4294967296 := by
  obtain ⟨b, off, cs, e, ⟨rfl, h1⟩, hat⟩ := h.get j hj
  exact ⟨b, off, e, hat 0 _ rfl, hat 1 _ rfl, h1⟩

end Go.Proofs.YtdhlejhflkfoaaaDoor

/- The reference: the same node? -/
namespace Go.Proofs.YtdhlejhflkfoaaaDoor
open Go.RowKit Go.Shelf
set_option linter.unusedVariables false
set_option maxRecDepth 100000
set_option linter.unusedSimpArgs false

/-- the same node? -/
def sameN (a b : Nd) : Bool := decide (a.ino = b.ino) && (decide (a.gen = b.gen) && ((a.dir == b.dir) && (decide (a.chg = b.chg) && ((a.data == b.data) && decide (a.names = b.names)))))
set_option maxHeartbeats 16000000 in
theorem SameNode_v (a b : Nd) (cs ds : List Value) (F G : Nat → Prop) (w : World) (ha : NdAt w F cs a) (hb : NdAt w G ds b) (hla : a.names.length ≤ 140737488355328) (hlb : b.names.length ≤ 140737488355328) :
    Calls Tryd.prog 33 #[.agg cs.toArray, .agg ds.toArray] w fun e w' => e = .returned (.bool (sameN a b)) ∧ Below w.heap.size w w' := by
  obtain ⟨dv, nv, rfl, hd, hn, -⟩ := ha
  obtain ⟨dv', nv', rfl, hd', hn', -⟩ := hb
  obtain ⟨A1, c1, rfl, r1, -⟩ := hd
  obtain ⟨A2, c2, rfl, r2, -⟩ := hd'
  obtain ⟨A3, c3, rfl, r3, -⟩ := hn
  obtain ⟨A4, c4, rfl, r4, -⟩ := hn'
  obtain ⟨a1, a2, a3, a4, a5, a6⟩ := a
  obtain ⟨b1, b2, b3, b4, b5, b6⟩ := b
  dsimp only [ndC] at *
  have R1 := Lib.hid r1
  have R2 := Lib.hid r2
  have R3 := Lib.hid r3
  have R4 := Lib.hid r4
  clear r1 r2 r3 r4
  have HS := Lib.hid (show sameN ⟨a1, a2, a3, a4, a5, a6⟩ ⟨b1, b2, b3, b4, b5, b6⟩ = (decide (a1 = b1) && (decide (a2 = b2) && ((a3 == b3) && (decide (a4 = b4) && ((a5 == b5) && decide (a6 = b6)))))) from rfl)
  go_enter Tryd.func33, Tryd.ntmps33
  by_cases h1 : a1 = b1
  · subst h1
    by_cases h2 : a2 = b2
    · subst h2
      by_cases h3 : a3 = b3
      · subst h3
        by_cases h4 : a4 = b4
        · subst h4
          by_cases h5 : a5 = b5
          · subst h5
            have HS2 := Lib.hid (show sameN ⟨a1, a2, a3, a4, a5, a6⟩ ⟨a1, a2, a3, a4, a5, b6⟩ = decide (a6 = b6) by rw [HS.out]; simp)
            clear HS
            by_cases hl : a6.length = b6.length
            · have el : ((a6.length : Int) != (b6.length : Int)) = false := by simp [hl]
              have HL := Lib.hid hl
              clear hl
              go_wp2_with (first
                | ((with_reducible show wpList _ _ _ _ _ w); refine wpList_boxS rfl 48 _ rfl [.int .u32 (a1 : Int), .int .u32 (a2 : Int), .bool a3, .int .u64 (a4 : Int), .slice A1 a5.length c1, .slice A3 a6.length c3] rfl ?_; intro g1 w1 hk1 hb1 hg1; go_frame; have C1 := Lib.hid hk1; have B1 := Lib.hid hb1; clear hk1 hb1 hg1)
                | ((with_reducible show wpList _ _ _ _ _ w1); refine wpList_boxS rfl 48 _ rfl [.int .u32 (a1 : Int), .int .u32 (a2 : Int), .bool a3, .int .u64 (a4 : Int), .slice A2 a5.length c2, .slice A4 b6.length c4] rfl ?_; intro g2 w2 hk2 hb2 hg2; go_frame; have C2 := Lib.hid hk2; have C12 := Lib.hid (C1.out.below hb2 C1.out.lt); have B2 := Lib.hid (below_chain B1.out hb2); clear hk2 hb2 hg2; have p0 : w2.cell? ⟨g1, 0, none⟩ = some (.int .u32 (a1 : Int)) := C12.out.cell 0 rfl; have p1 : w2.cell? ⟨g1, 1, none⟩ = some (.int .u32 (a2 : Int)) := C12.out.cell 1 rfl; have p2 : w2.cell? ⟨g1, 2, none⟩ = some (.bool a3) := C12.out.cell 2 rfl; have p3 : w2.cell? ⟨g1, 3, none⟩ = some (.int .u64 (a4 : Int)) := C12.out.cell 3 rfl; have p4 : w2.cell? ⟨g1, 4, none⟩ = some (.slice A1 a5.length c1) := C12.out.cell 4 rfl; have p5 : w2.cell? ⟨g1, 5, none⟩ = some (.slice A3 a6.length c3) := C12.out.cell 5 rfl; have q0 : w2.cell? ⟨g2, 0, none⟩ = some (.int .u32 (a1 : Int)) := C2.out.cell 0 rfl; have q1 : w2.cell? ⟨g2, 1, none⟩ = some (.int .u32 (a2 : Int)) := C2.out.cell 1 rfl; have q2 : w2.cell? ⟨g2, 2, none⟩ = some (.bool a3) := C2.out.cell 2 rfl; have q3 : w2.cell? ⟨g2, 3, none⟩ = some (.int .u64 (a4 : Int)) := C2.out.cell 3 rfl; have q4 : w2.cell? ⟨g2, 4, none⟩ = some (.slice A2 a5.length c2) := C2.out.cell 4 rfl; have q5 : w2.cell? ⟨g2, 5, none⟩ = some (.slice A4 b6.length c4) := C2.out.cell 5 rfl; have v1 := conv_rd (R1.out.rd.below B2.out) c1; have v2 := conv_rd (R2.out.rd.below B2.out) c2)
                | fail)
              clear el v1 v2 p0 p1 p2 p3 p4 q0 q1 q2 q3 q4 p5 q5
              go_loopw [5] (fun j wr => ∃ k : Nat, j = .int .i64 k ∧ SameL a6 b6 k ∧ Below w2.heap.size w2 wr) (fun j _ => a6.length - (RowKit.intOf j).toNat)
              case atStart => exact ⟨0, rfl, ⟨Nat.zero_le _, by simp⟩, Below.refl _ _⟩
              case round =>
                obtain ⟨k, rfl, hI, hB⟩ := hrel
                have p5 : wr.cell? ⟨g1, 5, none⟩ = some (.slice A3 a6.length c3) := (C12.out.below hB C12.out.lt).cell 5 rfl
                have q5 : wr.cell? ⟨g2, 5, none⟩ = some (.slice A4 b6.length c4) := (C2.out.below hB C2.out.lt).cell 5 rfl
                by_cases hk : k < a6.length
                · have hk2 : k < b6.length := by rw [← HL.out]; exact hk
                  obtain ⟨b, off, rfl, hc1, hd1, -⟩ := ent_at ((R3.out.below B2.out).below hB) k hk
                  obtain ⟨b', off', rfl, hc2, hd2, -⟩ := ent_at ((R4.out.below B2.out).below hB) k hk2
                  have HX := Lib.hid (fun e => sameL_no hk hk2 e)
                  have HY := Lib.hid (fun e => hI.next hk hk2 e)
                  have HB := Lib.hid hB
                  generalize a6[k] = x at *
                  generalize b6[k] = y at *
                  obtain ⟨x1, x2⟩ := x
                  obtain ⟨y1, y2⟩ := y
                  dsimp only [sv] at *
                  clear hI hB
                  by_cases h1 : x1 = y1
                  · subst h1
                    by_cases h2 : x2 = y2
                    · subst h2
                      have hf := Lib.hid (HY.out rfl)
                      clear HX HY
                      go_wp2_with fail
                      go_quiet (fail)
                      go_wp2_with fail
                      go_roundw
                      case rel => exact ⟨k + 1, by go_num, hf.out, below_drewN HB.out _⟩
                      case measure => simp [RowKit.intOf]; omega
                    · have hf := Lib.hid (HX.out (by rintro ⟨⟩; exact h2 rfl))
                      have e1 : ¬ (x2 : Int) = y2 := by omega
                      clear HX HY h2
                      go_wp2_with fail
                      go_quiet (fail)
                      go_wp2_with fail
                      go_ret
                      exact ⟨by rw [HS2.out, hf.out]; first | done | rfl, below_drewN (below_chain B2.out HB.out) _⟩
                  · have hf := Lib.hid (HX.out (by rintro ⟨⟩; exact h1 rfl))
                    have e1 : (x1 == y1) = false := by simpa using h1
                    clear HX HY
                    go_wp2_with fail
                    go_quiet (fail)
                    go_wp2_with fail
                    go_ret
                    exact ⟨by rw [HS2.out, hf.out]; first | done | rfl, below_drewN (below_chain B2.out HB.out) _⟩
                · have hv := Lib.hid (hI.over hk HL.out)
                  clear hI
                  go_wp2_with fail
                  go_ret
                  exact ⟨by rw [HS2.out, hv.out]; first | done | rfl, below_chain B2.out hB⟩
            · have el : ((a6.length : Int) != (b6.length : Int)) = true := by simp; omega
              have hv := Lib.hid (sameL_len hl)
              clear hl
              go_wp2_with (first
                | ((with_reducible show wpList _ _ _ _ _ w); refine wpList_boxS rfl 48 _ rfl [.int .u32 (a1 : Int), .int .u32 (a2 : Int), .bool a3, .int .u64 (a4 : Int), .slice A1 a5.length c1, .slice A3 a6.length c3] rfl ?_; intro g1 w1 hk1 hb1 hg1; go_frame; have C1 := Lib.hid hk1; have B1 := Lib.hid hb1; clear hk1 hb1 hg1)
                | ((with_reducible show wpList _ _ _ _ _ w1); refine wpList_boxS rfl 48 _ rfl [.int .u32 (a1 : Int), .int .u32 (a2 : Int), .bool a3, .int .u64 (a4 : Int), .slice A2 a5.length c2, .slice A4 b6.length c4] rfl ?_; intro g2 w2 hk2 hb2 hg2; go_frame; have C2 := Lib.hid hk2; have C12 := Lib.hid (C1.out.below hb2 C1.out.lt); have B2 := Lib.hid (below_chain B1.out hb2); clear hk2 hb2 hg2; have p0 : w2.cell? ⟨g1, 0, none⟩ = some (.int .u32 (a1 : Int)) := C12.out.cell 0 rfl; have p1 : w2.cell? ⟨g1, 1, none⟩ = some (.int .u32 (a2 : Int)) := C12.out.cell 1 rfl; have p2 : w2.cell? ⟨g1, 2, none⟩ = some (.bool a3) := C12.out.cell 2 rfl; have p3 : w2.cell? ⟨g1, 3, none⟩ = some (.int .u64 (a4 : Int)) := C12.out.cell 3 rfl; have p4 : w2.cell? ⟨g1, 4, none⟩ = some (.slice A1 a5.length c1) := C12.out.cell 4 rfl; have p5 : w2.cell? ⟨g1, 5, none⟩ = some (.slice A3 a6.length c3) := C12.out.cell 5 rfl; have q0 : w2.cell? ⟨g2, 0, none⟩ = some (.int .u32 (a1 : Int)) := C2.out.cell 0 rfl; have q1 : w2.cell? ⟨g2, 1, none⟩ = some (.int .u32 (a2 : Int)) := C2.out.cell 1 rfl; have q2 : w2.cell? ⟨g2, 2, none⟩ = some (.bool a3) := C2.out.cell 2 rfl; have q3 : w2.cell? ⟨g2, 3, none⟩ = some (.int .u64 (a4 : Int)) := C2.out.cell 3 rfl; have q4 : w2.cell? ⟨g2, 4, none⟩ = some (.slice A2 a5.length c2) := C2.out.cell 4 rfl; have q5 : w2.cell? ⟨g2, 5, none⟩ = some (.slice A4 b6.length c4) := C2.out.cell 5 rfl; have v1 := conv_rd (R1.out.rd.below B2.out) c1; have v2 := conv_rd (R2.out.rd.below B2.out) c2)
                | fail)
              go_ret
              exact ⟨by rw [HS2.out, hv.out]; first | done | rfl, B2.out⟩
          · have e5 : (a5 == b5) = false := by simpa using h5
            rw [e5] at HS
            go_wp2_with (first
              | ((with_reducible show wpList _ _ _ _ _ w); refine wpList_boxS rfl 48 _ rfl [.int .u32 (a1 : Int), .int .u32 (a2 : Int), .bool a3, .int .u64 (a4 : Int), .slice A1 a5.length c1, .slice A3 a6.length c3] rfl ?_; intro g1 w1 hk1 hb1 hg1; go_frame; have C1 := Lib.hid hk1; have B1 := Lib.hid hb1; clear hk1 hb1 hg1)
              | ((with_reducible show wpList _ _ _ _ _ w1); refine wpList_boxS rfl 48 _ rfl [.int .u32 (a1 : Int), .int .u32 (a2 : Int), .bool a3, .int .u64 (a4 : Int), .slice A2 b5.length c2, .slice A4 b6.length c4] rfl ?_; intro g2 w2 hk2 hb2 hg2; go_frame; have C2 := Lib.hid hk2; have C12 := Lib.hid (C1.out.below hb2 C1.out.lt); have B2 := Lib.hid (below_chain B1.out hb2); clear hk2 hb2 hg2; have p0 : w2.cell? ⟨g1, 0, none⟩ = some (.int .u32 (a1 : Int)) := C12.out.cell 0 rfl; have p1 : w2.cell? ⟨g1, 1, none⟩ = some (.int .u32 (a2 : Int)) := C12.out.cell 1 rfl; have p2 : w2.cell? ⟨g1, 2, none⟩ = some (.bool a3) := C12.out.cell 2 rfl; have p3 : w2.cell? ⟨g1, 3, none⟩ = some (.int .u64 (a4 : Int)) := C12.out.cell 3 rfl; have p4 : w2.cell? ⟨g1, 4, none⟩ = some (.slice A1 a5.length c1) := C12.out.cell 4 rfl; have p5 : w2.cell? ⟨g1, 5, none⟩ = some (.slice A3 a6.length c3) := C12.out.cell 5 rfl; have q0 : w2.cell? ⟨g2, 0, none⟩ = some (.int .u32 (a1 : Int)) := C2.out.cell 0 rfl; have q1 : w2.cell? ⟨g2, 1, none⟩ = some (.int .u32 (a2 : Int)) := C2.out.cell 1 rfl; have q2 : w2.cell? ⟨g2, 2, none⟩ = some (.bool a3) := C2.out.cell 2 rfl; have q3 : w2.cell? ⟨g2, 3, none⟩ = some (.int .u64 (a4 : Int)) := C2.out.cell 3 rfl; have q4 : w2.cell? ⟨g2, 4, none⟩ = some (.slice A2 b5.length c2) := C2.out.cell 4 rfl; have q5 : w2.cell? ⟨g2, 5, none⟩ = some (.slice A4 b6.length c4) := C2.out.cell 5 rfl; have v1 := conv_rd (R1.out.rd.below B2.out) c1; have v2 := conv_rd (R2.out.rd.below B2.out) c2)
              | fail)
            go_ret
            exact ⟨by rw [HS.out]; simp, B2.out⟩
        · have e4 : ¬ (a4 : Int) = b4 := by omega
          rw [decide_eq_false h4] at HS
          clear h4
          go_wp2_with (first
            | ((with_reducible show wpList _ _ _ _ _ w); refine wpList_boxS rfl 48 _ rfl [.int .u32 (a1 : Int), .int .u32 (a2 : Int), .bool a3, .int .u64 (a4 : Int), .slice A1 a5.length c1, .slice A3 a6.length c3] rfl ?_; intro g1 w1 hk1 hb1 hg1; go_frame; have C1 := Lib.hid hk1; have B1 := Lib.hid hb1; clear hk1 hb1 hg1)
            | ((with_reducible show wpList _ _ _ _ _ w1); refine wpList_boxS rfl 48 _ rfl [.int .u32 (a1 : Int), .int .u32 (a2 : Int), .bool a3, .int .u64 (b4 : Int), .slice A2 b5.length c2, .slice A4 b6.length c4] rfl ?_; intro g2 w2 hk2 hb2 hg2; go_frame; have C2 := Lib.hid hk2; have C12 := Lib.hid (C1.out.below hb2 C1.out.lt); have B2 := Lib.hid (below_chain B1.out hb2); clear hk2 hb2 hg2; have p0 : w2.cell? ⟨g1, 0, none⟩ = some (.int .u32 (a1 : Int)) := C12.out.cell 0 rfl; have p1 : w2.cell? ⟨g1, 1, none⟩ = some (.int .u32 (a2 : Int)) := C12.out.cell 1 rfl; have p2 : w2.cell? ⟨g1, 2, none⟩ = some (.bool a3) := C12.out.cell 2 rfl; have p3 : w2.cell? ⟨g1, 3, none⟩ = some (.int .u64 (a4 : Int)) := C12.out.cell 3 rfl; have p4 : w2.cell? ⟨g1, 4, none⟩ = some (.slice A1 a5.length c1) := C12.out.cell 4 rfl; have p5 : w2.cell? ⟨g1, 5, none⟩ = some (.slice A3 a6.length c3) := C12.out.cell 5 rfl; have q0 : w2.cell? ⟨g2, 0, none⟩ = some (.int .u32 (a1 : Int)) := C2.out.cell 0 rfl; have q1 : w2.cell? ⟨g2, 1, none⟩ = some (.int .u32 (a2 : Int)) := C2.out.cell 1 rfl; have q2 : w2.cell? ⟨g2, 2, none⟩ = some (.bool a3) := C2.out.cell 2 rfl; have q3 : w2.cell? ⟨g2, 3, none⟩ = some (.int .u64 (b4 : Int)) := C2.out.cell 3 rfl; have q4 : w2.cell? ⟨g2, 4, none⟩ = some (.slice A2 b5.length c2) := C2.out.cell 4 rfl; have q5 : w2.cell? ⟨g2, 5, none⟩ = some (.slice A4 b6.length c4) := C2.out.cell 5 rfl; have v1 := conv_rd (R1.out.rd.below B2.out) c1; have v2 := conv_rd (R2.out.rd.below B2.out) c2)
            | fail)
          go_ret
          exact ⟨by rw [HS.out]; simp, B2.out⟩
      · have e3 : (a3 == b3) = false := by simpa using h3
        rw [e3] at HS
        go_wp2_with (first
          | ((with_reducible show wpList _ _ _ _ _ w); refine wpList_boxS rfl 48 _ rfl [.int .u32 (a1 : Int), .int .u32 (a2 : Int), .bool a3, .int .u64 (a4 : Int), .slice A1 a5.length c1, .slice A3 a6.length c3] rfl ?_; intro g1 w1 hk1 hb1 hg1; go_frame; have C1 := Lib.hid hk1; have B1 := Lib.hid hb1; clear hk1 hb1 hg1)
          | ((with_reducible show wpList _ _ _ _ _ w1); refine wpList_boxS rfl 48 _ rfl [.int .u32 (a1 : Int), .int .u32 (a2 : Int), .bool b3, .int .u64 (b4 : Int), .slice A2 b5.length c2, .slice A4 b6.length c4] rfl ?_; intro g2 w2 hk2 hb2 hg2; go_frame; have C2 := Lib.hid hk2; have C12 := Lib.hid (C1.out.below hb2 C1.out.lt); have B2 := Lib.hid (below_chain B1.out hb2); clear hk2 hb2 hg2; have p0 : w2.cell? ⟨g1, 0, none⟩ = some (.int .u32 (a1 : Int)) := C12.out.cell 0 rfl; have p1 : w2.cell? ⟨g1, 1, none⟩ = some (.int .u32 (a2 : Int)) := C12.out.cell 1 rfl; have p2 : w2.cell? ⟨g1, 2, none⟩ = some (.bool a3) := C12.out.cell 2 rfl; have p3 : w2.cell? ⟨g1, 3, none⟩ = some (.int .u64 (a4 : Int)) := C12.out.cell 3 rfl; have p4 : w2.cell? ⟨g1, 4, none⟩ = some (.slice A1 a5.length c1) := C12.out.cell 4 rfl; have p5 : w2.cell? ⟨g1, 5, none⟩ = some (.slice A3 a6.length c3) := C12.out.cell 5 rfl; have q0 : w2.cell? ⟨g2, 0, none⟩ = some (.int .u32 (a1 : Int)) := C2.out.cell 0 rfl; have q1 : w2.cell? ⟨g2, 1, none⟩ = some (.int .u32 (a2 : Int)) := C2.out.cell 1 rfl; have q2 : w2.cell? ⟨g2, 2, none⟩ = some (.bool b3) := C2.out.cell 2 rfl; have q3 : w2.cell? ⟨g2, 3, none⟩ = some (.int .u64 (b4 : Int)) := C2.out.cell 3 rfl; have q4 : w2.cell? ⟨g2, 4, none⟩ = some (.slice A2 b5.length c2) := C2.out.cell 4 rfl; have q5 : w2.cell? ⟨g2, 5, none⟩ = some (.slice A4 b6.length c4) := C2.out.cell 5 rfl; have v1 := conv_rd (R1.out.rd.below B2.out) c1; have v2 := conv_rd (R2.out.rd.below B2.out) c2)
          | fail)
        go_ret
        exact ⟨by rw [HS.out]; simp, B2.out⟩
    · have e2 : ¬ (a2 : Int) = b2 := by omega
      rw [decide_eq_false h2] at HS
      clear h2
      go_wp2_with (first
        | ((with_reducible show wpList _ _ _ _ _ w); refine wpList_boxS rfl 48 _ rfl [.int .u32 (a1 : Int), .int .u32 (a2 : Int), .bool a3, .int .u64 (a4 : Int), .slice A1 a5.length c1, .slice A3 a6.length c3] rfl ?_; intro g1 w1 hk1 hb1 hg1; go_frame; have C1 := Lib.hid hk1; have B1 := Lib.hid hb1; clear hk1 hb1 hg1)
        | ((with_reducible show wpList _ _ _ _ _ w1); refine wpList_boxS rfl 48 _ rfl [.int .u32 (a1 : Int), .int .u32 (b2 : Int), .bool b3, .int .u64 (b4 : Int), .slice A2 b5.length c2, .slice A4 b6.length c4] rfl ?_; intro g2 w2 hk2 hb2 hg2; go_frame; have C2 := Lib.hid hk2; have C12 := Lib.hid (C1.out.below hb2 C1.out.lt); have B2 := Lib.hid (below_chain B1.out hb2); clear hk2 hb2 hg2; have p0 : w2.cell? ⟨g1, 0, none⟩ = some (.int .u32 (a1 : Int)) := C12.out.cell 0 rfl; have p1 : w2.cell? ⟨g1, 1, none⟩ = some (.int .u32 (a2 : Int)) := C12.out.cell 1 rfl; have p2 : w2.cell? ⟨g1, 2, none⟩ = some (.bool a3) := C12.out.cell 2 rfl; have p3 : w2.cell? ⟨g1, 3, none⟩ = some (.int .u64 (a4 : Int)) := C12.out.cell 3 rfl; have p4 : w2.cell? ⟨g1, 4, none⟩ = some (.slice A1 a5.length c1) := C12.out.cell 4 rfl; have p5 : w2.cell? ⟨g1, 5, none⟩ = some (.slice A3 a6.length c3) := C12.out.cell 5 rfl; have q0 : w2.cell? ⟨g2, 0, none⟩ = some (.int .u32 (a1 : Int)) := C2.out.cell 0 rfl; have q1 : w2.cell? ⟨g2, 1, none⟩ = some (.int .u32 (b2 : Int)) := C2.out.cell 1 rfl; have q2 : w2.cell? ⟨g2, 2, none⟩ = some (.bool b3) := C2.out.cell 2 rfl; have q3 : w2.cell? ⟨g2, 3, none⟩ = some (.int .u64 (b4 : Int)) := C2.out.cell 3 rfl; have q4 : w2.cell? ⟨g2, 4, none⟩ = some (.slice A2 b5.length c2) := C2.out.cell 4 rfl; have q5 : w2.cell? ⟨g2, 5, none⟩ = some (.slice A4 b6.length c4) := C2.out.cell 5 rfl; have v1 := conv_rd (R1.out.rd.below B2.out) c1; have v2 := conv_rd (R2.out.rd.below B2.out) c2)
        | fail)
      go_ret
      exact ⟨by rw [HS.out]; simp, B2.out⟩
  · have e1 : ¬ (a1 : Int) = b1 := by omega
    rw [decide_eq_false h1] at HS
    clear h1
    go_wp2_with (first
      | ((with_reducible show wpList _ _ _ _ _ w); refine wpList_boxS rfl 48 _ rfl [.int .u32 (a1 : Int), .int .u32 (a2 : Int), .bool a3, .int .u64 (a4 : Int), .slice A1 a5.length c1, .slice A3 a6.length c3] rfl ?_; intro g1 w1 hk1 hb1 hg1; go_frame; have C1 := Lib.hid hk1; have B1 := Lib.hid hb1; clear hk1 hb1 hg1)
      | ((with_reducible show wpList _ _ _ _ _ w1); refine wpList_boxS rfl 48 _ rfl [.int .u32 (b1 : Int), .int .u32 (b2 : Int), .bool b3, .int .u64 (b4 : Int), .slice A2 b5.length c2, .slice A4 b6.length c4] rfl ?_; intro g2 w2 hk2 hb2 hg2; go_frame; have C2 := Lib.hid hk2; have C12 := Lib.hid (C1.out.below hb2 C1.out.lt); have B2 := Lib.hid (below_chain B1.out hb2); clear hk2 hb2 hg2; have p0 : w2.cell? ⟨g1, 0, none⟩ = some (.int .u32 (a1 : Int)) := C12.out.cell 0 rfl; have p1 : w2.cell? ⟨g1, 1, none⟩ = some (.int .u32 (a2 : Int)) := C12.out.cell 1 rfl; have p2 : w2.cell? ⟨g1, 2, none⟩ = some (.bool a3) := C12.out.cell 2 rfl; have p3 : w2.cell? ⟨g1, 3, none⟩ = some (.int .u64 (a4 : Int)) := C12.out.cell 3 rfl; have p4 : w2.cell? ⟨g1, 4, none⟩ = some (.slice A1 a5.length c1) := C12.out.cell 4 rfl; have p5 : w2.cell? ⟨g1, 5, none⟩ = some (.slice A3 a6.length c3) := C12.out.cell 5 rfl; have q0 : w2.cell? ⟨g2, 0, none⟩ = some (.int .u32 (b1 : Int)) := C2.out.cell 0 rfl; have q1 : w2.cell? ⟨g2, 1, none⟩ = some (.int .u32 (b2 : Int)) := C2.out.cell 1 rfl; have q2 : w2.cell? ⟨g2, 2, none⟩ = some (.bool b3) := C2.out.cell 2 rfl; have q3 : w2.cell? ⟨g2, 3, none⟩ = some (.int .u64 (b4 : Int)) := C2.out.cell 3 rfl; have q4 : w2.cell? ⟨g2, 4, none⟩ = some (.slice A2 b5.length c2) := C2.out.cell 4 rfl; have q5 : w2.cell? ⟨g2, 5, none⟩ = some (.slice A4 b6.length c4) := C2.out.cell 5 rfl; have v1 := conv_rd (R1.out.rd.below B2.out) c1; have v2 := conv_rd (R2.out.rd.below B2.out) c2)
      | fail)
    go_ret
    exact ⟨by rw [HS.out]; simp, B2.out⟩

end Go.Proofs.YtdhlejhflkfoaaaDoor

/- What layer 13's laws take of the program: its contracts, as one bundle. -/
namespace Go.Proofs.YtdhlejhflkfoaaaDoor
open Go.RowKit Go.Shelf
set_option linter.unusedVariables false
set_option maxRecDepth 100000
set_option linter.unusedSimpArgs false

/-- a tree's cells, a node's, wherever they reach -/
abbrev TrV (w : World) (cs : List Value) (t : Tr) : Prop := TrAt w (· < w.heap.size) cs t
abbrev NdV (w : World) (cs : List Value) (n : Nd) : Prop := NdAt w (· < w.heap.size) cs n
theorem TrAt.later {w w' : World} {cs : List Value} {t : Tr} (h : TrV w cs t) (hb : Below w.heap.size w w') : TrV w' cs t := (h.below hb).mono fun k _ hk => Nat.lt_of_lt_of_le hk hb.size
theorem NdAt.later {w w' : World} {cs : List Value} {n : Nd} (h : NdV w cs n) (hb : Below w.heap.size w w') : NdV w' cs n := (h.below hb).mono fun k _ hk => Nat.lt_of_lt_of_le hk hb.size
end Go.Proofs.YtdhlejhflkfoaaaDoor

/- What a file of a new tree comes to: made, written, removed, renamed. Of no program. -/
namespace Go.Proofs.YtdhlejhflkfoaaaDoor
open Go.RowKit Go.Shelf
set_option linter.unusedVariables false
set_option maxRecDepth 100000
set_option linter.unusedSimpArgs false

end Go.Proofs.YtdhlejhflkfoaaaDoor

/- Devices for layer 13's laws: a region that draws its order, cut off from what follows it; what a call yields, laid into variables made in the same region. -/
namespace Go.Proofs.YtdhlejhflkfoaaaDoor
open Go.RowKit Go.Shelf
set_option linter.unusedVariables false
set_option maxRecDepth 100000
set_option linter.unusedSimpArgs false

section
variable {P : Program} {ops : Array Oper} {Q : Exit → Act → World → Prop} {md : Region.Mode}
/-- a piece of code, cut off from what follows -/
theorem code_cut {c : Code} {a : Act} {w : World} (R : Act → Act → World → Prop) (h1 : c.wp P (fun e a' w' => e = .normal ∧ R a a' w') a w) (h2 : ∀ a' w', R a a' w' → Q .normal a' w') : c.wp P Q a w :=
  Go.wp_mono h1 fun e a' w' ⟨e1, e2⟩ => by subst e1; exact h2 a' w' e2
/-- whichever of them comes -/
theorem wpAnyV_all {bs : List Nat} {S : World → Prop} {fuel : Nat} {listed : Array Bool} {a : Act} {l : List Nat} (hr : Region.ready md ops listed = l) (hne : l ≠ [])
    (h : ∀ i ∈ l, ∀ w, S w → wpOp P ops Q i (fun a' w' => ∃ (S' : World → Prop), S' w' ∧ Kept S' ∧ (i ∉ bs → ∀ u, S' u → S u) ∧ wpAnyV P md ops Q bs S' fuel (listed.setIfInBounds i true) a') a w) : wpAnyV P md ops Q bs S (fuel + 1) listed a :=
  ⟨fun e => absurd (hr.symm.trans e) hne, fun i hi => by rw [hr] at hi; exact h i hi⟩
theorem wpOp_at {i : Nat} {o : Oper} {a : Act} {w : World} {K : Act → World → Prop} (hi : ops[i]? = some o) (hg : o.guard = none) (h : o.wp P a w K Q) : wpOp P ops Q i K a w := by
  unfold wpOp
  simp only [hi]
  have : Region.wanted o (yielded ops a.tmps) = true := by simp [Region.wanted, hg]
  rw [if_pos this]
  exact .inl h
theorem DoesV.loadT {T : World → Prop} {o : Oper} {a : Act} (hw : Region.wanted o (yielded ops a.tmps) = true) (ty : TypeId) (x : Operand) (ho : o.op = .load ty x) (b f : Nat) (hx : a.eval x = .pointer (some ⟨b, f, none⟩)) (cs : List Value) (hc : ∀ w, T w → At w b f cs) (d : TypeDesc) (hu : P.underlying ty = some d)
    (hd : (match d with | .struct _ | .array _ _ => true | _ => false) = true) (hi : (P.info? ty).map (·.size) = some cs.length) : DoesV P ops T o (.agg cs.toArray) a :=
  DoesV.reads hw fun w hT => by
    unfold execOp
    simp only [ho, hx, Instr.loadAt, Instr.sureAddr, Sem.run_bind, Sem.run_pure, Result.andThen_ok, run_loadVar_at w ty b f cs (hc w hT) d hu hd hi]
end
section
variable {w : World} {ops : Array Oper} {rest : List Oper} {o : Oper} {a : Act} {Q : Exit → Act → World → Prop}
end
def treeZ : List Value := [.slice none 0 0, .int .u32 0, .int .u32 0, .int .u32 0, .int .u32 0, .int .u64 0, .slice none 0 0, .int .u32 0, .int .u64 0, .slice none 0 0, .int .u32 0, .int .u64 0, .slice none 0 0, .int .u32 0, .int .u64 0, .slice none 0 0]
def nodeZ : List Value := [.int .u32 0, .int .u32 0, .bool false, .int .u64 0, .slice none 0 0, .slice none 0 0]
theorem treeZero (w : World) : (zeroValue 30).run Tryd.prog w = .ok (.agg treeZ.toArray) w := by kernel_rfl
theorem nodeZero (w : World) : (zeroValue 48).run Tryd.prog w = .ok (.agg nodeZ.toArray) w := by kernel_rfl
end Go.Proofs.YtdhlejhflkfoaaaDoor
/- The program: a reader's pieces, its numbers, all that is left. -/
namespace Go.Proofs.YtdhlejhflkfoaaaDoor
open Go.RowKit Go.Shelf
set_option linter.unusedVariables false
set_option maxRecDepth 100000
set_option linter.unusedSimpArgs false

theorem und_rd : Tryd.prog.underlying 62 = some (.slice (Tryd.prog.elem 62)) := by simp [Program.elem, Tryd.underlying62]
theorem el_rd : Tryd.prog.elem 62 = 5 := by simp [Program.elem, Tryd.underlying62]
theorem sl_lR (A : Option Addr) (n c k : Nat) (hk : k ≤ n) (W : World) : (Instr.slice 62 (.slice A n c) (some (.int .i64 (k : Int))) none none).run Tryd.prog W = .ok (.slice (cutA A k c) (n - k) (c - k)) W := by
  rw [run_slice_l W 62 _ _ _ und_rd .i64 _ (by omega) (by omega), el_rd, Tryd.sizeOf5]
  rfl
theorem sl_hR (A : Option Addr) (n c h : Nat) (hh : h ≤ c) (W : World) : (Instr.slice 62 (.slice A n c) none (some (.int .i64 (h : Int))) none).run Tryd.prog W = .ok (.slice A h c) W := by
  rw [run_slice_h W 62 _ _ _ und_rd .i64 _ (by omega) (by omega), el_rd, Tryd.sizeOf5]
  show Result.ok (Value.slice (cutA A 0 c) (h - 0) (c - 0)) W = _
  rw [cutA_zero]
  rfl
theorem ownBlock_lt {w : World} {v : Value} (h : TyB w v) {k : Nat} (hk : v.ownBlock = some k) : k < w.heap.size := by
  rcases h with rfl | ⟨g, n, cap, cur, rfl, hc, -⟩
  · cases hk
  · injection hk with hk
    subst hk
    exact hc.lt
theorem infoRdr : (Tryd.prog.info? 62).map (·.size) = some 1 := by kernel_rfl
/-- a reader, in cell o of block L -/
structure RdrAt (w : World) (F : Nat → Prop) (L o : Nat) (cur : Array Value) (l : List UInt8) : Prop where
  blk : Cs w L 64 cur
  cell : ∃ v, cur[o]? = some v ∧ BsV w F v l
  off : ¬ F L
  len : l.length ≤ 1000000
/-- it took n bytes at most: l is what it tells, r what is left -/
def Took (w : World) (F : Nat → Prop) (L o : Nat) (cur : Array Value) (l : List UInt8) (n : Nat) (w' : World) : Prop := ∃ u, u.oneCell' = true ∧ RdrAt w' F L o (cur.setIfInBounds o u) (l.drop n) ∧ Turn w w' (· = L)
theorem drop_min (l : List UInt8) (n : Nat) : l.drop (min n l.length) = l.drop n := by
  by_cases h : n ≤ l.length
  · rw [Nat.min_eq_left h]
  · rw [Nat.min_eq_right (by omega), List.drop_length, List.drop_of_length_le (by omega)]
theorem take_min (l : List UInt8) (n : Nat) : l.take (min n l.length) = l.take n := by
  by_cases h : n ≤ l.length
  · rw [Nat.min_eq_left h]
  · rw [Nat.min_eq_right (by omega), List.take_length, List.take_of_length_le (by omega)]
set_option maxHeartbeats 4000000 in
theorem piece_v (L o n : Nat) (cur : Array Value) (l : List UInt8) (F : Nat → Prop) (w : World) (h : RdrAt w F L o cur l) (hn : n ≤ 9223372036854775807) :
    Calls Tryd.prog 93 #[.pointer (some ⟨L, o, none⟩), .int .i64 (n : Int)] w fun e w' => ∃ v, e = .returned v ∧ NewV w' (w.heap.size ≤ ·) v (l.take n) ∧ Took w F L o cur l n w' := by
  obtain ⟨hb, ⟨v0, hc, hv⟩, hF, hlen⟩ := h
  obtain ⟨A, c, rfl, hlc, hcm, hnil⟩ : ∃ A c, v0 = .slice A l.length c ∧ l.length ≤ c ∧ c ≤ maxLen ∧ (A = none → l = [] ∧ c = 0) := by
    obtain ⟨A, c, e, -, h2, h3, h4⟩ := hv
    exact ⟨A, c, e, h3, h4, h2⟩
  have HB := Lib.hid hb
  have HV := Lib.hid hv
  have HF := Lib.hid hF
  obtain ⟨m, hm⟩ : ∃ m, m = min n l.length := ⟨_, rfl⟩
  have hml : m ≤ l.length := by rw [hm]; exact Nat.min_le_right _ _
  have HML := Lib.hid hml
  have HT := Lib.hid (show l.take m = l.take n by rw [hm]; exact take_min l n)
  have HD := Lib.hid (show l.drop m = l.drop n by rw [hm]; exact drop_min l n)
  have HMX := Lib.hid hlen
  have hmin : min (n : Int) (l.length : Int) = (m : Int) := by rw [hm]; omega
  have HMI := Lib.hid hm
  have q0 : w.cell? ⟨L, o, none⟩ = some (.slice A l.length c) := hb.cell o hc
  have HO := Lib.hid (show o < cur.size from (Array.getElem?_eq_some_iff.1 hc).1)
  have HTV := Lib.hid (hv.upto m hml)
  have HDV := Lib.hid (hv.cut m hml)
  have hs1 := sl_hR A l.length c m (by omega)
  have hs2 := sl_lR A l.length c m hml
  have i1 : (l.length : Int) ≤ 1000000 := by omega
  clear hb hc hv hF hlc hcm hnil hm hml hlen
  have HCL := Lib.hid (show Calls Tryd.prog 81 #[.slice A m c] w fun e w' => BsTy (l.take m) w e w' by
    obtain ⟨A', c', e, h1, h2, -⟩ := HTV.out
    have hl : (l.take m).length = m := by rw [List.length_take]; have := HML.out; omega
    injection e with e1 e2 e3
    subst e1 e3
    have h := Clone_ty (l.take m) A c w (by rw [hl]; have := HML.out; have := HMX.out; omega) h1.rd h2
    rwa [hl] at h)
  go_enter Tryd.func93, Tryd.ntmps93
  go_wp2_with fail
  refine HCL.out.mono ?_
  rintro e w1 ⟨v1, rfl, hbs, hty, hob, hb1⟩
  have NV := Lib.hid (show NewV w1 (w.heap.size ≤ ·) v1 (l.take n) by rw [← HT.out]; exact ⟨hbs, hty, fun k hk => ⟨hob k hk, by obtain ⟨A', c', e, h1, h2, h3⟩ := hbs; exact ownBlock_lt hty hk⟩⟩)
  have B1 := Lib.hid hb1
  have C1 := Lib.hid (HB.out.below hb1 HB.out.lt)
  have q1 : w1.cell? ⟨L, o, none⟩ = some (.slice A l.length c) := (hb1.cell (lt_of_cell q0)).trans q0
  have hs3 := hs2 w1
  clear hbs hty hob hb1 q0 hs1 hs2
  go_wp2_with (first
    | ((with_reducible show wpList _ _ _ _ _ w1); refine wpList_store1 rfl 62 _ _ rfl L o rfl (.slice (cutA A m c) (l.length - m) (c - m)) rfl rfl infoRdr _ _ C1.out HO.out ?_; intro w2 hk2 ht2; go_frame; have C2 := Lib.hid hk2; have T2 := Lib.hid ht2; clear hk2 ht2 q1 hs3)
    | fail)
  go_ret
  refine ⟨v1, rfl, NV.out.turn T2.out fun k hk e => by have := HB.out.lt; subst e; omega, .slice (cutA A m c) (l.length - m) (c - m), rfl, ⟨C2.out, ⟨.slice (cutA A m c) (l.length - m) (c - m), ?_, ?_⟩, HF.out, ?_⟩, (Turn.of_below B1.out _).trans T2.out fun _ _ h => h⟩
  · rw [Array.getElem?_setIfInBounds_self_of_lt HO.out]
  · rw [← HD.out]
    exact (HDV.out.below B1.out).turn T2.out fun k hk e => HF.out (e ▸ hk)
  · rw [List.length_drop]
    have := HMX.out
    omega

theorem RdrAt.below {w w' : World} {F : Nat → Prop} {L o : Nat} {cur : Array Value} {l : List UInt8} (h : RdrAt w F L o cur l) (hb : Below w.heap.size w w') : RdrAt w' F L o cur l := by
  obtain ⟨v, h1, h2⟩ := h.cell
  exact ⟨h.blk.below hb h.blk.lt, ⟨v, h1, h2.below hb⟩, h.off, h.len⟩
theorem Took.later {w w1 w2 : World} {F : Nat → Prop} {L o n : Nat} {cur : Array Value} {l : List UInt8} (h : Took w F L o cur l n w1) (hb : Below w1.heap.size w1 w2) : Took w F L o cur l n w2 := by
  obtain ⟨u, h1, h2, h3⟩ := h
  exact ⟨u, h1, h2.below hb, h3.trans (Turn.of_below hb _) fun _ _ h => h⟩
/-- the number that stands next; 0, if it is not there as a whole -/
def numD (l : List UInt8) (k : Nat) : Nat := if l.length < k then 0 else (beSum (seg (l.take k) 0 k)).toNat
theorem numD_lt (l : List UInt8) (k : Nat) : numD l k < 256 ^ k := by
  unfold numD
  split
  · exact Nat.pow_pos (by decide)
  · have := (beSum_bd (l.take k) 0 k)
    have h2 : ((256 ^ k : Nat) : Int) = (256 : Int) ^ k := by simp
    omega
theorem getV_take (l : List UInt8) (k : Nat) (hk : sizeB (k : Int) = true) : ∃ e : Int, getV (l.take k) 0 (k : Int) = .tuple #[.int .u64 (numD l k : Int), .int .i64 e] := by
  have h0 : placeB (l.take k).length 0 = true := by simp [placeB]
  unfold getV numD
  rw [hk, h0]
  simp only [Bool.true_eq_false, or_self, if_false]
  by_cases h : l.length < k
  · refine ⟨4, ?_⟩
    rw [if_pos (by rw [List.length_take]; omega), if_pos h]
    rfl
  · refine ⟨0, ?_⟩
    rw [if_neg (by rw [List.length_take]; omega), if_neg h]
    have := (beSum_bd (l.take k) 0 k).1
    simp only [Int.toNat_natCast, Int.toNat_zero]
    rw [Int.toNat_of_nonneg this]
set_option maxHeartbeats 2000000 in
theorem number_r (L o k : Nat) (cur : Array Value) (l : List UInt8) (F : Nat → Prop) (w : World) (h : RdrAt w F L o cur l) (hk : sizeB (k : Int) = true) :
    Calls Tryd.prog 76 #[.pointer (some ⟨L, o, none⟩), .int .i64 (k : Int)] w fun e w' => e = .returned (.int .u64 (numD l k : Int)) ∧ Took w F L o cur l k w' := by
  have HK := Lib.hid (size_bd hk)
  have HP := Lib.hid (piece_v L o k cur l F w h (by have := size_bd hk; omega))
  obtain ⟨e0, he0⟩ := getV_take l k hk
  obtain ⟨p, hp⟩ : ∃ p, p = l.take k := ⟨_, rfl⟩
  rw [← hp] at he0 HP
  have HE := Lib.hid he0
  clear h hk he0 hp
  go_enter Tryd.func76, Tryd.ntmps76
  go_wp2_with fail
  refine HP.out.mono ?_
  rintro e w1 ⟨v1, rfl, hnv, htk⟩
  obtain ⟨A, c, rfl, hrd, hlc, hcm⟩ : ∃ A c, v1 = .slice A p.length c ∧ Rd w1 A p ∧ p.length ≤ c ∧ c ≤ maxLen := by
    obtain ⟨A, c, e, h1, h2, h3, h4⟩ := hnv.1
    exact ⟨A, c, e, h1.rd, h3, h4⟩
  have HG := Lib.hid (Get_any p A c 0 (k : Int) w1 (by omega) hlc hrd)
  have TK := Lib.hid htk
  clear hnv htk hrd hlc hcm HP
  go_wp2_with fail
  refine HG.out.mono ?_
  rintro e w2 ⟨rfl, hb⟩
  have TK2 := Lib.hid (TK.out.later hb)
  rw [HE.out]
  clear hb
  go_wp2_with fail
  go_ret
  exact ⟨rfl, TK2.out⟩
theorem number32_r (L o : Nat) (cur : Array Value) (l : List UInt8) (F : Nat → Prop) (w : World) (h : RdrAt w F L o cur l) :
    Calls Tryd.prog 75 #[.pointer (some ⟨L, o, none⟩)] w fun e w' => e = .returned (.int .u32 (numD l 4 : Int)) ∧ Took w F L o cur l 4 w' := by
  have HP := Lib.hid (number_r L o 4 cur l F w h rfl)
  have hlt := numD_lt l 4
  have jw : IntKind.u32.wrap (numD l 4 : Int) = numD l 4 := IntWalk.u32_in _ (by omega)
  clear h hlt
  go_enter Tryd.func75, Tryd.ntmps75
  go_wp2_with fail
  refine HP.out.mono ?_
  rintro e w1 ⟨rfl, htk⟩
  have TK := Lib.hid htk
  clear htk
  go_wp2_with fail
  go_ret
  exact ⟨by first | rfl | simp, TK.out⟩
theorem all_r (L o : Nat) (cur : Array Value) (l : List UInt8) (F : Nat → Prop) (w : World) (h : RdrAt w F L o cur l) :
    Calls Tryd.prog 78 #[.pointer (some ⟨L, o, none⟩)] w fun e w' => ∃ v, e = .returned v ∧ NewV w' (w.heap.size ≤ ·) v l ∧ Took w F L o cur l l.length w' := by
  have HP := Lib.hid (piece_v L o l.length cur l F w h (by have := h.len; omega))
  obtain ⟨v0, hc, hv⟩ := h.cell
  have i1 : (l.length : Int) ≤ 1000000 := by have := h.len; omega
  obtain ⟨A, c, rfl, -⟩ : ∃ A c, v0 = .slice A l.length c ∧ True := by
    obtain ⟨A, c, e, -⟩ := hv
    exact ⟨A, c, e, trivial⟩
  have q0 : w.cell? ⟨L, o, none⟩ = some (.slice A l.length c) := h.blk.cell o hc
  clear h hc hv
  go_enter Tryd.func78, Tryd.ntmps78
  go_wp2_with fail
  refine HP.out.mono ?_
  rintro e w1 ⟨v1, rfl, hnv, htk⟩
  have NV := Lib.hid hnv
  rw [List.take_length] at NV
  have TK := Lib.hid htk
  clear hnv htk q0
  go_wp2_with fail
  go_ret
  exact ⟨v1, rfl, NV.out, TK.out⟩

end Go.Proofs.YtdhlejhflkfoaaaDoor
