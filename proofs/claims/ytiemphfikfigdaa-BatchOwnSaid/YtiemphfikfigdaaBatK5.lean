/- batch: what the reader's change reads, in plain words: no walk. -/
import Derived.Test.YtiemphfikfigdaaBatK4
import Derived.Test.YtiemphfikfigdaaTblK
namespace Go.Proofs.Ytiemphfikfigdaa
open Go.RowKit Go.Shelf
set_option linter.unusedVariables false
set_option maxRecDepth 100000
set_option linter.unusedSimpArgs false

def nB (l : List UInt8) (a k : Nat) : Nat := (beSum (seg l a k)).toNat
theorem nB_is (l : List UInt8) (a k : Nat) : beSum (seg l a k) = (nB l a k : Int) := by
  have := (beSum_bd l a k).1
  unfold nB
  omega
theorem nB_lt (l : List UInt8) (a k : Nat) (hk : k ≤ 2) : nB l a k ≤ 65535 := by
  have h := beSum_bd l a k
  have h1 : (256 : Nat) ^ k ≤ 256 ^ 2 := Nat.pow_le_pow_right (by decide) hk
  have hc : ((256 ^ k : Nat) : Int) = 256 ^ k := Int.natCast_pow 256 k
  have h2 : (256 : Nat) ^ 2 = 65536 := by decide
  unfold nB
  omega
theorem nB_1 (l : List UInt8) (a : Nat) : nB l a 1 = (l.getD a 0).toNat := by
  simp [nB, seg, List.range_succ, beSum, byteAt]
theorem nB_2 (l : List UInt8) (a : Nat) : nB l a 2 = 256 * (l.getD a 0).toNat + (l.getD (a + 1) 0).toNat := by
  simp [nB, seg, List.range_succ, beSum, byteAt]
  omega
/-- a number, a piece, and where the reader stands behind it -/
def numF (l : List UInt8) (a k : Nat) (sh : Bool) : Nat × Nat × Bool := if a + k ≤ l.length then (nB l a k, a + k, sh) else (0, a, true)
def pieceF (l : List UInt8) (a n : Nat) (sh : Bool) : List UInt8 × Nat × Bool := if a + n ≤ l.length then ((l.drop a).take n, a + n, sh) else ([], a, true)
theorem numF_le {l : List UInt8} {a k : Nat} {sh : Bool} (h : a ≤ l.length) : (numF l a k sh).2.1 ≤ l.length := by
  unfold numF
  split <;> simp <;> omega
theorem pieceF_le {l : List UInt8} {a k : Nat} {sh : Bool} (h : a ≤ l.length) : (pieceF l a k sh).2.1 ≤ l.length := by
  unfold pieceF
  split <;> simp <;> omega
theorem numF_lt {l : List UInt8} {a k : Nat} {sh : Bool} (hk : k ≤ 2) : (numF l a k sh).1 ≤ 65535 := by
  unfold numF
  split
  · exact nB_lt l a k hk
  · simp
theorem pieceF_len {l : List UInt8} {a n : Nat} {sh : Bool} : (pieceF l a n sh).1.length ≤ n := by
  unfold pieceF
  split
  · simp only [List.length_take]; omega
  · simp
def chgF (last : Key) (l : List UInt8) (a : Nat) : Except Int (Ch × Nat) :=
  let s := numF l a 1 false
  if last.length < s.1 then .error 5 else
  let m := numF l s.2.1 1 s.2.2
  let t := pieceF l m.2.1 m.1 m.2.2
  let z := numF l t.2.1 2 t.2.2
  let v := pieceF l z.2.1 (z.1 - 1) z.2.2
  if v.2.2 then .error 4 else
  if !fitsK last (last.take s.1 ++ t.1) v.1 || decide (s.1 < sharedP last (last.take s.1 ++ t.1)) then .error 5 else .ok ((last.take s.1 ++ t.1, v.1, decide (z.1 = 0)), v.2.1)
/-- short once, short for good -/
theorem numF_sh {l : List UInt8} {a k : Nat} : (numF l a k true).2.2 = true := by
  unfold numF
  split <;> rfl
theorem pieceF_sh {l : List UInt8} {a k : Nat} : (pieceF l a k true).2.2 = true := by
  unfold pieceF
  split <;> rfl
theorem drop_cons {l : List UInt8} {a : Nat} (h : a < l.length) : l.drop a = l.getD a 0 :: l.drop (a + 1) := by
  rw [List.drop_eq_getElem_cons h]
  simp [h]
theorem chgF_next (last : Key) (l : List UInt8) (a : Nat) (ha : a < l.length) : nextP last (l.drop a) = match chgF last l a with
    | .error e => .error e
    | .ok (c, a') => .ok (c, l.drop a') := by
  have e1 : numF l a 1 false = ((l.getD a 0).toNat, a + 1, false) := by
    unfold numF
    rw [if_pos (by omega), nB_1]
  rw [drop_cons ha]
  unfold chgF
  rw [e1]
  dsimp only
  by_cases hs : last.length < (l.getD a 0).toNat
  · rw [if_pos hs]
    exact next_e1 hs
  · rw [if_neg hs]
    by_cases h2 : a + 1 < l.length
    · have e2 : numF l (a + 1) 1 false = ((l.getD (a + 1) 0).toNat, a + 1 + 1, false) := by
        unfold numF
        rw [if_pos (by omega), nB_1]
      rw [drop_cons h2, e2]
      dsimp only
      by_cases h3 : a + 1 + 1 + (l.getD (a + 1) 0).toNat ≤ l.length
      · have e3 : pieceF l (a + 1 + 1) (l.getD (a + 1) 0).toNat false = ((l.drop (a + 1 + 1)).take (l.getD (a + 1) 0).toNat, a + 1 + 1 + (l.getD (a + 1) 0).toNat, false) := by
          unfold pieceF
          rw [if_pos h3]
        have h3' : ¬ (l.drop (a + 1 + 1)).length < (l.getD (a + 1) 0).toNat := by rw [List.length_drop]; omega
        rw [e3]
        dsimp only
        generalize hp : a + 1 + 1 + (l.getD (a + 1) 0).toNat = p at *
        have hdd : (l.drop (a + 1 + 1)).drop (l.getD (a + 1) 0).toNat = l.drop p := by rw [List.drop_drop, hp]
        by_cases h4 : p + 2 ≤ l.length
        · have e4 : numF l p 2 false = (256 * (l.getD p 0).toNat + (l.getD (p + 1) 0).toNat, p + 2, false) := by
            unfold numF
            rw [if_pos h4, nB_2]
          rw [e4]
          dsimp only
          have hxy : (l.drop (a + 1 + 1)).drop (l.getD (a + 1) 0).toNat = l.getD p 0 :: l.getD (p + 1) 0 :: l.drop (p + 2) := by
            rw [hdd, drop_cons (by omega), drop_cons (by omega)]
          rw [next_rest hs h3' hxy]
          generalize 256 * (l.getD p 0).toNat + (l.getD (p + 1) 0).toNat = z at *
          by_cases h5 : p + 2 + (z - 1) ≤ l.length
          · have e5 : pieceF l (p + 2) (z - 1) false = ((l.drop (p + 2)).take (z - 1), p + 2 + (z - 1), false) := by
              unfold pieceF
              rw [if_pos h5]
            rw [e5, if_neg (by rw [List.length_drop]; omega)]
            dsimp only
            simp only [Bool.false_eq_true, if_false]
            split
            · rfl
            · simp only [List.drop_drop]
          · have e5 : pieceF l (p + 2) (z - 1) false = ([], p + 2, true) := by
              unfold pieceF
              rw [if_neg h5]
            rw [e5, if_pos (by rw [List.length_drop]; omega)]
            rfl
        · have e4 : numF l p 2 false = (0, p, true) := by
            unfold numF
            rw [if_neg h4]
          rw [e4]
          dsimp only
          rw [pieceF_sh, if_pos rfl]
          exact next_e4 hs h3' (by rw [hdd, List.length_drop]; omega)
      · have e3 : pieceF l (a + 1 + 1) (l.getD (a + 1) 0).toNat false = ([], a + 1 + 1, true) := by
          unfold pieceF
          rw [if_neg h3]
        rw [e3]
        dsimp only
        rw [numF_sh, pieceF_sh, if_pos rfl]
        exact next_e3 hs (by rw [List.length_drop]; omega)
    · have e2 : numF l (a + 1) 1 false = (0, a + 1, true) := by
        unfold numF
        rw [if_neg (by omega)]
      rw [e2]
      dsimp only
      rw [pieceF_sh, numF_sh, pieceF_sh, if_pos rfl, List.drop_of_length_le (by omega)]
      exact next_e2 hs
/-- one change alone, behind another key -/
theorem may_single {last k v : List UInt8} {z : Bool} (hz : z = true → v = []) : fitsK last k v = (mayCP [(k, v, z)] && lessK last k) := by
  have e : mayCP [(k, v, z)] = fitsK [] k v := by
    simp only [mayCP, mayCFrom, okC, Bool.and_true]
    cases z
    · simp
    · rw [hz rfl]; simp
  rw [e, fits_rise, fits_rise, lessK_nil]
  cases h : lessK last k
  · simp
  · have := lessK_nonempty h
    simp [this]
theorem size0 {l : List UInt8} {a : Nat} {n : Nat} {sh : Bool} (h : decide (n = 0) = true) : (pieceF l a (n - 1) sh).1 = [] := by
  have : n = 0 := by simpa using h
  subst this
  unfold pieceF
  split <;> simp
/-- the contracts in these words -/
theorem RStep.next {A : Option Addr} {n c g a b : Nat} {s r : Bool} {w w1 w2 : World} (h : RStep A n c g w w1 a s) (k : RStep A n c g w1 w2 b r) : RStep A n c g w w2 b r := ⟨h.turn.trans k.turn fun _ _ h => h, k.at'⟩
theorem RStep.kept {A : Option Addr} {n c g a : Nat} {s : Bool} {w w1 w2 : World} (h : RStep A n c g w w1 a s) (k : Below w1.heap.size w1 w2) : RStep A n c g w w2 a s := ⟨h.turn.trans (Turn.of_below k fun _ => False) (fun _ _ h => h.elim), h.at'.below k h.at'.lt⟩
theorem bnumF_any (l : List UInt8) (b off c a k : Nat) (sh : Bool) (g : Nat) (w : World) (hl : l.length ≤ 1000000000) (hlc : l.length ≤ c) (hs : sizeB k = true) (hk2 : k ≤ 2) (ha : a ≤ l.length) (hr : Rd w (some ⟨b, off, none⟩) l) (hc : Cs w g 61 (rdrC (some ⟨b, off, none⟩) l.length c a sh).toArray) :
    Calls Try.prog 56 #[.pointer (some ⟨g, 0, none⟩), .int .i64 (k : Int)] w fun e w' => e = .returned (.int .i64 ((numF l a k sh).1 : Int)) ∧ RStep (some ⟨b, off, none⟩) l.length c g w w' (numF l a k sh).2.1 (numF l a k sh).2.2 :=
  (bnumber_any l b off c a k sh g w hl hlc hs (by omega) hk2 ha hr hc).mono fun e w' h => by
    unfold NumBRet at h
    unfold numF
    split
    · rename_i h1
      rw [if_pos h1] at h
      rw [nB_is] at h
      exact h
    · rename_i h1
      rw [if_neg h1] at h
      exact h
theorem pieceF_any (l : List UInt8) (b off c a n : Nat) (sh : Bool) (g : Nat) (w : World) (hl : l.length ≤ 1000000000) (hn : n ≤ 1000000) (hlc : l.length ≤ c) (hcm : c ≤ maxLen) (ha : a ≤ l.length) (hr : Rd w (some ⟨b, off, none⟩) l) (hc : Cs w g 61 (rdrC (some ⟨b, off, none⟩) l.length c a sh).toArray) :
    Calls Try.prog 57 #[.pointer (some ⟨g, 0, none⟩), .int .i64 (n : Int)] w fun e w' => (∃ v, e = .returned v ∧ BsV w' (w.heap.size ≤ ·) v (pieceF l a n sh).1) ∧ RStep (some ⟨b, off, none⟩) l.length c g w w' (pieceF l a n sh).2.1 (pieceF l a n sh).2.2 :=
  (piece_any l b off c a n sh g w hl hn hlc hcm ha hr hc).mono fun e w' h => by
    unfold PieceRet at h
    unfold pieceF
    split
    · rename_i h1
      rw [if_pos h1] at h
      exact h
    · rename_i h1
      rw [if_neg h1] at h
      exact ⟨⟨_, h.1, BsV.nil _ _⟩, h.2⟩

end Go.Proofs.Ytiemphfikfigdaa
