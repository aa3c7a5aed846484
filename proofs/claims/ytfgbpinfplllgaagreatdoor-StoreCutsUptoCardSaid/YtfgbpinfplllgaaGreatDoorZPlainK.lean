/- SWEPT -/
import Derived.Test.YtfgbpinfplllgaaGreatDoorZNumK
import Derived.Test.YtfgbpinfplllgaaGreatDoorZWordsK
set_option linter.unusedVariables false
set_option linter.unusedSimpArgs false
namespace Go.Proofs.YtfgbpinfplllgaaGreatDoor
set_option maxRecDepth 100000
def mk (n : Nat) (f : Nat → UInt8) : List UInt8 := (List.range n).map f
theorem mk_len (n : Nat) (f : Nat → UInt8) : (mk n f).length = n := by simp [mk]
theorem list_mk (l : List UInt8) : l = mk l.length (fun i => l.getD i 0) := by
  refine List.ext_getElem (by rw [mk_len]) fun i h1 h2 => ?_
  simp [mk, List.getElem?_eq_getElem h1]
theorem ex_mk {n : Nat} {l : List UInt8} (h : l.length = n) : ∃ f, l = mk n f := ⟨fun i => l.getD i 0, by subst h; exact list_mk l⟩
theorem mk_congr {n : Nat} {f g : Nat → UInt8} (h : ∀ i, i < n → f i = g i) : mk n f = mk n g := List.map_congr_left fun i hi => h i (by simpa using hi)
def layAt (b : List UInt8) (o : Nat) (l : List UInt8) : List UInt8 := b.take o ++ l ++ b.drop (o + l.length)
theorem layAt_len (b : List UInt8) (o : Nat) (l : List UInt8) (h : o + l.length ≤ b.length) : (layAt b o l).length = b.length := by simp [layAt]; omega
def num4 (l : List UInt8) : Int := beSum (seg l 0 4)
theorem num4_bd (l : List UInt8) : 0 ≤ num4 l ∧ num4 l < 4294967296 := by
  have := beSum_bd l 0 4
  unfold num4
  omega
def cutOf (x : Blk) (q : Nat) : List UInt8 := (x.drop (16 * q + 4)).take 12
def tag (x : Blk) (q : Nat) : Int := num4 ((x.drop (16 * q)).take 4)
theorem tag_bd (x : Blk) (q : Nat) : 0 ≤ tag x q ∧ tag x q < 4294967296 := num4_bd _
def inner (x : Blk) : List UInt8 := cutOf x 0 ++ cutOf x 1 ++ cutOf x 2 ++ cutOf x 3
theorem inner_len (x : Blk) (h : x.length = 64) : (inner x).length = 48 := by simp [inner, cutOf, h]
def sumN (n : Int) (b : List UInt8) : Nat := moreN (ofN (beL n 4)) b
theorem sumN_lt (n : Int) (b : List UInt8) : sumN n b < 4294967296 := moreN_lt _ _ (moreN_lt _ _ (by decide))
def greatest (x : Blk) : Int := max (max (max (tag x 0) (tag x 1)) (tag x 2)) (tag x 3)
theorem greatest_bd (x : Blk) : 0 ≤ greatest x ∧ greatest x < 4294967296 := by
  have h0 := tag_bd x 0
  have h1 := tag_bd x 1
  have h2 := tag_bd x 2
  have h3 := tag_bd x 3
  unfold greatest
  omega
def isOfB (x : Blk) (n : Int) : Bool := (tag x 0 == n) && (tag x 1 == n) && (tag x 2 == n) && (tag x 3 == n)
def formed (x : Blk) : Bool := !(tag x 0 == 0) && isOfB x (tag x 0)
theorem greatest_is (x : Blk) : (tag x 0 ≤ greatest x ∧ tag x 1 ≤ greatest x ∧ tag x 2 ≤ greatest x ∧ tag x 3 ≤ greatest x) ∧ (greatest x = tag x 0 ∨ greatest x = tag x 1 ∨ greatest x = tag x 2 ∨ greatest x = tag x 3) := by
  unfold greatest
  rw [Int.max_def, Int.max_def, Int.max_def]
  repeat' split
  all_goals omega
theorem formed_greatest (x : Blk) : formed x = (!(greatest x == 0) && isOfB x (greatest x)) := by
  have h0 := tag_bd x 0
  have h1 := tag_bd x 1
  have h2 := tag_bd x 2
  have h3 := tag_bd x 3
  rw [Bool.eq_iff_iff]
  simp only [formed, isOfB, Bool.and_eq_true, Bool.not_eq_true', beq_eq_false_iff_ne, beq_iff_eq]
  have h4 := greatest_is x
  constructor
  · rintro ⟨a0, ⟨⟨-, a1⟩, a2⟩, a3⟩
    have e : greatest x = tag x 0 := by omega
    rw [e]
    exact ⟨a0, ⟨⟨rfl, a1⟩, a2⟩, a3⟩
  · rintro ⟨a0, ⟨⟨b0, a1⟩, a2⟩, a3⟩
    rw [← b0] at a0 a1 a2 a3
    exact ⟨a0, ⟨⟨trivial, a1⟩, a2⟩, a3⟩
theorem formed_of {x : Blk} (h : formed x = true) : greatest x = tag x 0 ∧ tag x 0 ≠ 0 ∧ tag x 1 = tag x 0 ∧ tag x 2 = tag x 0 ∧ tag x 3 = tag x 0 := by
  simp only [formed, isOfB, Bool.and_eq_true, Bool.not_eq_true', beq_eq_false_iff_ne, beq_iff_eq] at h
  have h0 := tag_bd x 0
  have h4 := greatest_is x
  omega
def bodyOf (x : Blk) : List UInt8 := (inner x).take 44
theorem bodyOf_len (x : Blk) (h : x.length = 64) : (bodyOf x).length = 44 := by simp [bodyOf, inner_len x h]
def lastOf (x : Blk) : Int := num4 ((inner x).drop 44)
def getE (x : Blk) : Int := if formed x then (if lastOf x = (sumN (tag x 0) (bodyOf x) : Int) then 0 else 6) else 5
def fullOf (b : List UInt8) : List UInt8 := b ++ List.replicate (44 - b.length) 0
theorem fullOf_len (b : List UInt8) (h : b.length ≤ 44) : (fullOf b).length = 44 := by simp [fullOf]; omega
def allOf (n : Int) (b : List UInt8) : List UInt8 := fullOf b ++ beL (sumN n (fullOf b)) 4
theorem allOf_len (n : Int) (b : List UInt8) (h : b.length ≤ 44) : (allOf n b).length = 48 := by simp [allOf, fullOf_len b h, beL_length]
def putTo (h all : List UInt8) : Nat → Blk
  | 0 => zb
  | q + 1 => layAt (layAt (putTo h all q) (16 * q) h) (16 * q + 4) ((all.drop (12 * q)).take 12)
theorem putTo_succ (h all : List UInt8) (q : Nat) : putTo h all (q + 1) = layAt (layAt (putTo h all q) (16 * q) h) (16 * q + 4) ((all.drop (12 * q)).take 12) := rfl
theorem putTo_len (h all : List UInt8) (hh : h.length = 4) (ha : all.length = 48) : ∀ q, q ≤ 4 → (putTo h all q).length = 64
  | 0, _ => zb_len
  | q + 1, hq => by
    have ih := putTo_len h all hh ha q (by omega)
    have h1 : (layAt (putTo h all q) (16 * q) h).length = 64 := by rw [layAt_len _ _ _ (by rw [hh, ih]; omega), ih]
    rw [putTo_succ, layAt_len _ _ _ (by simp [h1, ha]; omega), h1]
def putN (n : Int) (b : List UInt8) : Blk := putTo (beL n 4) (allOf n b) 4
def putE (n : Int) (b : List UInt8) : Int := if 44 < b.length then 3 else if n = 0 then 2 else 0
def putB (n : Int) (b : List UInt8) : Blk := if putE n b = 0 then putN n b else zb
theorem putN_len (n : Int) (b : List UInt8) (h : b.length ≤ 44) : (putN n b).length = 64 := putTo_len _ _ (beL_length _ _) (allOf_len _ _ h) 4 (by decide)
def laidAt (h a : Nat → UInt8) (i : Nat) : UInt8 := if i % 16 < 4 then h (i % 16) else a (i / 16 * 12 + i % 16 - 4)
theorem putTo_mk (h a : Nat → UInt8) : putTo (mk 4 h) (mk 48 a) 4 = mk 64 (laidAt h a) := by kernel_rfl
theorem inner_mk (x : Nat → UInt8) : inner (mk 64 x) = mk 48 fun j => x (j / 12 * 16 + j % 12 + 4) := by rfl
theorem head_mk (x : Nat → UInt8) (q : Nat) (hq : q < 4) : ((mk 64 x).drop (16 * q)).take 4 = mk 4 fun j => x (16 * q + j) := by
  rcases (show q = 0 ∨ q = 1 ∨ q = 2 ∨ q = 3 by omega) with rfl | rfl | rfl | rfl <;> rfl
end Go.Proofs.YtfgbpinfplllgaaGreatDoor
namespace Go.Proofs.YtfgbpinfplllgaaGreatDoor
set_option maxRecDepth 100000
theorem num4_mk (f : Nat → UInt8) : num4 (mk 4 f) = 16777216 * ((f 0).toNat : Int) + 65536 * ((f 1).toNat : Int) + 256 * ((f 2).toNat : Int) + ((f 3).toNat : Int) := by
  have e : seg (mk 4 f) 0 4 = [((f 0).toNat : Int), ((f 1).toNat : Int), ((f 2).toNat : Int), ((f 3).toNat : Int)] := rfl
  unfold num4
  rw [e]
  simp only [beSum, List.length_cons, List.length_nil]
  omega
theorem num4_be (n : Int) (h0 : 0 ≤ n) (h1 : n < 4294967296) : num4 (beL n 4) = n := by
  have e : beL n 4 = mk 4 fun j => UInt8.ofNat (n / 256 ^ (4 - 1 - j) % 256).toNat := rfl
  rw [e, num4_mk]
  have t : ∀ v : Int, 0 ≤ v → v < 256 → ((UInt8.ofNat v.toNat).toNat : Int) = v := fun v a b => by
    rw [UInt8.toNat_ofNat']
    omega
  rw [t _ (by omega) (by omega), t _ (by omega) (by omega), t _ (by omega) (by omega), t _ (by omega) (by omega)]
  omega
theorem tag_mk (x : Nat → UInt8) (q : Nat) (hq : q < 4) : tag (mk 64 x) q = num4 (mk 4 fun j => x (16 * q + j)) := by
  unfold tag
  rw [head_mk x q hq]
theorem body_mk (x : Nat → UInt8) : bodyOf (mk 64 x) = mk 44 fun j => x (j / 12 * 16 + j % 12 + 4) := by
  unfold bodyOf
  rw [inner_mk]
  rfl
theorem last_mk (x : Nat → UInt8) : lastOf (mk 64 x) = num4 (mk 4 fun j => x ((44 + j) / 12 * 16 + (44 + j) % 12 + 4)) := by
  unfold lastOf
  rw [inner_mk]
  rfl
theorem laid_head (h a : Nat → UInt8) (q j : Nat) (hj : j < 4) : laidAt h a (16 * q + j) = h j := by
  unfold laidAt
  rw [if_pos (by omega), show (16 * q + j) % 16 = j by omega]
theorem laid_in (h a : Nat → UInt8) (j : Nat) : laidAt h a (j / 12 * 16 + j % 12 + 4) = a j := by
  unfold laidAt
  rw [if_neg (by omega), show (j / 12 * 16 + j % 12 + 4) / 16 * 12 + (j / 12 * 16 + j % 12 + 4) % 16 - 4 = j by omega]
structure PutIs (n : Int) (b : List UInt8) (h a : Nat → UInt8) : Prop where
  blk : putN n b = mk 64 (laidAt h a)
  num : num4 (mk 4 h) = n
  body : mk 44 a = fullOf b
  last : num4 (mk 4 fun j => a (44 + j)) = (sumN n (fullOf b) : Int)
theorem putIs (n : Int) (b : List UInt8) (h0 : 0 ≤ n) (h1 : n < 4294967296) (hb : b.length ≤ 44) : ∃ h a, PutIs n b h a := by
  obtain ⟨h, hh⟩ := ex_mk (beL_length n 4)
  obtain ⟨a, ha⟩ := ex_mk (allOf_len n b hb)
  have hsn := sumN_lt n (fullOf b)
  have e1 : (allOf n b).take 44 = fullOf b := by unfold allOf; rw [List.take_append_of_le_length (by rw [fullOf_len b hb]; exact Nat.le_refl _), List.take_of_length_le (by rw [fullOf_len b hb]; exact Nat.le_refl _)]
  have e2 : (allOf n b).drop 44 = beL (sumN n (fullOf b)) 4 := by
    unfold allOf
    have := List.drop_left (l₁ := fullOf b) (l₂ := beL (sumN n (fullOf b)) 4)
    rwa [fullOf_len b hb] at this
  refine ⟨h, a, ?_, ?_, ?_, ?_⟩
  · unfold putN
    rw [hh, ha, putTo_mk]
  · rw [← hh]
    exact num4_be n h0 h1
  · rw [← e1, ha]
    rfl
  · have e3 : (mk 4 fun j => a (44 + j)) = (mk 48 a).drop 44 := rfl
    rw [e3, ← ha, e2]
    exact num4_be _ (by omega) (by omega)
theorem put_tag {n : Int} {b : List UInt8} {h a : Nat → UInt8} (p : PutIs n b h a) (q : Nat) (hq : q < 4) : tag (putN n b) q = n := by
  rw [p.blk, tag_mk _ q hq, mk_congr (fun j hj => laid_head h a q j hj)]
  exact p.num
theorem put_body {n : Int} {b : List UInt8} {h a : Nat → UInt8} (p : PutIs n b h a) : bodyOf (putN n b) = fullOf b := by
  rw [p.blk, body_mk, mk_congr (fun j _ => laid_in h a j)]
  exact p.body
theorem put_last {n : Int} {b : List UInt8} {h a : Nat → UInt8} (p : PutIs n b h a) : lastOf (putN n b) = (sumN n (fullOf b) : Int) := by
  rw [p.blk, last_mk, mk_congr (fun j _ => laid_in h a (44 + j))]
  exact p.last
theorem formed_tags {x : Blk} {n : Int} (hn : n ≠ 0) (h : ∀ q, q < 4 → tag x q = n) : formed x = true := by
  simp [formed, isOfB, h 0 (by decide), h 1 (by decide), h 2 (by decide), h 3 (by decide), hn]
theorem greatest_tags {x : Blk} {n : Int} (h : ∀ q, q < 4 → tag x q = n) : greatest x = n := by
  have := greatest_is x
  rw [h 0 (by decide), h 1 (by decide), h 2 (by decide), h 3 (by decide)] at this
  omega
theorem put_get (n : Int) (b : List UInt8) (h0 : 0 < n) (h1 : n < 4294967296) (hb : b.length ≤ 44) : getE (putN n b) = 0 ∧ tag (putN n b) 0 = n ∧ bodyOf (putN n b) = fullOf b ∧ greatest (putN n b) = n := by
  obtain ⟨h, a, p⟩ := putIs n b (by omega) h1 hb
  have ht := fun q hq => put_tag p q hq
  refine ⟨?_, ht 0 (by decide), put_body p, greatest_tags ht⟩
  unfold getE
  rw [if_pos (formed_tags (by omega) ht), ht 0 (by decide), put_body p, put_last p, if_pos rfl]
end Go.Proofs.YtfgbpinfplllgaaGreatDoor
namespace Go.Proofs.YtfgbpinfplllgaaGreatDoor
set_option maxRecDepth 100000
def sel (b0 b1 b2 b3 : Bool) : Nat → Bool
  | 0 => b0
  | 1 => b1
  | 2 => b2
  | _ => b3
theorem torn_sel (A B : Nat → UInt8) (b0 b1 b2 b3 : Bool) (bs : Int) (h0 : bitAt bs 0 = b0) (h1 : bitAt bs 1 = b1) (h2 : bitAt bs 2 = b2) (h3 : bitAt bs 3 = b3) : torn (mk 64 A) (mk 64 B) bs = mk 64 fun i => if sel b0 b1 b2 b3 (i / 16) = true then B i else A i := by
  unfold torn
  rw [tornTo_succ, tornTo_succ, tornTo_succ, tornTo_succ, tornTo_zero, h0, h1, h2, h3]
  clear h0 h1 h2 h3
  cases b0 <;> cases b1 <;> cases b2 <;> cases b3 <;> kernel_rfl
theorem torn_mk (A B : Nat → UInt8) (bs : Int) : torn (mk 64 A) (mk 64 B) bs = mk 64 fun i => if bitAt bs (i / 16) = true then B i else A i := by
  rw [torn_sel A B _ _ _ _ bs rfl rfl rfl rfl]
  refine mk_congr fun i hi => ?_
  rcases (show i / 16 = 0 ∨ i / 16 = 1 ∨ i / 16 = 2 ∨ i / 16 = 3 by omega) with e | e | e | e <;> rw [e] <;> rfl
theorem tag_torn (x y : Blk) (bs : Int) (hx : x.length = 64) (hy : y.length = 64) (q : Nat) (hq : q < 4) : tag (torn x y bs) q = if bitAt bs q = true then tag y q else tag x q := by
  obtain ⟨A, rfl⟩ := ex_mk hx
  obtain ⟨B, rfl⟩ := ex_mk hy
  rw [torn_mk, tag_mk _ q hq, tag_mk _ q hq, tag_mk _ q hq]
  by_cases h : bitAt bs q = true
  · rw [if_pos h, mk_congr (g := fun j => B (16 * q + j)) (fun j hj => by rw [show (16 * q + j) / 16 = q by omega, if_pos h])]
  · rw [if_neg h, mk_congr (g := fun j => A (16 * q + j)) (fun j hj => by rw [show (16 * q + j) / 16 = q by omega, if_neg h])]
theorem torn_off (x y : Blk) (bs : Int) (hx : x.length = 64) (hy : y.length = 64) (h : ∀ q, q < 4 → bitAt bs q = false) : torn x y bs = x := by
  obtain ⟨A, rfl⟩ := ex_mk hx
  obtain ⟨B, rfl⟩ := ex_mk hy
  rw [torn_mk]
  exact mk_congr fun i hi => by rw [h (i / 16) (by omega), if_neg (by decide)]
theorem torn_on (x y : Blk) (bs : Int) (hx : x.length = 64) (hy : y.length = 64) (h : ∀ q, q < 4 → bitAt bs q = true) : torn x y bs = y := by
  obtain ⟨A, rfl⟩ := ex_mk hx
  obtain ⟨B, rfl⟩ := ex_mk hy
  rw [torn_mk]
  exact mk_congr fun i hi => by rw [if_pos (h (i / 16) (by omega))]
theorem getE_tags {x : Blk} (h : getE x = 0) : tag x 0 ≠ 0 ∧ ∀ q, q < 4 → tag x q = tag x 0 := by
  unfold getE at h
  split at h
  · rename_i hf
    obtain ⟨-, h0, h1, h2, h3⟩ := formed_of hf
    refine ⟨h0, fun q hq => ?_⟩
    rcases (show q = 0 ∨ q = 1 ∨ q = 2 ∨ q = 3 by omega) with rfl | rfl | rfl | rfl
    · rfl
    · exact h1
    · exact h2
    · exact h3
  · cases h
section
variable {x y z : Blk} {n m k : Int} {bs cs : Int} (hx : x.length = 64) (hy : y.length = 64) (hz : z.length = 64) (tx : ∀ q, q < 4 → tag x q = n) (ty : ∀ q, q < 4 → tag y q = m) (tz : ∀ q, q < 4 → tag z q = k)
include hx hy tx ty in
include hx hy hz tx ty tz in
include hx hy tx ty in
end
end Go.Proofs.YtfgbpinfplllgaaGreatDoor
namespace Go.Proofs.YtfgbpinfplllgaaGreatDoor
set_option maxRecDepth 100000
abbrev Lf := Int × Bool × List UInt8
def readB : Int → Bool → List (Option Lf) → Option (List UInt8 × Nat)
  | _, _, [] => none
  | _, _, none :: _ => none
  | n, fst, some (m, last, b) :: r => if m = n ∧ (b ≠ [] ∨ fst = true) then (if last = true then some (b, 1) else (readB (n + 1) false r).map fun p => (b ++ p.1, p.2 + 1)) else none
theorem readB_nil (n : Int) (fst : Bool) : readB n fst [] = none := by rw [readB]
theorem readB_none (n : Int) (fst : Bool) (r : List (Option Lf)) : readB n fst (none :: r) = none := by rw [readB]
theorem readB_some (n m : Int) (fst last : Bool) (b : List UInt8) (r : List (Option Lf)) : readB n fst (some (m, last, b) :: r) = if m = n ∧ (b ≠ [] ∨ fst = true) then (if last = true then some (b, 1) else (readB (n + 1) false r).map fun p => (b ++ p.1, p.2 + 1)) else none := by rw [readB]
def headN : List (Option Lf) → Int
  | some (m, _, _) :: _ => m
  | _ => 0
def counts : Nat → Int → List (Option Lf) → List (List UInt8) × Nat × Int
  | 0, e, _ => ([], 0, e)
  | f + 1, e, ls => if headN ls ≤ e then ([], 0, e) else match readB (headN ls) true ls with
    | none => ([], 0, e)
    | some (b, c) => let p := counts f (headN ls + c - 1) (ls.drop c); (b :: p.1, c + p.2.1, p.2.2)
theorem counts_zero (e : Int) (ls : List (Option Lf)) : counts 0 e ls = ([], 0, e) := rfl
theorem counts_low (f : Nat) (e : Int) (ls : List (Option Lf)) (h : headN ls ≤ e) : counts f e ls = ([], 0, e) := by
  cases f with
  | zero => rfl
  | succ f => rw [counts, if_pos h]
theorem counts_none (f : Nat) (e : Int) (ls : List (Option Lf)) (h : readB (headN ls) true ls = none) : counts f e ls = ([], 0, e) := by
  cases f with
  | zero => rfl
  | succ f =>
    rw [counts]
    split
    · rfl
    · rw [h]
theorem counts_some (f : Nat) (e : Int) (ls : List (Option Lf)) (b : List UInt8) (c : Nat) (h : ¬ headN ls ≤ e) (hr : readB (headN ls) true ls = some (b, c)) :
    counts (f + 1) e ls = (b :: (counts f (headN ls + c - 1) (ls.drop c)).1, c + (counts f (headN ls + c - 1) (ls.drop c)).2.1, (counts f (headN ls + c - 1) (ls.drop c)).2.2) := by
  rw [counts, if_neg h, hr]
theorem readB_prefix : ∀ (ls : List (Option Lf)) (n : Int) (fst : Bool) (b : List UInt8) (c : Nat), readB n fst ls = some (b, c) → 1 ≤ c ∧ c ≤ ls.length ∧ ∀ t, readB n fst (ls.take c ++ t) = some (b, c)
  | [], n, fst, b, c, h => by rw [readB_nil] at h; cases h
  | none :: ls, n, fst, b, c, h => by rw [readB_none] at h; cases h
  | some (m, last, d) :: ls, n, fst, b, c, h => by
    rw [readB_some] at h
    split at h
    · rename_i hc
      split at h
      · rename_i hl
        cases h
        refine ⟨Nat.le_refl _, by simp, fun t => ?_⟩
        rw [List.take_succ_cons, List.cons_append, readB_some, if_pos hc, if_pos hl]
      · rename_i hl
        cases hr : readB (n + 1) false ls with
        | none => rw [hr] at h; cases h
        | some p =>
          obtain ⟨pb, pc⟩ := p
          rw [hr] at h
          simp only [Option.map_some, Option.some.injEq, Prod.mk.injEq] at h
          obtain ⟨rfl, rfl⟩ := h
          obtain ⟨h1, h2, h3⟩ := readB_prefix ls (n + 1) false pb pc hr
          refine ⟨by omega, by simp; omega, fun t => ?_⟩
          rw [List.take_succ_cons, List.cons_append, readB_some, if_pos hc, if_neg hl, h3 t]
          rfl
    · cases h
theorem headN_take (ls t : List (Option Lf)) (c : Nat) (h1 : 1 ≤ c) (h2 : c ≤ ls.length) : headN (ls.take c ++ t) = headN ls := by
  obtain ⟨c, rfl⟩ : ∃ d, c = d + 1 := ⟨c - 1, by omega⟩
  cases ls with
  | nil => simp at h2
  | cons x ls => rw [List.take_succ_cons, List.cons_append]; rcases x with _ | ⟨m, l, b⟩ <;> rfl
theorem counts_prefix : ∀ (f : Nat) (e : Int) (ls : List (Option Lf)), (counts f e ls).2.1 ≤ ls.length ∧ ∀ (g : Nat) (t : List (Option Lf)), counts ((counts f e ls).1.length + g) e (ls.take (counts f e ls).2.1 ++ t) =
      ((counts f e ls).1 ++ (counts g (counts f e ls).2.2 t).1, (counts f e ls).2.1 + (counts g (counts f e ls).2.2 t).2.1, (counts g (counts f e ls).2.2 t).2.2)
  | 0, e, ls => ⟨Nat.zero_le _, fun g t => by simp [counts_zero]⟩
  | f + 1, e, ls => by
    by_cases h : headN ls ≤ e
    · rw [counts_low _ _ _ h]
      exact ⟨Nat.zero_le _, fun g t => by simp⟩
    · cases hr : readB (headN ls) true ls with
      | none =>
        rw [counts_none _ _ _ hr]
        exact ⟨Nat.zero_le _, fun g t => by simp⟩
      | some p =>
        obtain ⟨b, c⟩ := p
        obtain ⟨h1, h2, h3⟩ := readB_prefix ls _ _ _ _ hr
        obtain ⟨i1, i2⟩ := counts_prefix f (headN ls + c - 1) (ls.drop c)
        rw [counts_some f e ls b c h hr]
        generalize counts f (headN ls + c - 1) (ls.drop c) = p at *
        obtain ⟨pl, pc, pe⟩ := p
        simp only at i1 i2 ⊢
        rw [List.length_drop] at i1
        refine ⟨by omega, fun g t => ?_⟩
        have e1 : ls.take (c + pc) ++ t = ls.take c ++ ((ls.drop c).take pc ++ t) := by rw [← List.append_assoc, ← List.take_add]
        have e2 : headN (ls.take (c + pc) ++ t) = headN ls := by rw [e1, headN_take _ _ _ h1 h2]
        have e3 : (ls.take (c + pc) ++ t).drop c = (ls.drop c).take pc ++ t := by rw [e1, List.drop_left' (by rw [List.length_take]; omega)]
        have e4 : readB (headN (ls.take (c + pc) ++ t)) true (ls.take (c + pc) ++ t) = some (b, c) := by rw [e2, e1]; exact h3 _
        have e5 : (b :: pl).length + g = (pl.length + g) + 1 := by simp; omega
        rw [e5, counts_some _ _ _ b c (by rw [e2]; exact h) e4, e2, e3, i2 g t]
        simp [Nat.add_assoc]
def Over : List (Option Lf) → List (Option Lf) → List (Option Lf) → Prop
  | old, [], r => r = old
  | o :: old, x :: new, y :: r => (y = o ∨ y = none ∨ y = x) ∧ Over old new r
  | _, _, _ => False
def newL : Int → List (List UInt8) → List (Option Lf)
  | _, [] => []
  | n, [p] => [some (n, true, p)]
  | n, p :: q :: r => some (n, false, p) :: newL (n + 1) (q :: r)
theorem newL_one (n : Int) (p : List UInt8) : newL n [p] = [some (n, true, p)] := rfl
theorem newL_more (n : Int) (p q : List UInt8) (r : List (List UInt8)) : newL n (p :: q :: r) = some (n, false, p) :: newL (n + 1) (q :: r) := rfl
theorem newL_len : ∀ (n : Int) (ps : List (List UInt8)), (newL n ps).length = ps.length
  | _, [] => rfl
  | _, [_] => rfl
  | n, p :: q :: r => by rw [newL_more, List.length_cons, newL_len (n + 1) (q :: r), List.length_cons (a := p)]
def Small (N : Int) (ls : List (Option Lf)) : Prop := ∀ m l b, some (m, l, b) ∈ ls → m < N
theorem Small.tail {N : Int} {x : Option Lf} {ls : List (Option Lf)} (h : Small N (x :: ls)) : Small N ls := fun m l b hm => h m l b (List.mem_cons_of_mem _ hm)
theorem Small.up {N : Int} {ls : List (Option Lf)} (h : Small N ls) : Small (N + 1) ls := fun m l b hm => by have := h m l b hm; omega
theorem Small.drop {N : Int} {ls : List (Option Lf)} (h : Small N ls) (k : Nat) : Small N (ls.drop k) := fun m l b hm => h m l b (List.mem_of_mem_drop hm)
theorem Small.head {N : Int} {ls : List (Option Lf)} (h : Small N ls) (hN : 0 < N) : headN ls < N := by
  rcases ls with _ | ⟨_ | ⟨m, l, b⟩, ls⟩
  · exact hN
  · exact hN
  · exact h m l b List.mem_cons_self
theorem over_stale : ∀ (ps : List (List UInt8)) (N s : Int) (fst : Bool) (old r : List (Option Lf)), Over old (newL N ps) r → s < N → readB s fst old = none → readB s fst r = none
  | [], N, s, fst, old, r, h, hs, hr => by
    have : r = old := by cases old <;> exact h
    rw [this]
    exact hr
  | p :: ps, N, s, fst, [], r, h, hs, hr => by cases ps <;> exact h.elim
  | p :: ps, N, s, fst, o :: old, [], h, hs, hr => readB_nil _ _
  | p :: ps, N, s, fst, o :: old, y :: r, h, hs, hr => by
    have go : ∀ x new, newL N (p :: ps) = x :: new → (∃ l, x = some (N, l, p)) → (∀ s' f', s' < N + 1 → readB s' f' old = none → readB s' f' r = none) → readB s fst (y :: r) = none := fun x new e hx ih => by
      obtain ⟨l, rfl⟩ := hx
      rw [e] at h
      rcases h.1 with rfl | rfl | rfl
      · rcases y with _ | ⟨m, last, b⟩
        · exact readB_none _ _ _
        · rw [readB_some] at hr ⊢
          split at hr
          · rename_i hc
            rw [if_pos hc]
            split at hr
            · cases hr
            · rename_i hl
              rw [if_neg hl]
              cases hq : readB (s + 1) false old with
              | none => rw [ih (s + 1) false (by omega) hq]; rfl
              | some q => rw [hq] at hr; cases hr
          · rename_i hc
            rw [if_neg hc]
      · exact readB_none _ _ _
      · rw [readB_some, if_neg (by omega)]
    cases ps with
    | nil =>
      refine go _ _ (newL_one N p) ⟨_, rfl⟩ (fun s' f' hs' hr' => ?_)
      rw [newL_one] at h
      have : r = old := by have := h.2; cases old <;> exact this
      rw [this]
      exact hr'
    | cons q ps => exact go _ _ (newL_more N p q ps) ⟨_, rfl⟩ fun s' f' hs' hr' => over_stale (q :: ps) (N + 1) s' f' old r (by rw [newL_more] at h; exact h.2) hs' hr'
theorem over_new : ∀ (ps : List (List UInt8)) (N : Int) (fst : Bool) (old r : List (Option Lf)), Over old (newL N ps) r → Small N old → ps ≠ [] → ((fst = true ∧ ps.length = 1) ∨ ∀ p ∈ ps, p ≠ []) →
    readB N fst r = none ∨ (readB N fst r = some (ps.flatten, ps.length) ∧ r = newL N ps ++ old.drop ps.length)
  | [], N, fst, old, r, h, hs, hp, hf => absurd rfl hp
  | p :: ps, N, fst, [], r, h, hs, hp, hf => by cases ps <;> exact h.elim
  | p :: ps, N, fst, o :: old, [], h, hs, hp, hf => .inl (readB_nil _ _)
  | p :: ps, N, fst, o :: old, y :: r, h, hs, hp, hf => by
    have hb : p ≠ [] ∨ fst = true := by
      rcases hf with ⟨h1, _⟩ | h1
      · exact .inr h1
      · exact .inl (h1 p List.mem_cons_self)
    have oldN : y = o → readB N fst (y :: r) = none := fun e => by
      rcases y with _ | ⟨m, last, b⟩
      · exact readB_none _ _ _
      · have := hs m last b (by rw [← e]; exact List.mem_cons_self)
        rw [readB_some, if_neg (by omega)]
    cases ps with
    | nil =>
      rw [newL_one] at h
      rcases h.1 with e | rfl | rfl
      · exact .inl (oldN e)
      · exact .inl (readB_none _ _ _)
      · have : r = old := by have := h.2; cases old <;> exact this
        refine .inr ⟨?_, by rw [this]; rfl⟩
        rw [readB_some, if_pos ⟨rfl, hb⟩, if_pos rfl]
        simp
    | cons q ps =>
      rw [newL_more] at h
      rcases h.1 with e | rfl | rfl
      · exact .inl (oldN e)
      · exact .inl (readB_none _ _ _)
      · have hq : (false = true ∧ (q :: ps).length = 1) ∨ ∀ p ∈ q :: ps, p ≠ [] := by
          rcases hf with ⟨_, h1⟩ | h1
          · simp at h1
          · exact .inr fun x hx => h1 x (List.mem_cons_of_mem _ hx)
        rcases over_new (q :: ps) (N + 1) false old r h.2 hs.tail.up (by simp) hq with h1 | ⟨h1, h2⟩
        · left
          rw [readB_some, if_pos ⟨rfl, hb⟩, if_neg (by decide), h1]
          rfl
        · right
          refine ⟨?_, ?_⟩
          · rw [readB_some, if_pos ⟨rfl, hb⟩, if_neg (by decide), h1]
            simp
          · rw [newL_more, h2]
            simp
theorem new_read : ∀ (ps : List (List UInt8)) (N : Int) (fst : Bool) (t : List (Option Lf)), ps ≠ [] → ((fst = true ∧ ps.length = 1) ∨ ∀ p ∈ ps, p ≠ []) → readB N fst (newL N ps ++ t) = some (ps.flatten, ps.length)
  | [], N, fst, t, hp, hf => absurd rfl hp
  | [p], N, fst, t, hp, hf => by
    have hb : p ≠ [] ∨ fst = true := hf.elim (fun h => .inr h.1) (fun h => .inl (h p List.mem_cons_self))
    have e : [p].flatten = p := by simp
    rw [newL_one, List.singleton_append, readB_some, if_pos ⟨rfl, hb⟩, if_pos rfl, e]
    rfl
  | p :: q :: ps, N, fst, t, hp, hf => by
    have h1 : ∀ x ∈ p :: q :: ps, x ≠ [] := by
      rcases hf with ⟨_, h1⟩ | h1
      · simp at h1
      · exact h1
    rw [newL_more, List.cons_append, readB_some, if_pos ⟨rfl, .inl (h1 p List.mem_cons_self)⟩, if_neg (by decide), new_read (q :: ps) (N + 1) false t (by simp) (.inr fun x hx => h1 x (List.mem_cons_of_mem _ hx))]
    rfl
def PartsOk (ps : List (List UInt8)) : Prop := ps ≠ [] ∧ (ps.length = 1 ∨ ∀ p ∈ ps, p ≠ [])
theorem PartsOk.first {ps : List (List UInt8)} (h : PartsOk ps) : (true = true ∧ ps.length = 1) ∨ ∀ p ∈ ps, p ≠ [] := h.2.imp (fun h => ⟨rfl, h⟩) id
theorem headN_new {N : Int} {ps : List (List UInt8)} (h : ps ≠ []) (t : List (Option Lf)) : headN (newL N ps ++ t) = N := by
  rcases ps with _ | ⟨p, _ | ⟨q, ps⟩⟩
  · exact absurd rfl h
  · rfl
  · rfl
theorem over_head {ps : List (List UInt8)} {N : Int} {old r : List (Option Lf)} (h : Over old (newL N ps) r) (hp : ps ≠ []) : headN r = headN old ∨ headN r = 0 ∨ headN r = N := by
  rcases ps with _ | ⟨p, ps⟩
  · exact absurd rfl hp
  · rcases old with _ | ⟨o, old⟩
    · cases ps <;> exact h.elim
    · rcases r with _ | ⟨y, r⟩
      · cases ps <;> exact h.elim
      · have hx : ∃ x new, newL N (p :: ps) = x :: new ∧ ∃ l, x = some (N, l, p) := by
          cases ps with
          | nil => exact ⟨_, _, newL_one N p, _, rfl⟩
          | cons q ps => exact ⟨_, _, newL_more N p q ps, _, rfl⟩
        obtain ⟨x, new, e, l, rfl⟩ := hx
        rw [e] at h
        rcases h.1 with rfl | rfl | rfl
        · left; rcases y with _ | ⟨m, q, b⟩ <;> rfl
        · exact .inr (.inl rfl)
        · exact .inr (.inr rfl)
theorem over_counts {ps : List (List UInt8)} {N e : Int} {old r : List (Option Lf)} (h : Over old (newL N ps) r) (hp : PartsOk ps) (hs : Small N old) (he : 0 ≤ e) (heN : e < N) (hstop : headN old ≤ e ∨ readB (headN old) true old = none) (f : Nat) :
    counts (f + 1) e r = ([], 0, e) ∨ (counts (f + 1) e r = ([ps.flatten], ps.length, N + ps.length - 1) ∧ r = newL N ps ++ old.drop ps.length) := by
  by_cases hlow : headN r ≤ e
  · exact .inl (counts_low _ _ _ hlow)
  · rcases over_head h hp.1 with hh | hh | hh
    · have h1 : readB (headN old) true old = none := by
        rcases hstop with h1 | h1
        · rw [hh] at hlow; exact absurd h1 hlow
        · exact h1
      refine .inl (counts_none _ _ _ ?_)
      rw [hh]
      exact over_stale ps N _ true old r h (hs.head (by omega)) h1
    · omega
    · rcases over_new ps N true old r h hs hp.1 hp.first with h1 | ⟨h1, h2⟩
      · exact .inl (counts_none _ _ _ (by rw [hh]; exact h1))
      · refine .inr ⟨?_, h2⟩
        rw [counts_some f e r _ _ hlow (by rw [hh]; exact h1), hh]
        have hlen : 1 ≤ ps.length := by
          have := hp.1
          cases ps with
          | nil => exact absurd rfl this
          | cons p ps => simp
        have hd : r.drop ps.length = old.drop ps.length := by rw [h2, List.drop_left' (newL_len N ps)]
        have hsm := (hs.drop ps.length).head (by omega)
        rw [hd, counts_low _ _ _ (by omega)]
        simp
theorem new_counts {ps : List (List UInt8)} {N e : Int} {t : List (Option Lf)} (hp : PartsOk ps) (hs : Small N t) (he : 0 ≤ e) (heN : e < N) (f : Nat) : counts (f + 1) e (newL N ps ++ t) = ([ps.flatten], ps.length, N + ps.length - 1) := by
  have hh := headN_new (N := N) hp.1 t
  have hr := new_read ps N true t hp.1 hp.first
  have hlen : 1 ≤ ps.length := by
    have := hp.1
    cases ps with
    | nil => exact absurd rfl this
    | cons p ps => simp
  have hsm := hs.head (by omega)
  rw [counts_some f e _ _ _ (by omega) (by rw [hh]; exact hr), hh, List.drop_left' (newL_len N ps), counts_low _ _ _ (by omega)]
  simp
theorem counts_fuel : ∀ (f g : Nat) (e : Int) (ls : List (Option Lf)), ls.length < f → ls.length < g → counts f e ls = counts g e ls
  | 0, _, _, _, h, _ => by omega
  | _, 0, _, _, _, h => by omega
  | f + 1, g + 1, e, ls, hf, hg => by
    by_cases h : headN ls ≤ e
    · rw [counts_low _ _ _ h, counts_low _ _ _ h]
    · cases hr : readB (headN ls) true ls with
      | none => rw [counts_none _ _ _ hr, counts_none _ _ _ hr]
      | some p =>
        obtain ⟨b, c⟩ := p
        have hc := readB_prefix ls _ _ _ _ hr
        rw [counts_some f e ls b c h hr, counts_some g e ls b c h hr, counts_fuel f g _ _ (by rw [List.length_drop]; omega) (by rw [List.length_drop]; omega)]
def halfN (ls : List (Option Lf)) : List (List UInt8) × Nat × Int := counts (ls.length + 1) 0 ls
def beginN (ls : List (Option Lf)) : Int := if (halfN ls).1 = [] then 0 else headN ls
theorem counts_stop : ∀ (f : Nat) (e : Int) (ls : List (Option Lf)), ls.length < f → headN (ls.drop (counts f e ls).2.1) ≤ (counts f e ls).2.2 ∨ readB (headN (ls.drop (counts f e ls).2.1)) true (ls.drop (counts f e ls).2.1) = none
  | 0, _, _, h => by omega
  | f + 1, e, ls, hf => by
    by_cases h : headN ls ≤ e
    · rw [counts_low _ _ _ h]
      exact .inl h
    · cases hr : readB (headN ls) true ls with
      | none =>
        rw [counts_none _ _ _ hr]
        exact .inr hr
      | some p =>
        obtain ⟨b, c⟩ := p
        have hc := readB_prefix ls _ _ _ _ hr
        have ih := counts_stop f (headN ls + c - 1) (ls.drop c) (by rw [List.length_drop]; omega)
        rw [counts_some f e ls b c h hr]
        simp only
        rw [List.drop_drop] at ih
        exact ih
theorem counts_end : ∀ (f : Nat) (e : Int) (ls : List (Option Lf)) (N : Int), Small N ls → e < N → e ≤ (counts f e ls).2.2 ∧ (counts f e ls).2.2 < N
  | 0, e, ls, N, hs, he => ⟨Int.le_refl _, he⟩
  | f + 1, e, ls, N, hs, he => by
    by_cases h : headN ls ≤ e
    · rw [counts_low _ _ _ h]
      exact ⟨Int.le_refl _, he⟩
    · cases hr : readB (headN ls) true ls with
      | none =>
        rw [counts_none _ _ _ hr]
        exact ⟨Int.le_refl _, he⟩
      | some p =>
        obtain ⟨b, c⟩ := p
        have hc := readB_prefix ls _ _ _ _ hr
        have hlast := readB_last ls _ _ _ _ hr N hs
        have ih := counts_end f (headN ls + c - 1) (ls.drop c) N (hs.drop c) hlast
        rw [counts_some f e ls b c h hr]
        simp only
        omega
where readB_last : ∀ (ls : List (Option Lf)) (n : Int) (fst : Bool) (b : List UInt8) (c : Nat), readB n fst ls = some (b, c) → ∀ N, Small N ls → n + c - 1 < N
  | [], n, fst, b, c, h, N, hs => by rw [readB_nil] at h; cases h
  | none :: ls, n, fst, b, c, h, N, hs => by rw [readB_none] at h; cases h
  | some (m, last, d) :: ls, n, fst, b, c, h, N, hs => by
    rw [readB_some] at h
    split at h
    · rename_i hc
      split at h
      · cases h
        have := hs m last d List.mem_cons_self
        omega
      · cases hr : readB (n + 1) false ls with
        | none => rw [hr] at h; cases h
        | some p =>
          obtain ⟨pb, pc⟩ := p
          rw [hr] at h
          simp only [Option.map_some, Option.some.injEq, Prod.mk.injEq] at h
          obtain ⟨rfl, rfl⟩ := h
          have := readB_last ls (n + 1) false pb pc hr N hs.tail
          omega
    · cases h
end Go.Proofs.YtfgbpinfplllgaaGreatDoor
namespace Go.Proofs.YtfgbpinfplllgaaGreatDoor
set_option maxRecDepth 100000
theorem half_low {ls : List (Option Lf)} (h : headN ls ≤ 0) : halfN ls = ([], 0, 0) := counts_low _ _ _ h
theorem half_none {ls : List (Option Lf)} (h : readB (headN ls) true ls = none) : halfN ls = ([], 0, 0) := counts_none _ _ _ h
theorem half_some {ls : List (Option Lf)} {p : List UInt8 × Nat} (h : ¬ headN ls ≤ 0) (hr : readB (headN ls) true ls = some p) : (halfN ls).1 ≠ [] ∧ 1 ≤ (halfN ls).2.1 := by
  obtain ⟨b, c⟩ := p
  have hc := readB_prefix ls _ _ _ _ hr
  unfold halfN
  rw [counts_some _ _ _ b c h hr]
  exact ⟨by simp, by simp only; omega⟩
theorem half_pos {ls : List (Option Lf)} (h : (halfN ls).1 ≠ []) : ¬ headN ls ≤ 0 ∧ ∃ p, readB (headN ls) true ls = some p := by
  refine ⟨fun h0 => h (by rw [half_low h0]), ?_⟩
  cases hr : readB (headN ls) true ls with
  | none => exact absurd (by rw [half_none hr]) h
  | some p => exact ⟨p, rfl⟩
theorem begin_nonneg (ls : List (Option Lf)) : 0 ≤ beginN ls := by
  unfold beginN
  split
  · exact Int.le_refl _
  · rename_i h
    have := (half_pos h).1
    omega
theorem begin_some {ls : List (Option Lf)} (h : (halfN ls).1 ≠ []) : beginN ls = headN ls ∧ 0 < beginN ls := by
  unfold beginN
  rw [if_neg h]
  have := (half_pos h).1
  exact ⟨rfl, by omega⟩
theorem begin_lt {ls : List (Option Lf)} {N : Int} (hs : Small N ls) (hN : 0 < N) : beginN ls < N := by
  unfold beginN
  split
  · exact hN
  · exact hs.head hN
theorem begin_zero {ls : List (Option Lf)} (h : beginN ls = 0) : (halfN ls).1 = [] := by
  by_cases e : (halfN ls).1 = []
  · exact e
  · have := (begin_some e).2
    omega
theorem append_half {ls r : List (Option Lf)} {ps : List (List UInt8)} {N : Int} (hne : (halfN ls).1 ≠ []) (hs : Small N ls) (hp : PartsOk ps) (hN : 0 < N) (h : Over (ls.drop (halfN ls).2.1) (newL N ps) r) :
    beginN (ls.take (halfN ls).2.1 ++ r) = beginN ls ∧ ((halfN (ls.take (halfN ls).2.1 ++ r)).1 = (halfN ls).1 ∨ (halfN (ls.take (halfN ls).2.1 ++ r)).1 = (halfN ls).1 ++ [ps.flatten]) := by
  obtain ⟨hk, hpre⟩ := counts_prefix (ls.length + 1) 0 ls
  have hstop := counts_stop (ls.length + 1) 0 ls (by omega)
  have hend := counts_end (ls.length + 1) 0 ls N hs hN
  have hhalf : halfN ls = counts (ls.length + 1) 0 ls := rfl
  rw [← hhalf] at hk hpre hstop hend
  obtain ⟨h0, p, hrd⟩ := half_pos hne
  have h1 := (half_some h0 hrd).2
  have hb : headN (ls.take (halfN ls).2.1 ++ r) = headN ls := headN_take _ _ _ h1 hk
  have hf := hpre ((ls.take (halfN ls).2.1 ++ r).length + 1) r
  have hful : halfN (ls.take (halfN ls).2.1 ++ r) = counts ((halfN ls).1.length + ((ls.take (halfN ls).2.1 ++ r).length + 1)) 0 (ls.take (halfN ls).2.1 ++ r) := counts_fuel _ _ _ _ (by omega) (by omega)
  have hc := over_counts h hp (hs.drop _) hend.1 hend.2 hstop ((ls.take (halfN ls).2.1 ++ r).length)
  have hlist : (halfN (ls.take (halfN ls).2.1 ++ r)).1 = (halfN ls).1 ∨ (halfN (ls.take (halfN ls).2.1 ++ r)).1 = (halfN ls).1 ++ [ps.flatten] := by
    rw [hful, hf]
    rcases hc with hc | ⟨hc, _⟩ <;> rw [hc]
    · left; simp
    · right; rfl
  refine ⟨?_, hlist⟩
  have hne2 : (halfN (ls.take (halfN ls).2.1 ++ r)).1 ≠ [] := by
    rcases hlist with e | e <;> rw [e]
    · exact hne
    · simp
  rw [(begin_some hne2).1, (begin_some hne).1, hb]
theorem append_done {ls : List (Option Lf)} {ps : List (List UInt8)} {N : Int} (hne : (halfN ls).1 ≠ []) (hs : Small N ls) (hp : PartsOk ps) (hN : 0 < N) :
    (halfN (ls.take (halfN ls).2.1 ++ (newL N ps ++ (ls.drop (halfN ls).2.1).drop ps.length))).1 = (halfN ls).1 ++ [ps.flatten] := by
  obtain ⟨hk, hpre⟩ := counts_prefix (ls.length + 1) 0 ls
  have hend := counts_end (ls.length + 1) 0 ls N hs hN
  have hhalf : halfN ls = counts (ls.length + 1) 0 ls := rfl
  rw [← hhalf] at hk hpre hend
  generalize hr : newL N ps ++ (ls.drop (halfN ls).2.1).drop ps.length = r at *
  have hf := hpre ((ls.take (halfN ls).2.1 ++ r).length + 1) r
  have hful : halfN (ls.take (halfN ls).2.1 ++ r) = counts ((halfN ls).1.length + ((ls.take (halfN ls).2.1 ++ r).length + 1)) 0 (ls.take (halfN ls).2.1 ++ r) := counts_fuel _ _ _ _ (by omega) (by omega)
  have hc : counts ((ls.take (halfN ls).2.1 ++ r).length + 1) (halfN ls).2.2 r = ([ps.flatten], ps.length, N + ps.length - 1) := by
    rw [← hr]
    exact new_counts hp ((hs.drop _).drop _) hend.1 hend.2 _
  rw [hful, hf, hc]
theorem replace_half {ls r : List (Option Lf)} {ps : List (List UInt8)} {N : Int} (hs : Small N ls) (hp : PartsOk ps) (hN : 0 < N) (h : Over ls (newL N ps) r) :
    beginN r = 0 ∨ beginN r = beginN ls ∨ (beginN r = N ∧ (halfN r).1 = [ps.flatten]) := by
  by_cases hlow : headN r ≤ 0
  · left
    unfold beginN
    rw [half_low hlow, if_pos rfl]
  rcases over_head h hp.1 with hh | hh | hh
  · cases hr : readB (headN r) true r with
    | none =>
      left
      unfold beginN
      rw [half_none hr, if_pos rfl]
    | some p =>
      right; left
      have h1 := (half_some hlow hr).1
      have h2 : (halfN ls).1 ≠ [] := by
        cases hr2 : readB (headN ls) true ls with
        | none =>
          have := over_stale ps N (headN ls) true ls r h (hs.head hN) hr2
          rw [hh, this] at hr
          cases hr
        | some q => exact (half_some (by rw [← hh]; exact hlow) hr2).1
      rw [(begin_some h1).1, (begin_some h2).1, hh]
  · omega
  · rcases over_new ps N true ls r h hs hp.1 hp.first with h1 | ⟨h1, h2⟩
    · left
      unfold beginN
      rw [half_none (by rw [hh]; exact h1), if_pos rfl]
    · right; right
      have hc : halfN r = ([ps.flatten], ps.length, N + ps.length - 1) := by
        unfold halfN
        have := new_counts (e := 0) (t := ls.drop ps.length) hp (hs.drop _) (Int.le_refl _) hN r.length
        rwa [← h2] at this
      refine ⟨?_, by rw [hc]⟩
      rw [(begin_some (by rw [hc]; simp)).1, hh]
theorem replace_done {ls : List (Option Lf)} {ps : List (List UInt8)} {N : Int} (hs : Small N ls) (hp : PartsOk ps) (hN : 0 < N) : (halfN (newL N ps ++ ls.drop ps.length)).1 = [ps.flatten] ∧ beginN (newL N ps ++ ls.drop ps.length) = N := by
  have hc : halfN (newL N ps ++ ls.drop ps.length) = ([ps.flatten], ps.length, N + ps.length - 1) := new_counts hp (hs.drop _) (Int.le_refl _) hN _
  refine ⟨by rw [hc], ?_⟩
  rw [(begin_some (by rw [hc]; simp)).1, headN_new hp.1]
def secondN (a b : List (Option Lf)) : Bool := decide (beginN a < beginN b)
def batchesN (a b : List (Option Lf)) : List (List UInt8) := if secondN a b then (halfN b).1 else (halfN a).1
def ThereN (a b : List (Option Lf)) : Prop := (halfN a).1 ≠ [] ∨ (halfN b).1 ≠ []
theorem there_first {a b : List (Option Lf)} (h : ThereN a b) (hs : secondN a b = false) : (halfN a).1 ≠ [] := by
  rcases h with h | h
  · exact h
  · intro e
    have h1 : beginN a = 0 := by unfold beginN; rw [if_pos e]
    have h2 := (begin_some h).2
    unfold secondN at hs
    simp at hs
    omega
theorem there_second {a b : List (Option Lf)} (hs : secondN a b = true) : (halfN b).1 ≠ [] := by
  intro e
  have h1 : beginN b = 0 := by unfold beginN; rw [if_pos e]
  have h2 := begin_nonneg a
  unfold secondN at hs
  simp at hs
  omega
theorem append_first {a b r : List (Option Lf)} {ps : List (List UInt8)} {N : Int} (ht : ThereN a b) (hw : secondN a b = false) (hs : Small N a) (hp : PartsOk ps) (hN : 0 < N) (h : Over (a.drop (halfN a).2.1) (newL N ps) r) :
    ThereN (a.take (halfN a).2.1 ++ r) b ∧ secondN (a.take (halfN a).2.1 ++ r) b = false ∧ (batchesN (a.take (halfN a).2.1 ++ r) b = batchesN a b ∨ batchesN (a.take (halfN a).2.1 ++ r) b = batchesN a b ++ [ps.flatten]) := by
  have hne := there_first ht hw
  obtain ⟨hb, hl⟩ := append_half hne hs hp hN h
  have hw2 : secondN (a.take (halfN a).2.1 ++ r) b = false := by unfold secondN at hw ⊢; rw [hb]; exact hw
  refine ⟨.inl ?_, hw2, ?_⟩
  · rcases hl with e | e <;> rw [e]
    · exact hne
    · simp
  · unfold batchesN
    rw [hw, hw2]
    exact hl
theorem append_second {a b r : List (Option Lf)} {ps : List (List UInt8)} {N : Int} (hw : secondN a b = true) (hs : Small N b) (hp : PartsOk ps) (hN : 0 < N) (h : Over (b.drop (halfN b).2.1) (newL N ps) r) :
    ThereN a (b.take (halfN b).2.1 ++ r) ∧ secondN a (b.take (halfN b).2.1 ++ r) = true ∧ (batchesN a (b.take (halfN b).2.1 ++ r) = batchesN a b ∨ batchesN a (b.take (halfN b).2.1 ++ r) = batchesN a b ++ [ps.flatten]) := by
  have hne := there_second hw
  obtain ⟨hb, hl⟩ := append_half hne hs hp hN h
  have hw2 : secondN a (b.take (halfN b).2.1 ++ r) = true := by unfold secondN at hw ⊢; rw [hb]; exact hw
  refine ⟨.inr ?_, hw2, ?_⟩
  · rcases hl with e | e <;> rw [e]
    · exact hne
    · simp
  · unfold batchesN
    rw [hw, hw2]
    exact hl
theorem replace_second {a b r : List (Option Lf)} {ps : List (List UInt8)} {N : Int} (ht : ThereN a b) (hw : secondN a b = false) (ha : Small N a) (hs : Small N b) (hp : PartsOk ps) (hN : 0 < N) (h : Over b (newL N ps) r) :
    ThereN a r ∧ (batchesN a r = batchesN a b ∨ batchesN a r = [ps.flatten]) := by
  have hne := there_first ht hw
  have hba := (begin_some hne).2
  have hlt := begin_lt ha hN
  refine ⟨.inl hne, ?_⟩
  have hw' : ¬ beginN a < beginN b := by unfold secondN at hw; simpa using hw
  unfold batchesN
  rw [hw]
  rcases replace_half hs hp hN h with e | e | ⟨e, e2⟩
  · have : secondN a r = false := by unfold secondN; simp; omega
    rw [this]; exact .inl rfl
  · have : secondN a r = false := by unfold secondN; simp; omega
    rw [this]; exact .inl rfl
  · have : secondN a r = true := by unfold secondN; simp; omega
    rw [this]; exact .inr e2
theorem replace_first {a b r : List (Option Lf)} {ps : List (List UInt8)} {N : Int} (hw : secondN a b = true) (hb : Small N b) (hs : Small N a) (hp : PartsOk ps) (hN : 0 < N) (h : Over a (newL N ps) r) :
    ThereN r b ∧ (batchesN r b = batchesN a b ∨ batchesN r b = [ps.flatten]) := by
  have hne := there_second hw
  have hbb := (begin_some hne).2
  have hlt := begin_lt hb hN
  refine ⟨.inr hne, ?_⟩
  have hw' : beginN a < beginN b := by unfold secondN at hw; simpa using hw
  unfold batchesN
  rw [hw]
  rcases replace_half hs hp hN h with e | e | ⟨e, e2⟩
  · have : secondN r b = true := by unfold secondN; simp; omega
    rw [this]; exact .inl rfl
  · have : secondN r b = true := by unfold secondN; simp; omega
    rw [this]; exact .inl rfl
  · have : secondN r b = false := by unfold secondN; simp; omega
    rw [this]; exact .inr e2
end Go.Proofs.YtfgbpinfplllgaaGreatDoor
namespace Go.Proofs.YtfgbpinfplllgaaGreatDoor
set_option maxRecDepth 100000
def bodyLeaf : List UInt8 → Option (Bool × List UInt8)
  | c0 :: c1 :: r => if c0.toNat ≤ 1 ∧ c1.toNat ≤ 42 ∧ (∀ c ∈ r.drop c1.toNat, c = 0) ∧ (c0.toNat = 1 ∨ c1.toNat = 42) then some (decide (c0.toNat = 1), r.take c1.toNat) else none
  | _ => none
theorem bodyLeaf_cons (c0 c1 : UInt8) (r : List UInt8) : bodyLeaf (c0 :: c1 :: r) = if c0.toNat ≤ 1 ∧ c1.toNat ≤ 42 ∧ (∀ c ∈ r.drop c1.toNat, c = 0) ∧ (c0.toNat = 1 ∨ c1.toNat = 42) then some (decide (c0.toNat = 1), r.take c1.toNat) else none := rfl
def leafOf (x : Blk) : Option Lf := if getE x = 0 then (bodyLeaf (bodyOf x)).map fun p => (tag x 0, p.1, p.2) else none
def leafBody (last : Bool) (b : List UInt8) : List UInt8 := (if last then 1 else 0) :: UInt8.ofNat b.length :: b
theorem leafBody_len (last : Bool) (b : List UInt8) : (leafBody last b).length = b.length + 2 := by simp [leafBody]
theorem leaf_bad {x : Blk} (h : getE x ≠ 0) : leafOf x = none := by unfold leafOf; rw [if_neg h]
theorem leaf_num {x : Blk} {m : Int} {l : Bool} {b : List UInt8} (h : leafOf x = some (m, l, b)) : getE x = 0 ∧ m = tag x 0 := by
  unfold leafOf at h
  split at h
  · rename_i hg
    refine ⟨hg, ?_⟩
    cases hb : bodyLeaf (bodyOf x) with
    | none => rw [hb] at h; cases h
    | some p => rw [hb] at h; simp only [Option.map_some, Option.some.injEq, Prod.mk.injEq] at h; exact h.1.symm
  · cases h
theorem leaf_put (n : Int) (last : Bool) (b : List UInt8) (h0 : 0 < n) (h1 : n < 4294967296) (hb : b.length ≤ 42) (hl : last = true ∨ b.length = 42) : leafOf (putN n (leafBody last b)) = some (n, last, b) := by
  obtain ⟨g0, g1, g2, _⟩ := put_get n (leafBody last b) h0 h1 (by rw [leafBody_len]; omega)
  unfold leafOf
  rw [if_pos g0, g1, g2]
  have hz : b.length < 256 := by omega
  have e : fullOf (leafBody last b) = (if last then 1 else 0) :: UInt8.ofNat b.length :: (b ++ List.replicate (42 - b.length) 0) := by
    unfold fullOf
    rw [leafBody_len, show 44 - (b.length + 2) = 42 - b.length by omega]
    rfl
  have ec : (UInt8.ofNat b.length).toNat = b.length := by rw [UInt8.toNat_ofNat', Nat.mod_eq_of_lt hz]
  rw [e, bodyLeaf_cons, ec]
  have hd : (b ++ List.replicate (42 - b.length) (0 : UInt8)).drop b.length = List.replicate (42 - b.length) 0 := List.drop_left
  have ht : (b ++ List.replicate (42 - b.length) (0 : UInt8)).take b.length = b := List.take_left
  rw [if_pos ⟨by cases last <;> decide, hb, by rw [hd]; intro c hc; exact List.eq_of_mem_replicate hc, by rcases hl with rfl | hl; exact .inl rfl; exact .inr hl⟩, ht]
  cases last <;> rfl
theorem torn_new {x y : Blk} {N : Int} (bs : Int) (hx : x.length = 64) (hy : y.length = 64) (tx : ∀ q, q < 4 → tag x q < N) (ty : ∀ q, q < 4 → tag y q = N) (h : getE (torn x y bs) = 0) : torn x y bs = x ∨ torn x y bs = y := by
  obtain ⟨h0, ht⟩ := getE_tags h
  have hq := fun q hq => (tag_torn x y bs hx hy q hq).symm.trans (ht q hq)
  rcases hb : bitAt bs 0 with _ | _
  · have e0 : tag (torn x y bs) 0 = tag x 0 := by rw [tag_torn x y bs hx hy 0 (by decide), hb, if_neg (by decide)]
    refine .inl (torn_off x y bs hx hy fun q hq4 => ?_)
    rcases hbq : bitAt bs q with _ | _
    · rfl
    · have := hq q hq4
      rw [hbq, if_pos rfl, ty q hq4, e0] at this
      have := tx 0 (by decide)
      omega
  · have e0 : tag (torn x y bs) 0 = N := by rw [tag_torn x y bs hx hy 0 (by decide), hb, if_pos rfl, ty 0 (by decide)]
    refine .inr (torn_on x y bs hx hy fun q hq4 => ?_)
    rcases hbq : bitAt bs q with _ | _
    · have := hq q hq4
      rw [hbq, if_neg (by decide), e0] at this
      have := tx q hq4
      omega
    · rfl
theorem leaf_torn {x y : Blk} {N : Int} (bs : Int) (hx : x.length = 64) (hy : y.length = 64) (tx : ∀ q, q < 4 → tag x q < N) (ty : ∀ q, q < 4 → tag y q = N) : leafOf (torn x y bs) = leafOf x ∨ leafOf (torn x y bs) = none ∨ leafOf (torn x y bs) = leafOf y := by
  by_cases h : getE (torn x y bs) = 0
  · rcases torn_new bs hx hy tx ty h with e | e
    · exact .inl (by rw [e])
    · exact .inr (.inr (by rw [e]))
  · exact .inr (.inl (leaf_bad h))
theorem torn_tags {x y : Blk} {M : Int} (bs : Int) (hx : x.length = 64) (hy : y.length = 64) (tx : ∀ q, q < 4 → tag x q < M) (ty : ∀ q, q < 4 → tag y q < M) : ∀ q, q < 4 → tag (torn x y bs) q < M := fun q hq => by
  rw [tag_torn x y bs hx hy q hq]
  split
  · exact ty q hq
  · exact tx q hq
theorem put_tags (n : Int) (b : List UInt8) (h0 : 0 ≤ n) (h1 : n < 4294967296) (hb : b.length ≤ 44) : ∀ q, q < 4 → tag (putN n b) q = n := fun q hq => by
  obtain ⟨f, a, p⟩ := putIs n b h0 h1 hb
  exact put_tag p q hq
theorem tags_greatest {x : Blk} {M : Int} : (∀ q, q < 4 → tag x q < M) ↔ greatest x < M := by
  have h := greatest_is x
  constructor
  · intro ht
    have a0 := ht 0 (by decide)
    have a1 := ht 1 (by decide)
    have a2 := ht 2 (by decide)
    have a3 := ht 3 (by decide)
    omega
  · intro hg q hq
    rcases (show q = 0 ∨ q = 1 ∨ q = 2 ∨ q = 3 by omega) with rfl | rfl | rfl | rfl <;> omega
def newBlks : Int → List (List UInt8) → List Blk
  | _, [] => []
  | n, [p] => [putN n (leafBody true p)]
  | n, p :: q :: r => putN n (leafBody false p) :: newBlks (n + 1) (q :: r)
theorem newBlks_one (n : Int) (p : List UInt8) : newBlks n [p] = [putN n (leafBody true p)] := rfl
theorem newBlks_more (n : Int) (p q : List UInt8) (r : List (List UInt8)) : newBlks n (p :: q :: r) = putN n (leafBody false p) :: newBlks (n + 1) (q :: r) := rfl
theorem newBlks_len : ∀ (n : Int) (ps : List (List UInt8)), (newBlks n ps).length = ps.length
  | _, [] => rfl
  | _, [_] => rfl
  | n, p :: q :: r => by rw [newBlks_more, List.length_cons, newBlks_len (n + 1) (q :: r), List.length_cons (a := p)]
def Cut42 : List (List UInt8) → Prop
  | [] => True
  | [p] => p.length ≤ 42
  | p :: q :: r => p.length = 42 ∧ Cut42 (q :: r)
end Go.Proofs.YtfgbpinfplllgaaGreatDoor
namespace Go.Proofs.YtfgbpinfplllgaaGreatDoor
set_option maxRecDepth 100000
def rmap {α : Type} (base : Int) (n : Nat) (g : Int → α) : List α := (List.range n).map fun i : Nat => g (base + (i : Int))
theorem rmap_succ {α : Type} (base : Int) (n : Nat) (g : Int → α) : rmap base (n + 1) g = g base :: rmap (base + 1) n g := by
  unfold rmap
  rw [List.range_succ_eq_map, List.map_cons, List.map_map]
  congr 1
  · simp
  · refine List.map_congr_left fun i _ => ?_
    simp only [Function.comp]
    congr 1
    omega
theorem rmap_len {α : Type} (base : Int) (n : Nat) (g : Int → α) : (rmap base n g).length = n := by simp [rmap]
theorem rmap_congr {α : Type} {base : Int} {n : Nat} {g h : Int → α} (e : ∀ p, base ≤ p → p < base + n → g p = h p) : rmap base n g = rmap base n h :=
  List.map_congr_left fun i hi => e _ (by omega) (by have := List.mem_range.1 hi; omega)
theorem rmap_add {α : Type} (base : Int) (k n : Nat) (g : Int → α) : rmap base (k + n) g = rmap base k g ++ rmap (base + k) n g := by
  unfold rmap
  rw [List.range_add, List.map_append, List.map_map]
  congr 1
  refine List.map_congr_left fun i _ => ?_
  simp only [Function.comp]
  congr 1
  omega
theorem rmap_take {α : Type} (base : Int) (n k : Nat) (g : Int → α) (h : k ≤ n) : (rmap base n g).take k = rmap base k g := by
  rw [show n = k + (n - k) by omega, rmap_add, List.take_left' (rmap_len _ _ _)]
theorem rmap_drop {α : Type} (base : Int) (n k : Nat) (g : Int → α) (h : k ≤ n) : (rmap base n g).drop k = rmap (base + k) (n - k) g := by
  conv => lhs; rw [show n = k + (n - k) by omega]
  rw [rmap_add, List.drop_left' (rmap_len _ _ _)]
theorem tell_same (f : Tab) (k : Int) (l : Blk) : tell (upd f k l) k = l := by unfold tell; rw [upd_same]; rfl
theorem tell_other (f : Tab) {k p : Int} (l : Blk) (h : p ≠ k) : tell (upd f k l) p = tell f p := by unfold tell; rw [upd_other f l h]
def Consec : Int → List (Int × Blk) → Prop
  | _, [] => True
  | base, x :: q => x.1 = base ∧ Consec (base + 1) q
theorem tear_cons (z : (Int × Blk) × Int) (zs : List ((Int × Blk) × Int)) (f : Tab) : tear (z :: zs) f = tear zs (upd f z.1.1 (torn (tell f z.1.1) z.1.2 z.2)) := by simp [tear]
theorem lay_cons (x : Int × Blk) (q : List (Int × Blk)) (f : Tab) : lay (x :: q) f = lay q (upd f x.1 x.2) := by simp [lay]
theorem tear_out : ∀ (q : List (Int × Blk)) (picks : List Int) (base p : Int) (f : Tab), Consec base q → (p < base ∨ base + q.length ≤ p) → tell (tear (q.zip picks) f) p = tell f p
  | [], picks, base, p, f, _, _ => rfl
  | x :: q, [], base, p, f, _, _ => rfl
  | x :: q, k :: picks, base, p, f, hc, hp => by
    rw [List.zip_cons_cons, tear_cons, tear_out q picks (base + 1) p _ hc.2 (by simp only [List.length_cons] at hp; omega)]
    exact tell_other f _ (show p ≠ x.1 by have := hc.1; simp only [List.length_cons] at hp; omega)
theorem lay_out : ∀ (q : List (Int × Blk)) (base p : Int) (f : Tab), Consec base q → (p < base ∨ base + q.length ≤ p) → tell (lay q f) p = tell f p
  | [], base, p, f, _, _ => rfl
  | x :: q, base, p, f, hc, hp => by
    rw [lay_cons, lay_out q (base + 1) p _ hc.2 (by simp only [List.length_cons] at hp; omega)]
    exact tell_other f _ (by have := hc.1; simp only [List.length_cons] at hp; omega)
def Under (N : Int) (f : Tab) : Prop := ∀ p, (tell f p).length = 64 ∧ ∀ q, q < 4 → tag (tell f p) q < N
theorem Under.upd {N : Int} {f : Tab} (h : Under N f) (k : Int) (l : Blk) (hl : l.length = 64) (ht : ∀ q, q < 4 → tag l q < N) : Under N (upd f k l) := fun p => by
  by_cases e : p = k
  · subst e; rw [tell_same]; exact ⟨hl, ht⟩
  · rw [tell_other f l e]; exact h p
theorem Under.up {N M : Int} {f : Tab} (h : Under N f) (hm : N ≤ M) : Under M f := fun p => ⟨(h p).1, fun q hq => by have := (h p).2 q hq; omega⟩
theorem Under.small {N : Int} {f : Tab} (h : Under N f) (base : Int) (n : Nat) : Small N (rmap base n fun p => leafOf (tell f p)) := fun m l b hm => by
  simp only [rmap, List.mem_map] at hm
  obtain ⟨i, _, he⟩ := hm
  have e := (leaf_num he).2
  have := (h (base + (i : Int))).2 0 (by decide)
  omega
theorem over_refl : ∀ (new old : List (Option Lf)), new.length ≤ old.length → Over old new old
  | [], old, _ => by cases old <;> rfl
  | x :: new, [], h => by simp at h
  | x :: new, o :: old, h => ⟨.inl rfl, over_refl new old (by simpa using h)⟩
theorem newBlks_cons (N : Int) (p : List UInt8) (ps : List (List UInt8)) : ∃ last, newBlks N (p :: ps) = putN N (leafBody last p) :: newBlks (N + 1) ps ∧ newL N (p :: ps) = some (N, last, p) :: newL (N + 1) ps ∧ (last = true ↔ ps = []) := by
  cases ps with
  | nil => exact ⟨true, rfl, rfl, by simp⟩
  | cons q ps => exact ⟨false, rfl, rfl, by simp⟩
theorem Cut42.tail {p : List UInt8} {ps : List (List UInt8)} (h : Cut42 (p :: ps)) : Cut42 ps ∧ p.length ≤ 42 ∧ (ps ≠ [] → p.length = 42) := by
  cases ps with
  | nil => exact ⟨trivial, h, fun e => absurd rfl e⟩
  | cons q ps => exact ⟨h.2, by have := h.1; omega, fun _ => h.1⟩
theorem over_tear : ∀ (ps : List (List UInt8)) (N base : Int) (n : Nat) (q : List (Int × Blk)) (picks : List Int) (f : Tab), ps.length ≤ n → Consec base q → q.map (·.2) <+: newBlks N ps → Under N f → 0 < N → N + ps.length < 4294967296 → Cut42 ps →
    Over (rmap base n fun p => leafOf (tell f p)) (newL N ps) (rmap base n fun p => leafOf (tell (tear (q.zip picks) f) p))
  | [], N, base, n, q, picks, f, hn, hc, hq, hu, h0, h1, hcut => by
    have e : q = [] := by
      have := List.prefix_nil.1 (show q.map (·.2) <+: [] from hq)
      exact List.map_eq_nil_iff.1 this
    subst e
    exact over_refl [] _ (Nat.zero_le _)
  | p :: ps, N, base, n, [], picks, f, hn, hc, hq, hu, h0, h1, hcut => over_refl _ _ (by rw [newL_len, rmap_len]; exact hn)
  | p :: ps, N, base, n, x :: q, [], f, hn, hc, hq, hu, h0, h1, hcut => over_refl _ _ (by rw [newL_len, rmap_len]; exact hn)
  | p :: ps, N, base, n, x :: q, k :: picks, f, hn, hc, hq, hu, h0, h1, hcut => by
    obtain ⟨n, rfl⟩ : ∃ m, n = m + 1 := ⟨n - 1, by simp only [List.length_cons] at hn; omega⟩
    obtain ⟨last, eb, el, hlast⟩ := newBlks_cons N p ps
    obtain ⟨hct, hp42, hpl⟩ := hcut.tail
    simp only [List.length_cons] at hn h1
    rw [eb, List.map_cons] at hq
    obtain ⟨hx, hq'⟩ := List.cons_prefix_cons.1 hq
    have hx1 : x.1 = base := hc.1
    have hbl : (leafBody last p).length ≤ 44 := by rw [leafBody_len]; omega
    have hy : (putN N (leafBody last p)).length = 64 := putN_len _ _ hbl
    have hty := put_tags N (leafBody last p) (by omega) (by omega) hbl
    obtain ⟨hl0, ht0⟩ := hu base
    have ht := torn_tags (M := N + 1) k hl0 hy (fun q hq => by have := ht0 q hq; omega) (fun q hq => by rw [hty q hq]; omega)
    have hlf := leaf_torn k hl0 hy ht0 hty
    rw [leaf_put N last p h0 (by omega) hp42 (by
      by_cases e : ps = []
      · exact .inl (hlast.2 e)
      · exact .inr (hpl e))] at hlf
    have hu' : Under (N + 1) (upd f base (torn (tell f base) (putN N (leafBody last p)) k)) := (hu.up (by omega)).upd _ _ (torn_len _ _ _ hl0 hy) ht
    have ih := over_tear ps (N + 1) (base + 1) n q picks (upd f base (torn (tell f base) (putN N (leafBody last p)) k)) (by omega) hc.2 hq' hu' (by omega) (by omega) hct
    have e1 : rmap (base + 1) n (fun p_1 => leafOf (tell (upd f base (torn (tell f base) (putN N (leafBody last p)) k)) p_1)) = rmap (base + 1) n fun p => leafOf (tell f p) := rmap_congr fun i h _ => by rw [tell_other f _ (by omega)]
    rw [e1] at ih
    rw [el, rmap_succ, rmap_succ, List.zip_cons_cons, tear_cons, hx1, hx]
    refine ⟨?_, ih⟩
    rw [tear_out q picks (base + 1) base _ hc.2 (.inl (by omega)), tell_same]
    exact hlf
theorem lay_new : ∀ (ps : List (List UInt8)) (N base : Int) (n : Nat) (q : List (Int × Blk)) (f : Tab), ps.length ≤ n → Consec base q → q.map (·.2) = newBlks N ps → 0 < N → N + ps.length < 4294967296 → Cut42 ps →
    rmap base n (fun p => leafOf (tell (lay q f) p)) = newL N ps ++ (rmap base n fun p => leafOf (tell f p)).drop ps.length
  | [], N, base, n, q, f, hn, hc, hq, h0, h1, hcut => by
    have e : q = [] := List.map_eq_nil_iff.1 hq
    subst e
    rfl
  | p :: ps, N, base, n, [], f, hn, hc, hq, h0, h1, hcut => by
    obtain ⟨last, eb, -, -⟩ := newBlks_cons N p ps
    rw [eb] at hq
    cases hq
  | p :: ps, N, base, n, x :: q, f, hn, hc, hq, h0, h1, hcut => by
    obtain ⟨n, rfl⟩ : ∃ m, n = m + 1 := ⟨n - 1, by simp only [List.length_cons] at hn; omega⟩
    obtain ⟨last, eb, el, hlast⟩ := newBlks_cons N p ps
    obtain ⟨hct, hp42, hpl⟩ := hcut.tail
    simp only [List.length_cons] at hn h1
    rw [eb, List.map_cons, List.cons.injEq] at hq
    obtain ⟨hx, hq'⟩ := hq
    have hx1 : x.1 = base := hc.1
    have ih := lay_new ps (N + 1) (base + 1) n q (upd f base (putN N (leafBody last p))) (by omega) hc.2 hq' (by omega) (by omega) hct
    have e1 : rmap (base + 1) n (fun p_1 => leafOf (tell (upd f base (putN N (leafBody last p))) p_1)) = rmap (base + 1) n fun p => leafOf (tell f p) := rmap_congr fun i h _ => by rw [tell_other f _ (by omega)]
    rw [e1] at ih
    rw [el, rmap_succ, rmap_succ, lay_cons, hx1, hx, List.length_cons, List.drop_succ_cons, List.cons_append, ih, lay_out q (base + 1) base _ hc.2 (.inl (by omega)), tell_same, leaf_put N last p h0 (by omega) hp42 (by
      by_cases e : ps = []
      · exact .inl (hlast.2 e)
      · exact .inr (hpl e))]
theorem under_tear : ∀ (ps : List (List UInt8)) (N : Int) (q : List (Int × Blk)) (picks : List Int) (f : Tab), q.map (·.2) <+: newBlks N ps → Under N f → 0 < N → N + ps.length < 4294967296 → Cut42 ps → Under (N + ps.length) (tear (q.zip picks) f)
  | [], N, q, picks, f, hq, hu, h0, h1, hcut => by
    have e : q = [] := by
      have := List.prefix_nil.1 (show q.map (·.2) <+: [] from hq)
      exact List.map_eq_nil_iff.1 this
    subst e
    exact hu.up (by simp)
  | p :: ps, N, [], picks, f, hq, hu, h0, h1, hcut => hu.up (by omega)
  | p :: ps, N, x :: q, [], f, hq, hu, h0, h1, hcut => hu.up (by omega)
  | p :: ps, N, x :: q, k :: picks, f, hq, hu, h0, h1, hcut => by
    obtain ⟨last, eb, -, -⟩ := newBlks_cons N p ps
    obtain ⟨hct, hp42, hpl⟩ := hcut.tail
    simp only [List.length_cons] at h1 ⊢
    rw [eb, List.map_cons] at hq
    obtain ⟨hx, hq'⟩ := List.cons_prefix_cons.1 hq
    have hbl : (leafBody last p).length ≤ 44 := by rw [leafBody_len]; omega
    have hy : (putN N (leafBody last p)).length = 64 := putN_len _ _ hbl
    have hty := put_tags N (leafBody last p) (by omega) (by omega) hbl
    obtain ⟨hl0, ht0⟩ := hu x.1
    have ht := torn_tags (M := N + 1) k hl0 hy (fun q hq => by have := ht0 q hq; omega) (fun q hq => by rw [hty q hq]; omega)
    have hu' : Under (N + 1) (upd f x.1 (torn (tell f x.1) (putN N (leafBody last p)) k)) := (hu.up (by omega)).upd _ _ (torn_len _ _ _ hl0 hy) ht
    have ih := under_tear ps (N + 1) q picks _ hq' hu' (by omega) (by omega) hct
    rw [List.zip_cons_cons, tear_cons, hx]
    exact ih.up (by omega)
theorem under_lay : ∀ (ps : List (List UInt8)) (N : Int) (q : List (Int × Blk)) (f : Tab), q.map (·.2) <+: newBlks N ps → Under N f → 0 < N → N + ps.length < 4294967296 → Cut42 ps → Under (N + ps.length) (lay q f)
  | [], N, q, f, hq, hu, h0, h1, hcut => by
    have e : q = [] := by
      have := List.prefix_nil.1 (show q.map (·.2) <+: [] from hq)
      exact List.map_eq_nil_iff.1 this
    subst e
    exact hu.up (by simp)
  | p :: ps, N, [], f, hq, hu, h0, h1, hcut => hu.up (by omega)
  | p :: ps, N, x :: q, f, hq, hu, h0, h1, hcut => by
    obtain ⟨last, eb, -, -⟩ := newBlks_cons N p ps
    obtain ⟨hct, hp42, hpl⟩ := hcut.tail
    simp only [List.length_cons] at h1 ⊢
    rw [eb, List.map_cons] at hq
    obtain ⟨hx, hq'⟩ := List.cons_prefix_cons.1 hq
    have hbl : (leafBody last p).length ≤ 44 := by rw [leafBody_len]; omega
    have hty := put_tags N (leafBody last p) (by omega) (by omega) hbl
    have hu' : Under (N + 1) (upd f x.1 (putN N (leafBody last p))) := (hu.up (by omega)).upd _ _ (putN_len _ _ hbl) (fun q hq => by rw [hty q hq]; omega)
    have ih := under_lay ps (N + 1) q _ hq' hu' (by omega) (by omega) hct
    rw [lay_cons, hx]
    exact ih.up (by omega)
end Go.Proofs.YtfgbpinfplllgaaGreatDoor
namespace Go.Proofs.YtfgbpinfplllgaaGreatDoor
set_option maxRecDepth 100000
def startT (H : Nat) (second : Bool) : Int := if second then (H : Int) else 0
def lvs (f : Tab) (H : Nat) (second : Bool) : List (Option Lf) := rmap (startT H second) H fun p => leafOf (tell f p)
theorem lvs_len (f : Tab) (H : Nat) (s : Bool) : (lvs f H s).length = H := rmap_len _ _ _
def secondT (f : Tab) (H : Nat) : Bool := secondN (lvs f H false) (lvs f H true)
def batchesT (f : Tab) (H : Nat) : List (List UInt8) := batchesN (lvs f H false) (lvs f H true)
def ThereT (f : Tab) (H : Nat) : Prop := ThereN (lvs f H false) (lvs f H true)
def usedT (f : Tab) (H : Nat) : Nat := (halfN (lvs f H (secondT f H))).2.1
theorem used_le (f : Tab) (H : Nat) : usedT f H ≤ H := by
  have := (counts_prefix ((lvs f H (secondT f H)).length + 1) 0 (lvs f H (secondT f H))).1
  rw [lvs_len] at this
  unfold usedT halfN
  rwa [lvs_len]
theorem lvs_same {f g : Tab} {H : Nat} {s : Bool} (h : ∀ p, startT H s ≤ p → p < startT H s + H → tell g p = tell f p) : lvs g H s = lvs f H s := rmap_congr fun p h1 h2 => by rw [h p h1 h2]
theorem rmap_split {α : Type} (base : Int) (n k : Nat) (g : Int → α) (h : k ≤ n) : rmap base n g = rmap base k g ++ rmap (base + k) (n - k) g := by
  obtain ⟨m, rfl⟩ := Nat.exists_eq_add_of_le h
  rw [rmap_add, Nat.add_sub_cancel_left]
theorem lvs_from {f g : Tab} {H k : Nat} {s : Bool} (hk : k ≤ H) (h : ∀ p, startT H s ≤ p → p < startT H s + k → tell g p = tell f p) : lvs g H s = (lvs f H s).take k ++ rmap (startT H s + k) (H - k) fun p => leafOf (tell g p) := by
  have e : rmap (startT H s) k (fun p => leafOf (tell g p)) = rmap (startT H s) k (fun p => leafOf (tell f p)) := rmap_congr fun p h1 h2 => by rw [h p h1 h2]
  unfold lvs
  rw [rmap_take _ _ _ _ hk, rmap_split _ _ _ _ hk, e]
structure LayOk (f : Tab) (H : Nat) (N : Int) (ps : List (List UInt8)) : Prop where
  there : ThereT f H
  under : Under N f
  pos : 0 < N
  top : N + ps.length < 4294967296
  parts : PartsOk ps
  cut : Cut42 ps
theorem prefix_len {q : List (Int × Blk)} {N : Int} {ps : List (List UInt8)} (h : q.map (·.2) <+: newBlks N ps) : q.length ≤ ps.length := by
  have := h.length_le
  rwa [List.length_map, newBlks_len] at this
theorem append_cut {f : Tab} {H : Nat} {N : Int} {ps : List (List UInt8)} (h : LayOk f H N ps) (q : List (Int × Blk)) (picks : List Int) (hroom : usedT f H + ps.length ≤ H) (hc : Consec (startT H (secondT f H) + usedT f H) q) (hq : q.map (·.2) <+: newBlks N ps) :
    ThereT (tear (q.zip picks) f) H ∧ Under (N + ps.length) (tear (q.zip picks) f) ∧ (batchesT (tear (q.zip picks) f) H = batchesT f H ∨ batchesT (tear (q.zip picks) f) H = batchesT f H ++ [ps.flatten]) := by
  have hql := prefix_len hq
  have hover := over_tear ps N (startT H (secondT f H) + usedT f H) (H - usedT f H) q picks f (by omega) hc hq h.under h.pos h.top h.cut
  have hut := under_tear ps N q picks f hq h.under h.pos h.top h.cut
  have hout := fun p hp => tear_out q picks (startT H (secondT f H) + usedT f H) p f hc hp
  generalize tear (q.zip picks) f = g at *
  have hd : (lvs f H (secondT f H)).drop (usedT f H) = rmap (startT H (secondT f H) + usedT f H) (H - usedT f H) fun p => leafOf (tell f p) := rmap_drop _ _ _ _ (by omega)
  rw [← hd] at hover
  have hfrom := lvs_from (f := f) (g := g) (s := secondT f H) (k := usedT f H) (by omega) (fun p h1 h2 => hout p (.inl h2))
  have ht : ThereN (lvs f H false) (lvs f H true) := h.there
  cases hs : secondT f H with
  | false =>
    rw [hs] at hover hfrom hout
    have hu : usedT f H = (halfN (lvs f H false)).2.1 := by unfold usedT; rw [hs]
    have hoth : lvs g H true = lvs f H true := lvs_same fun p h1 h2 => hout p (.inr (by simp [startT] at h1 ⊢; omega))
    rw [hu] at hover hfrom
    have := append_first ht hs (h.under.small _ _) h.parts h.pos hover
    unfold ThereT batchesT
    rw [hoth, hfrom]
    exact ⟨this.1, hut, this.2.2⟩
  | true =>
    rw [hs] at hover hfrom hout
    have hu : usedT f H = (halfN (lvs f H true)).2.1 := by unfold usedT; rw [hs]
    have hoth : lvs g H false = lvs f H false := lvs_same fun p h1 h2 => hout p (.inl (by simp [startT] at h2 ⊢; omega))
    rw [hu] at hover hfrom
    have := append_second hs (h.under.small _ _) h.parts h.pos hover
    unfold ThereT batchesT
    rw [hoth, hfrom]
    exact ⟨this.1, hut, this.2.2⟩
theorem over_all : ∀ (new old : List (Option Lf)), new.length ≤ old.length → Over old new (new ++ old.drop new.length)
  | [], old, _ => by cases old <;> rfl
  | x :: new, [], h => by simp at h
  | x :: new, o :: old, h => by
    rw [List.cons_append, List.length_cons, List.drop_succ_cons]
    exact ⟨.inr (.inr rfl), over_all new old (by simpa using h)⟩
theorem append_ok {f : Tab} {H : Nat} {N : Int} {ps : List (List UInt8)} (h : LayOk f H N ps) (q : List (Int × Blk)) (hroom : usedT f H + ps.length ≤ H) (hc : Consec (startT H (secondT f H) + usedT f H) q) (hq : q.map (·.2) = newBlks N ps) :
    ThereT (lay q f) H ∧ Under (N + ps.length) (lay q f) ∧ batchesT (lay q f) H = batchesT f H ++ [ps.flatten] := by
  have hql : q.length = ps.length := by have := congrArg List.length hq; rwa [List.length_map, newBlks_len] at this
  have hnew := lay_new ps N (startT H (secondT f H) + usedT f H) (H - usedT f H) q f (by omega) hc hq h.pos h.top h.cut
  have hover : Over ((rmap (startT H (secondT f H) + usedT f H) (H - usedT f H) fun p => leafOf (tell f p))) (newL N ps) (rmap (startT H (secondT f H) + usedT f H) (H - usedT f H) fun p => leafOf (tell (lay q f) p)) := by
    rw [hnew]
    have := over_all (newL N ps) (rmap (startT H (secondT f H) + usedT f H) (H - usedT f H) fun p => leafOf (tell f p)) (by rw [newL_len, rmap_len]; omega)
    rwa [newL_len] at this
  have hut := under_lay ps N q f (by rw [hq]; exact List.prefix_refl _) h.under h.pos h.top h.cut
  have hout := fun p hp => lay_out q (startT H (secondT f H) + usedT f H) p f hc hp
  generalize lay q f = g at *
  have hd : (lvs f H (secondT f H)).drop (usedT f H) = rmap (startT H (secondT f H) + usedT f H) (H - usedT f H) fun p => leafOf (tell f p) := rmap_drop _ _ _ _ (by omega)
  rw [← hd] at hover hnew
  have hfrom := lvs_from (f := f) (g := g) (s := secondT f H) (k := usedT f H) (by omega) (fun p h1 h2 => hout p (.inl h2))
  have ht : ThereN (lvs f H false) (lvs f H true) := h.there
  cases hs : secondT f H with
  | false =>
    rw [hs] at hover hfrom hout hnew
    have hu : usedT f H = (halfN (lvs f H false)).2.1 := by unfold usedT; rw [hs]
    have hoth : lvs g H true = lvs f H true := lvs_same fun p h1 h2 => hout p (.inr (by simp [startT] at h1 ⊢; omega))
    rw [hu] at hover hfrom hnew
    have h1 := append_first ht hs (h.under.small _ _) h.parts h.pos hover
    have h2 := append_done (there_first ht hs) (h.under.small _ _) h.parts h.pos
    rw [← hnew, ← hfrom] at h2
    unfold ThereT batchesT
    rw [hoth]
    rw [← hfrom] at h1
    refine ⟨h1.1, hut, ?_⟩
    have e1 : secondN (lvs g H false) (lvs f H true) = false := h1.2.1
    have e2 : secondN (lvs f H false) (lvs f H true) = false := hs
    unfold batchesN
    rw [e1, e2]
    exact h2
  | true =>
    rw [hs] at hover hfrom hout hnew
    have hu : usedT f H = (halfN (lvs f H true)).2.1 := by unfold usedT; rw [hs]
    have hoth : lvs g H false = lvs f H false := lvs_same fun p h1 h2 => hout p (.inl (by simp [startT] at h2 ⊢; omega))
    rw [hu] at hover hfrom hnew
    have h1 := append_second hs (h.under.small _ _) h.parts h.pos hover
    have h2 := append_done (there_second hs) (h.under.small _ _) h.parts h.pos
    rw [← hnew, ← hfrom] at h2
    unfold ThereT batchesT
    rw [hoth]
    rw [← hfrom] at h1
    refine ⟨h1.1, hut, ?_⟩
    have e1 : secondN (lvs f H false) (lvs g H true) = true := h1.2.1
    have e2 : secondN (lvs f H false) (lvs f H true) = true := hs
    unfold batchesN
    rw [e1, e2]
    exact h2
theorem replace_cut {f : Tab} {H : Nat} {N : Int} {ps : List (List UInt8)} (h : LayOk f H N ps) (q : List (Int × Blk)) (picks : List Int) (hroom : ps.length ≤ H) (hc : Consec (startT H (!secondT f H)) q) (hq : q.map (·.2) <+: newBlks N ps) :
    ThereT (tear (q.zip picks) f) H ∧ Under (N + ps.length) (tear (q.zip picks) f) ∧ (batchesT (tear (q.zip picks) f) H = batchesT f H ∨ batchesT (tear (q.zip picks) f) H = [ps.flatten]) := by
  have hql := prefix_len hq
  have hover := over_tear ps N (startT H (!secondT f H)) H q picks f hroom hc hq h.under h.pos h.top h.cut
  have hut := under_tear ps N q picks f hq h.under h.pos h.top h.cut
  have hout := fun p hp => tear_out q picks (startT H (!secondT f H)) p f hc hp
  generalize tear (q.zip picks) f = g at *
  have ht : ThereN (lvs f H false) (lvs f H true) := h.there
  cases hs : secondT f H with
  | false =>
    rw [hs] at hover hout
    have hoth : lvs g H false = lvs f H false := lvs_same fun p h1 h2 => hout p (.inl (by simp [startT] at h2 ⊢; omega))
    have := replace_second ht hs (h.under.small _ _) (h.under.small _ _) h.parts h.pos (r := lvs g H true) hover
    unfold ThereT batchesT
    rw [hoth]
    exact ⟨this.1, hut, this.2⟩
  | true =>
    rw [hs] at hover hout
    have hoth : lvs g H true = lvs f H true := lvs_same fun p h1 h2 => hout p (.inr (by simp [startT] at h1 ⊢; omega))
    have := replace_first (r := lvs g H false) hs (h.under.small _ _) (h.under.small _ _) h.parts h.pos hover
    unfold ThereT batchesT
    rw [hoth]
    exact ⟨this.1, hut, this.2⟩
theorem replace_ok {f : Tab} {H : Nat} {N : Int} {ps : List (List UInt8)} (h : LayOk f H N ps) (q : List (Int × Blk)) (hroom : ps.length ≤ H) (hc : Consec (startT H (!secondT f H)) q) (hq : q.map (·.2) = newBlks N ps) :
    ThereT (lay q f) H ∧ Under (N + ps.length) (lay q f) ∧ batchesT (lay q f) H = [ps.flatten] := by
  have hql : q.length = ps.length := by have := congrArg List.length hq; rwa [List.length_map, newBlks_len] at this
  have hnew := lay_new ps N (startT H (!secondT f H)) H q f hroom hc hq h.pos h.top h.cut
  have hut := under_lay ps N q f (by rw [hq]; exact List.prefix_refl _) h.under h.pos h.top h.cut
  have hout := fun p hp => lay_out q (startT H (!secondT f H)) p f hc hp
  generalize lay q f = g at *
  have ht : ThereN (lvs f H false) (lvs f H true) := h.there
  cases hs : secondT f H with
  | false =>
    rw [hs] at hnew hout
    have hoth : lvs g H false = lvs f H false := lvs_same fun p h1 h2 => hout p (.inl (by simp [startT] at h2 ⊢; omega))
    have hd : lvs g H true = newL N ps ++ (lvs f H true).drop ps.length := hnew
    have hr := replace_done (ls := lvs f H true) (h.under.small _ _) h.parts h.pos
    rw [← hd] at hr
    have hlt := begin_lt (h.under.small (startT H false) H) h.pos
    have hsec : secondN (lvs f H false) (lvs g H true) = true := by unfold secondN; rw [hr.2]; exact decide_eq_true hlt
    unfold ThereT batchesT batchesN
    rw [hoth, hsec]
    exact ⟨.inr (by rw [hr.1]; simp), hut, hr.1⟩
  | true =>
    rw [hs] at hnew hout
    have hoth : lvs g H true = lvs f H true := lvs_same fun p h1 h2 => hout p (.inr (by simp [startT] at h1 ⊢; omega))
    have hd : lvs g H false = newL N ps ++ (lvs f H false).drop ps.length := hnew
    have hr := replace_done (ls := lvs f H false) (h.under.small _ _) h.parts h.pos
    rw [← hd] at hr
    have hlt := begin_lt (h.under.small (startT H true) H) h.pos
    have hsec : secondN (lvs g H false) (lvs f H true) = false := by
      unfold secondN
      rw [hr.2]
      have : beginN (lvs f H true) < N := hlt
      simp
      omega
    unfold ThereT batchesT batchesN
    rw [hoth, hsec]
    exact ⟨.inl (by rw [hr.1]; simp), hut, hr.1⟩
end Go.Proofs.YtfgbpinfplllgaaGreatDoor
namespace Go.Proofs.YtfgbpinfplllgaaGreatDoor
set_option maxRecDepth 100000
def cutFrom : Nat → List UInt8 → List (List UInt8)
  | 0, b => [b]
  | f + 1, b => if b.length ≤ 42 then [b] else b.take 42 :: cutFrom f (b.drop 42)
def partsOf (b : List UInt8) : List (List UInt8) := cutFrom b.length b
theorem cutFrom_flatten : ∀ (f : Nat) (b : List UInt8), (cutFrom f b).flatten = b
  | 0, b => by simp [cutFrom]
  | f + 1, b => by
    rw [cutFrom]
    split
    · simp
    · rw [List.flatten_cons, cutFrom_flatten f, List.take_append_drop]
theorem cutFrom_cons (f : Nat) (b : List UInt8) : ∃ p ps, cutFrom f b = p :: ps := by
  cases f with
  | zero => exact ⟨_, _, rfl⟩
  | succ f =>
    rw [cutFrom]
    split
    · exact ⟨_, _, rfl⟩
    · exact ⟨_, _, rfl⟩
theorem cutFrom_cut : ∀ (f : Nat) (b : List UInt8), b.length ≤ 42 * (f + 1) → Cut42 (cutFrom f b)
  | 0, b, h => by simpa [cutFrom, Cut42] using h
  | f + 1, b, h => by
    rw [cutFrom]
    split
    · assumption
    · rename_i h42
      have ih := cutFrom_cut f (b.drop 42) (by rw [List.length_drop]; omega)
      obtain ⟨p, ps, e⟩ := cutFrom_cons f (b.drop 42)
      rw [e] at ih ⊢
      exact ⟨by rw [List.length_take]; omega, ih⟩
theorem cutFrom_some : ∀ (f : Nat) (b : List UInt8), b ≠ [] → ∀ p ∈ cutFrom f b, p ≠ []
  | 0, b, hb, p, hp => by
    rw [cutFrom] at hp
    rw [List.mem_singleton.1 hp]
    exact hb
  | f + 1, b, hb, p, hp => by
    rw [cutFrom] at hp
    split at hp
    · rw [List.mem_singleton.1 hp]
      exact hb
    · rename_i h42
      rcases List.mem_cons.1 hp with rfl | hp
      · intro e
        have := congrArg List.length e
        rw [List.length_take, List.length_nil] at this
        omega
      · refine cutFrom_some f (b.drop 42) ?_ p hp
        intro e
        have := congrArg List.length e
        rw [List.length_drop, List.length_nil] at this
        omega
theorem cutFrom_len : ∀ (f : Nat) (b : List UInt8), b.length ≤ 42 * (f + 1) → (cutFrom f b).length = max ((b.length + 41) / 42) 1
  | 0, b, h => by simp [cutFrom]; omega
  | f + 1, b, h => by
    rw [cutFrom]
    split
    · simp; omega
    · rename_i h42
      rw [List.length_cons, cutFrom_len f (b.drop 42) (by rw [List.length_drop]; omega), List.length_drop]
      omega
theorem parts_flatten (b : List UInt8) : (partsOf b).flatten = b := cutFrom_flatten _ _
theorem parts_cut (b : List UInt8) : Cut42 (partsOf b) := cutFrom_cut _ _ (by omega)
theorem parts_len (b : List UInt8) : (partsOf b).length = max ((b.length + 41) / 42) 1 := cutFrom_len _ _ (by omega)
theorem parts_ok (b : List UInt8) : PartsOk (partsOf b) := by
  obtain ⟨p, ps, e⟩ := cutFrom_cons b.length b
  refine ⟨by unfold partsOf; rw [e]; simp, ?_⟩
  by_cases hb : b = []
  · subst hb
    exact .inl rfl
  · exact .inr (cutFrom_some _ _ hb)
def nextTo (f : Tab) : Nat → Int
  | 0 => 0
  | k + 1 => max (nextTo f k) (greatest (tell f (k : Int)))
def nextT (f : Tab) (D : Nat) : Int := nextTo f D + 1
theorem nextTo_nonneg (f : Tab) : ∀ k, 0 ≤ nextTo f k
  | 0 => Int.le_refl _
  | k + 1 => Int.le_trans (nextTo_nonneg f k) (Int.le_max_left _ _)
theorem nextTo_ge (f : Tab) : ∀ (k i : Nat), i < k → greatest (tell f (i : Int)) ≤ nextTo f k
  | 0, i, h => by omega
  | k + 1, i, h => by
    rw [nextTo]
    by_cases e : i = k
    · subst e; exact Int.le_max_right _ _
    · exact Int.le_trans (nextTo_ge f k i (by omega)) (Int.le_max_left _ _)
theorem nextTo_le (f : Tab) (M : Int) (hM : 0 ≤ M) : ∀ k : Nat, (∀ i : Nat, i < k → greatest (tell f (i : Int)) ≤ M) → nextTo f k ≤ M
  | 0, _ => hM
  | k + 1, h => by
    rw [nextTo]
    have h1 := nextTo_le f M hM k fun i hi => h i (by omega)
    have h2 := h k (by omega)
    rw [Int.max_def]
    split <;> assumption
def Within (f : Tab) (D : Nat) : Prop := ∀ p, (tell f p).length = 64 ∧ (p < 0 ∨ (D : Int) ≤ p → tell f p = zb)
theorem greatest_zb : greatest zb = 0 := by decide +kernel
theorem next_under {f : Tab} {D : Nat} (h : Within f D) : Under (nextT f D) f ∧ 0 < nextT f D := by
  have h0 := nextTo_nonneg f D
  refine ⟨fun p => ⟨(h p).1, ?_⟩, by unfold nextT; omega⟩
  rw [tags_greatest]
  unfold nextT
  by_cases hp : p < 0 ∨ (D : Int) ≤ p
  · rw [(h p).2 hp, greatest_zb]
    omega
  · obtain ⟨i, rfl⟩ := Int.eq_ofNat_of_zero_le (show 0 ≤ p by omega)
    have := nextTo_ge f D i (by omega)
    omega
theorem under_next {f : Tab} {D : Nat} {N : Int} (h : Under N f) (hN : 0 < N) : nextT f D ≤ N := by
  have := nextTo_le f (N - 1) (by omega) D fun i _ => by
    have := tags_greatest.1 (h (i : Int)).2
    omega
  unfold nextT
  omega
end Go.Proofs.YtfgbpinfplllgaaGreatDoor
