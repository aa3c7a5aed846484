/- Sealed blocks as plain data: numbers of quarters, what stands behind them, what is laid, what is told. No program. -/
import Derived.Test.YtlhbipommhljiaaNRef
import Derived.Test.YtlhbipommhljiaaS2
import Derived.Test.YtlhbipommhljiaaDiskPlain
namespace Go.Proofs.Ytlhbipommhljiaa
set_option linter.unusedVariables false

/-- n bytes by a function -/
def mk (n : Nat) (f : Nat → UInt8) : List UInt8 := (List.range n).map f
theorem mk_len (n : Nat) (f : Nat → UInt8) : (mk n f).length = n := by simp [mk]
theorem mk_get (n : Nat) (f : Nat → UInt8) (i : Nat) (h : i < n) : (mk n f)[i]? = some (f i) := by simp [mk, h]
theorem mk_getD (n : Nat) (f : Nat → UInt8) (i : Nat) (h : i < n) : (mk n f).getD i 0 = f i := by simp [mk, h]
theorem list_mk (l : List UInt8) : l = mk l.length (fun i => l.getD i 0) := by
  refine List.ext_getElem (by rw [mk_len]) fun i h1 h2 => ?_
  simp [mk, List.getElem?_eq_getElem h1]
theorem ex_mk {n : Nat} {l : List UInt8} (h : l.length = n) : ∃ f, l = mk n f := ⟨fun i => l.getD i 0, by subst h; exact list_mk l⟩
theorem mk_congr {n : Nat} {f g : Nat → UInt8} (h : ∀ i, i < n → f i = g i) : mk n f = mk n g := List.map_congr_left fun i hi => h i (by simpa using hi)
theorem mk_inj {n : Nat} {f g : Nat → UInt8} (h : mk n f = mk n g) (i : Nat) (hi : i < n) : f i = g i := by
  have := congrArg (fun l : List UInt8 => l.getD i 0) h
  simpa only [mk_getD n f i hi, mk_getD n g i hi] using this

/-- laid over a list from o on -/
def layAt (b : List UInt8) (o : Nat) (l : List UInt8) : List UInt8 := b.take o ++ l ++ b.drop (o + l.length)
theorem layAt_len (b : List UInt8) (o : Nat) (l : List UInt8) (h : o + l.length ≤ b.length) : (layAt b o l).length = b.length := by simp [layAt]; omega

/-- the number that 4 bytes tell -/
def num4 (l : List UInt8) : Int := beSum (seg l 0 4)
theorem num4_bd (l : List UInt8) : 0 ≤ num4 l ∧ num4 l < 4294967296 := by
  have := beSum_bd l 0 4
  unfold num4
  omega
/-- the piece of a block -/
def cutOf (x : Blk) (q : Nat) : List UInt8 := (x.drop (16 * q + 4)).take 12
def tag (x : Blk) (q : Nat) : Int := num4 ((x.drop (16 * q)).take 4)
theorem tag_bd (x : Blk) (q : Nat) : 0 ≤ tag x q ∧ tag x q < 4294967296 := num4_bd _
theorem byteAt_cut (l : List UInt8) (o k j : Nat) (hj : j < k) : byteAt ((l.drop o).take k) j = byteAt l (o + j) := by
  simp [byteAt, hj]
theorem seg_cut (l : List UInt8) (o k : Nat) : seg ((l.drop o).take k) 0 k = seg l o k := by
  unfold seg
  refine List.map_congr_left fun j hj => ?_
  rw [Nat.zero_add]
  exact byteAt_cut l o k j (by simpa using hj)
theorem tag_seg (x : Blk) (q : Nat) : tag x q = beSum (seg x (16 * q) 4) := by
  unfold tag num4
  rw [seg_cut]
def inner (x : Blk) : List UInt8 := cutOf x 0 ++ cutOf x 1 ++ cutOf x 2 ++ cutOf x 3
theorem inner_len (x : Blk) (h : x.length = 64) : (inner x).length = 48 := by simp [inner, cutOf, h]
/-- the sum of a number and a body -/
def sumN (n : Int) (b : List UInt8) : Nat := moreN (ofN (beL n 4)) b
theorem sumN_lt (n : Int) (b : List UInt8) : sumN n b < 4294967296 := moreN_lt _ _ (moreN_lt _ _ (by decide))
def greatest (x : Blk) : Int := max (max (max (tag x 0) (tag x 1)) (tag x 2)) (tag x 3)
theorem greatest_bd (x : Blk) : 0 ≤ greatest x ∧ greatest x < 4294967296 := by
  have h0 := tag_bd x 0
  have h1 := tag_bd x 1
  have h2 := tag_bd x 2
  have h3 := tag_bd x 3
  unfold greatest
  omega
/-- does each quarter bear that number? -/
def isOfB (x : Blk) (n : Int) : Bool := (tag x 0 == n) && (tag x 1 == n) && (tag x 2 == n) && (tag x 3 == n)
def formed (x : Blk) : Bool := !(tag x 0 == 0) && isOfB x (tag x 0)
theorem greatest_is (x : Blk) : (tag x 0 ≤ greatest x ∧ tag x 1 ≤ greatest x ∧ tag x 2 ≤ greatest x ∧ tag x 3 ≤ greatest x) ∧ (greatest x = tag x 0 ∨ greatest x = tag x 1 ∨ greatest x = tag x 2 ∨ greatest x = tag x 3) := by
  unfold greatest
  rw [Int.max_def, Int.max_def, Int.max_def]
  repeat' split
  all_goals omega
theorem formed_greatest (x : Blk) : formed x = (!(greatest x == 0) && isOfB x (greatest x)) := by
  have h0 := tag_bd x 0
  have h1 := tag_bd x 1
  have h2 := tag_bd x 2
  have h3 := tag_bd x 3
  rw [Bool.eq_iff_iff]
  simp only [formed, isOfB, Bool.and_eq_true, Bool.not_eq_true', beq_eq_false_iff_ne, beq_iff_eq]
  have h4 := greatest_is x
  constructor
  · rintro ⟨a0, ⟨⟨-, a1⟩, a2⟩, a3⟩
    have e : greatest x = tag x 0 := by omega
    rw [e]
    exact ⟨a0, ⟨⟨rfl, a1⟩, a2⟩, a3⟩
  · rintro ⟨a0, ⟨⟨b0, a1⟩, a2⟩, a3⟩
    rw [← b0] at a0 a1 a2 a3
    exact ⟨a0, ⟨⟨trivial, a1⟩, a2⟩, a3⟩
theorem formed_of {x : Blk} (h : formed x = true) : greatest x = tag x 0 ∧ tag x 0 ≠ 0 ∧ tag x 1 = tag x 0 ∧ tag x 2 = tag x 0 ∧ tag x 3 = tag x 0 := by
  simp only [formed, isOfB, Bool.and_eq_true, Bool.not_eq_true', beq_eq_false_iff_ne, beq_iff_eq] at h
  have h0 := tag_bd x 0
  have h4 := greatest_is x
  omega
def bodyOf (x : Blk) : List UInt8 := (inner x).take 44
theorem bodyOf_len (x : Blk) (h : x.length = 64) : (bodyOf x).length = 44 := by simp [bodyOf, inner_len x h]
def lastOf (x : Blk) : Int := num4 ((inner x).drop 44)
/-- what Get answers: its error -/
def getE (x : Blk) : Int := if formed x then (if lastOf x = (sumN (tag x 0) (bodyOf x) : Int) then 0 else 6) else 5
/-- what Put answers -/
def fullOf (b : List UInt8) : List UInt8 := b ++ List.replicate (44 - b.length) 0
theorem fullOf_len (b : List UInt8) (h : b.length ≤ 44) : (fullOf b).length = 44 := by simp [fullOf]; omega
def allOf (n : Int) (b : List UInt8) : List UInt8 := fullOf b ++ beL (sumN n (fullOf b)) 4
theorem allOf_len (n : Int) (b : List UInt8) (h : b.length ≤ 44) : (allOf n b).length = 48 := by simp [allOf, fullOf_len b h, beL_length]
def putTo (h all : List UInt8) : Nat → Blk
  | 0 => zb
  | q + 1 => layAt (layAt (putTo h all q) (16 * q) h) (16 * q + 4) ((all.drop (12 * q)).take 12)
theorem putTo_zero (h all : List UInt8) : putTo h all 0 = zb := rfl
theorem putTo_succ (h all : List UInt8) (q : Nat) : putTo h all (q + 1) = layAt (layAt (putTo h all q) (16 * q) h) (16 * q + 4) ((all.drop (12 * q)).take 12) := rfl
theorem putTo_len (h all : List UInt8) (hh : h.length = 4) (ha : all.length = 48) : ∀ q, q ≤ 4 → (putTo h all q).length = 64
  | 0, _ => zb_len
  | q + 1, hq => by
    have ih := putTo_len h all hh ha q (by omega)
    have h1 : (layAt (putTo h all q) (16 * q) h).length = 64 := by rw [layAt_len _ _ _ (by rw [hh, ih]; omega), ih]
    rw [putTo_succ, layAt_len _ _ _ (by simp [h1, ha]; omega), h1]
def putN (n : Int) (b : List UInt8) : Blk := putTo (beL n 4) (allOf n b) 4
def putE (n : Int) (b : List UInt8) : Int := if 44 < b.length then 3 else if n = 0 then 2 else 0
def putB (n : Int) (b : List UInt8) : Blk := if putE n b = 0 then putN n b else zb
theorem putN_len (n : Int) (b : List UInt8) (h : b.length ≤ 44) : (putN n b).length = 64 := putTo_len _ _ (beL_length _ _) (allOf_len _ _ h) 4 (by decide)
theorem putB_len (n : Int) (b : List UInt8) : (putB n b).length = 64 := by
  unfold putB
  split
  · rename_i h
    refine putN_len n b ?_
    unfold putE at h
    split at h
    · cases h
    · omega
  · exact zb_len

/-- byte i of a block that is put -/
def laidAt (h a : Nat → UInt8) (i : Nat) : UInt8 := if i % 16 < 4 then h (i % 16) else a (i / 16 * 12 + i % 16 - 4)
theorem putTo_mk (h a : Nat → UInt8) : putTo (mk 4 h) (mk 48 a) 4 = mk 64 (laidAt h a) := by kernel_rfl
theorem inner_mk (x : Nat → UInt8) : inner (mk 64 x) = mk 48 fun j => x (j / 12 * 16 + j % 12 + 4) := by rfl
theorem head_mk (x : Nat → UInt8) (q : Nat) (hq : q < 4) : ((mk 64 x).drop (16 * q)).take 4 = mk 4 fun j => x (16 * q + j) := by
  rcases (show q = 0 ∨ q = 1 ∨ q = 2 ∨ q = 3 by omega) with rfl | rfl | rfl | rfl <;> rfl

end Go.Proofs.Ytlhbipommhljiaa
