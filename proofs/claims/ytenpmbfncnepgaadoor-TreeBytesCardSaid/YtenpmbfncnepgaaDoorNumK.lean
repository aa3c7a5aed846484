/- NumK: NBwd N1 NLen NPut NGet NRef NPad NZero S1 S2. -/
import Derived.Laws.BitsAllLaws
import Derived.Laws.Externs
import Derived.LoopIn
import Derived.LoopNIn
import Derived.OwnWalkIn
import Derived.RangeFuncBound
import Derived.RangeFuncBox
import Derived.RangeFuncCalls
import Derived.RangeFuncLeaves
import Derived.RangeFuncNested
import Derived.Shelf.Abstract
import Derived.Shelf.RegionOpen
import Derived.Shelf.Strconv.Itoa0
import Derived.TacticsInMore
import Derived.Test.YtenpmbfncnepgaaDoorWordsK
import Derived.WalkKit
/- slices.Backward over bytes: the iterator, place by place, from the last one down. -/
namespace Go.Proofs.YtenpmbfncnepgaaDoor
open Go.RowKit Go.Shelf
set_option linter.unusedVariables false
set_option maxRecDepth 100000
attribute [local go_sem] Oper.semAt_some

/-- What a round is handed: a place below len, and a byte of which V holds there. -/
abbrev El (V : Nat → Int → Prop) (len : Nat) := { p : Nat × Int // p.1 < len ∧ V p.1 p.2 }
def encEl {V : Nat → Int → Prop} {len : Nat} (x : El V len) : Array Value := #[.int .i64 (x.1.1 : Int), .int .u8 x.1.2]
/-- The bytes that stand from off on in block b: V holds of each. -/
def Holds (V : Nat → Int → Prop) (b off len : Nat) (W : World) : Prop := ∀ j, j < len → ∃ v, V j v ∧ W.cell? ⟨b, off + j, none⟩ = some (.int .u8 v)
/-- What a round that goes on keeps: the boxed slice, and that V holds of each byte. -/
def Keeps (V : Nat → Int → Prop) (Bs : Nat) (sv : Value) (b off len : Nat) (A B : World) : Prop :=
  (A.cell? ⟨Bs, 0, none⟩ = some sv → B.cell? ⟨Bs, 0, none⟩ = some sv) ∧ (∀ j, j < len → (∃ v, V j v ∧ A.cell? ⟨b, off + j, none⟩ = some (.int .u8 v)) → ∃ v, V j v ∧ B.cell? ⟨b, off + j, none⟩ = some (.int .u8 v))
def Down {V : Nat → Int → Prop} {len : Nat} (k : Nat) (pre : List (El V len)) : Prop := pre.map (fun x => x.1.1) ++ (List.range k).reverse = (List.range len).reverse
theorem Down.length {V : Nat → Int → Prop} {len k : Nat} {pre : List (El V len)} (h : Down k pre) : pre.length + k = len := by
  have := congrArg List.length h
  simpa using this
theorem Down.next {V : Nat → Int → Prop} {len k : Nat} {pre : List (El V len)} (h : Down (k + 1) pre) (x : El V len) (hx : x.1.1 = k) : Down k (pre ++ [x]) := by
  unfold Down at h ⊢
  rw [← h, List.range_succ]
  simp [hx]
end Go.Proofs.YtenpmbfncnepgaaDoor

/- The leaves of package num: sizes, places. -/
namespace Go.Proofs.YtenpmbfncnepgaaDoor
open Go.RowKit Go.Shelf
set_option linter.unusedVariables false
set_option maxRecDepth 100000

/-- is it a size? -/
def sizeB (s : Int) : Bool := s == 1 || s == 2 || s == 4 || s == 8
/-- is it a place of a list of that length? -/
def placeB (n : Nat) (at' : Int) : Bool := decide (0 ≤ at') && decide (at' ≤ (n : Int))
end Go.Proofs.YtenpmbfncnepgaaDoor

/- math/bits.Len64 by the shelf; fits. -/
namespace Go.Proofs.YtenpmbfncnepgaaDoor
open Go.RowKit Go.Shelf
set_option linter.unusedVariables false
set_option maxRecDepth 100000

theorem bitLenAux_le : ∀ (f x : Nat), Lib.bitLenAux f x ≤ f
  | 0, x => by simp [Lib.bitLenAux]
  | f + 1, x => by
    simp only [Lib.bitLenAux]
    split
    · omega
    · have := bitLenAux_le f (x / 2); omega
theorem bitLen_le_iff (k x : Nat) (hk : k ≤ 64) (hx : x < 2 ^ 64) : Lib.bitLen x ≤ k ↔ x < 2 ^ k := by
  constructor
  · intro h
    apply Nat.lt_of_not_le
    intro h2
    have e := Lib.bitLen_shift k x h2 hx
    have h0 : x / 2 ^ k ≠ 0 := by
      have : 0 < 2 ^ k := Nat.two_pow_pos k
      have := Nat.div_pos h2 this
      omega
    have hlt : x / 2 ^ k < 2 ^ 64 := Nat.lt_of_le_of_lt (Nat.div_le_self _ _) hx
    have e2 := Lib.bitLen_half (x / 2 ^ k) h0 hlt
    omega
  · intro h
    have e := Lib.bitLenAux_fuel k x h 64 hk
    unfold Lib.bitLen
    rw [e]
    exact bitLenAux_le k x
/-- the least number that a size does not hold -/
def lim (s : Int) : Int := if s = 1 then 256 else if s = 2 then 65536 else if s = 4 then 4294967296 else 18446744073709551616
def fitsB (n s : Int) : Bool := decide (n < lim s)
end Go.Proofs.YtenpmbfncnepgaaDoor

/- num.Put: the bytes of a number. -/
namespace Go.Proofs.YtenpmbfncnepgaaDoor
open Go.RowKit Go.Shelf
set_option linter.unusedVariables false
set_option maxRecDepth 100000
attribute [local go_sem] Oper.semAt_some

theorem keeps_t {V : Nat → Int → Prop} {Bs : Nat} {sv : Value} {b off len : Nat} {A B C : World} (h : Keeps V Bs sv b off len A B) (k : Keeps V Bs sv b off len B C) : Keeps V Bs sv b off len A C :=
  ⟨fun x => k.1 (h.1 x), fun j hj x => k.2 j hj (h.2 j hj x)⟩
theorem keeps_b {V : Nat → Int → Prop} {Bs : Nat} {sv : Value} {b off len : Nat} {w : World} (W : World) (l : Nat) (o o' : Obj) (_ : w.heap.size ≤ l) (h : W.heap[l]? = some o) (hc : o.isCells = false) (_ : o.isWalk = false) : Keeps V Bs sv b off len W (W.putObj l o') :=
  ⟨fun x => cell_kept x (grownBy_putObj' W l o') (fun r e => by cases e; exact ⟨_, h, hc⟩), fun j _ ⟨v, hv, x⟩ => ⟨v, hv, cell_kept x (grownBy_putObj' W l o') (fun r e => by cases e; exact ⟨_, h, hc⟩)⟩⟩
/-- k bytes of 0 -/
def zeros (k : Nat) : Array Value := Array.replicate k (.int .u8 0)
/-- what a round does: the lowest byte goes to place i, the others come down. -/
def putStep (st : Int × Array Value) (i : Nat) : Int × Array Value := (st.1 / 256, st.2.setIfInBounds i (.int .u8 (st.1 % 256)))
def putSt (x : Int) (k : Nat) (l : List Nat) : Int × Array Value := l.foldl putStep (x, zeros k)
theorem putSt_snoc (x : Int) (k : Nat) (l : List Nat) (i : Nat) : putSt x k (l ++ [i]) = putStep (putSt x k l) i := by simp [putSt]
theorem putStep_fold (x : Int) (k : Nat) (P : Int × Array Value → Prop) (hs : ∀ st i, P st → P (putStep st i)) : ∀ (l : List Nat) (st : Int × Array Value), P st → P (l.foldl putStep st)
  | [], st, h => h
  | i :: l, st, h => putStep_fold x k P hs l (putStep st i) (hs st i h)
theorem putSt_bd (x : Int) (k : Nat) (hx : 0 ≤ x) (hx' : x ≤ 18446744073709551615) (l : List Nat) : 0 ≤ (putSt x k l).1 ∧ (putSt x k l).1 ≤ 18446744073709551615 :=
  putStep_fold x k (fun st => 0 ≤ st.1 ∧ st.1 ≤ 18446744073709551615) (fun st i h => by simp only [putStep]; omega) l _ ⟨hx, hx'⟩
theorem putSt_size (x : Int) (k : Nat) (l : List Nat) : (putSt x k l).2.size = k :=
  putStep_fold x k (fun st => st.2.size = k) (fun st i h => by simp [putStep, h]) l _ (by simp [zeros])
theorem putSt_u8 (x : Int) (k : Nat) (l : List Nat) (j : Nat) : j < k → ∃ v, (putSt x k l).2[j]? = some (.int .u8 v) :=
  putStep_fold x k (fun st => j < k → ∃ v, st.2[j]? = some (.int .u8 v)) (fun st i h hj => by
    obtain ⟨v, hv⟩ := h hj
    have hlt : j < st.2.size := by
      rcases Nat.lt_or_ge j st.2.size with h1 | h1
      · exact h1
      · rw [Array.getElem?_eq_none h1] at hv; cases hv
    simp only [putStep, Array.getElem?_setIfInBounds]
    split
    · rename_i e
      subst e
      rw [if_pos hlt]
      exact ⟨_, rfl⟩
    · exact ⟨v, hv⟩) l _ (fun hj => ⟨0, by simp [zeros, hj]⟩)
theorem mk_zeros (k : Nat) (hk : k ≤ 8) (W : World) : (Instr.makeSlice 26 (.int .i64 (k : Int)) (.int .i64 (k : Int))).run Tryd.prog W = .ok (.slice (some ⟨W.heap.size, 0, none⟩) k k) (W.alloc (.cells (zeros k) 5)) := by
  obtain ⟨i0, hi, hz0, hz1, hz2⟩ := info_parts (show (Tryd.prog.info? 5).map (fun i => (i.zero, i.size, i.bytes)) = some (some (.int .u8 0), 1, 1) by kernel_rfl)
  have h := run_make (P := Tryd.prog) W 26 5 i0 (.int .u8 0) Tryd.underlying26 hi hz0 .i64 .i64 (k : Int) (k : Int) (by omega) (Int.le_refl _) (by rw [hz2]; omega) (by omega)
  rw [h, hz1]
  simp only [Int.toNat_natCast, Nat.mul_one]
  congr 3
  apply Array.ext
  · simp [zeros, size_madeCells]
  · intro j h1 h2
    simp [madeCells, zeros, Value.cells, Nat.mod_one]
/-- the bytes of x in k places -/
def beArr (x : Int) (k : Nat) : Array Value := (putSt x k (List.range k).reverse).2
/-- what a round of Put holds: the number's box, the slice's, and the bytes -/
def PutI (w : World) (x : Int) (k : Nat) (l : List Nat) (W : World) : Prop :=
  (Cs W w.heap.size 25 #[.int .u64 (putSt x k l).1] ∧ Cs W (w.heap.size + 1) 5 (putSt x k l).2 ∧ Cs W (w.heap.size + 1 + 1) 26 #[.slice (some ⟨w.heap.size + 1, 0, none⟩) k k]
    ∧ Cs W (w.heap.size + 1 + 1 + 1) 26 #[.slice (some ⟨w.heap.size + 1, 0, none⟩) k k]) ∧ Below w.heap.size w W
theorem putI_own (w : World) (x : Int) (k B : Nat) {β : Type} (f : β → List Nat) (hB : w.heap.size ≤ B) : OwnFrom B (fun s W => PutI w x k (f s) W) :=
  OwnFrom.and (OwnFrom.and ((cs_own _ _ _).from _) (OwnFrom.and ((cs_own _ _ _).from _) (OwnFrom.and ((cs_own _ _ (fun _ => _)).from _) ((cs_own _ _ (fun _ => _)).from _)))) (ownFrom_below (Nat.le_refl _) hB)
end Go.Proofs.YtenpmbfncnepgaaDoor

/- num.Get: the number of bytes. -/
namespace Go.Proofs.YtenpmbfncnepgaaDoor
open Go.RowKit Go.Shelf
set_option linter.unusedVariables false
set_option maxRecDepth 100000
attribute [local go_sem] Oper.semAt_some

/-- what a round of Get does: (the number so far, the number of rounds) -/
def getStep (st : Int × Nat) (v : Int) : Int × Nat := (st.1 + v * 256 ^ st.2, st.2 + 1)
def getSt (l : List Int) : Int × Nat := l.foldl getStep (0, 0)
theorem getSt_snoc (l : List Int) (v : Int) : getSt (l ++ [v]) = getStep (getSt l) v := by simp [getSt]
/-- byte j of l -/
def byteAt (l : List UInt8) (j : Nat) : Int := ((l.getD j 0).toNat : Int)
theorem byteAt_le (l : List UInt8) (j : Nat) : byteAt l j ≤ 255 := by
  unfold byteAt
  have := (l.getD j 0).toNat_lt
  omega
theorem getSt_bd (l : List Int) (hl : ∀ v ∈ l, 0 ≤ v ∧ v ≤ 255) : 0 ≤ (getSt l).1 ∧ (getSt l).1 < 256 ^ (getSt l).2 := by
  have : ∀ (l : List Int) (st : Int × Nat), (∀ v ∈ l, 0 ≤ v ∧ v ≤ 255) → (0 ≤ st.1 ∧ st.1 < 256 ^ st.2) → 0 ≤ (l.foldl getStep st).1 ∧ (l.foldl getStep st).1 < 256 ^ (l.foldl getStep st).2 := by
    intro l
    induction l with
    | nil => intro st _ h; exact h
    | cons v l ih =>
      intro st hl h
      rw [List.foldl_cons]
      refine ih _ (fun u hu => hl u (List.mem_cons_of_mem _ hu)) ?_
      have hv := hl v List.mem_cons_self
      simp only [getStep, Int.pow_succ]
      generalize (256 : Int) ^ st.2 = P at *
      have h1 : 0 ≤ v * P := Int.mul_nonneg hv.1 (by omega)
      have h2 : v * P ≤ 255 * P := Int.mul_le_mul_of_nonneg_right hv.2 (by omega)
      omega
  exact this l (0, 0) hl (by simp)
theorem getSt_length (l : List Int) : (getSt l).2 = l.length := by
  have : ∀ (l : List Int) (st : Int × Nat), (l.foldl getStep st).2 = st.2 + l.length := by
    intro l
    induction l with
    | nil => intro st; rfl
    | cons v l ih => intro st; rw [List.foldl_cons, ih]; simp [getStep]; omega
  simpa [getSt] using this l (0, 0)
/-- a number below 256 to the p, and a byte p bytes higher -/
theorem or_sum (m v : Int) (p : Nat) (h0 : 0 ≤ m) (h1 : m < 256 ^ p) (v0 : 0 ≤ v) (v1 : v ≤ 255) (hp : p ≤ 7) : bits BinOp.or IntKind.u64 m (IntKind.u64.wrap (v * 2 ^ (8 * p))) = m + v * 256 ^ p := by
  obtain ⟨m, rfl⟩ := Int.eq_ofNat_of_zero_le h0
  obtain ⟨v, rfl⟩ := Int.eq_ofNat_of_zero_le v0
  have e : (256 : Nat) ^ p = 2 ^ (8 * p) := by rw [Nat.pow_mul]
  have hm : m < 2 ^ (8 * p) := by
    have h1' : ((m : Nat) : Int) < ((256 ^ p : Nat) : Int) := by rw [Int.natCast_pow]; exact h1
    rw [← e]; omega
  have hv : v < 256 := by omega
  have hP : (2 : Nat) ^ (8 * p) ≤ 2 ^ 56 := Nat.pow_le_pow_right (by decide) (by omega)
  have hprod : v * 2 ^ (8 * p) ≤ 255 * 2 ^ 56 := Nat.mul_le_mul (by omega) hP
  have c1 : ((v : Int) * 2 ^ (8 * p)) = ((v * 2 ^ (8 * p) : Nat) : Int) := by rw [Int.natCast_mul, Int.natCast_pow]; rfl
  have c2 : ((v : Int) * 256 ^ p) = ((v * 2 ^ (8 * p) : Nat) : Int) := by rw [← e, Int.natCast_mul, Int.natCast_pow]; rfl
  rw [c1, c2]
  generalize hQ : v * 2 ^ (8 * p) = Q at *
  have w1 : IntKind.u64.wrap (Q : Int) = (Q : Int) := by
    rw [IntKind.wrap_u64]; omega
  rw [w1, u64_or_nat m Q (by omega) (by omega)]
  have h2 := Nat.two_pow_add_eq_or_of_lt hm v
  rw [Nat.mul_comm, hQ] at h2
  rw [Nat.or_comm, ← h2]
  omega
def GetI (w : World) (sv : Value) (l : List Int) (W : World) : Prop :=
  (Cs W w.heap.size 25 #[.int .u64 (getSt l).1] ∧ Cs W (w.heap.size + 1) 3 #[.int .i64 (8 * (getSt l).2 : Nat)] ∧ Cs W (w.heap.size + 1 + 1) 26 #[sv]) ∧ Below w.heap.size w W
theorem getI_own (w : World) (sv : Value) (B : Nat) {β : Type} (f : β → List Int) (hB : w.heap.size ≤ B) : OwnFrom B (fun s W => GetI w sv (f s) W) :=
  OwnFrom.and (OwnFrom.and ((cs_own _ _ (fun s => #[.int .u64 (getSt (f s)).1])).from _) (OwnFrom.and ((cs_own _ _ (fun s => #[.int .i64 (8 * (getSt (f s)).2 : Nat)])).from _) ((cs_own _ _ (fun _ => #[sv])).from _))) (ownFrom_below (Nat.le_refl _) hB)
/-- the world that a round of Get leaves -/
theorem get_round (w W : World) (l : List UInt8) (b off i k c' : Nat) (hb : b < w.heap.size) (pre : List (El (fun j v => v = byteAt l (i + j)) k)) (y : El (fun j v => v = byteAt l (i + j)) k) (m : Int)
    (hm : 0 ≤ m ∧ m < 256 ^ pre.length) (hv0 : 0 ≤ y.1.2) (hv1 : y.1.2 ≤ 255) (hp : pre.length ≤ 7)
    (hst : getSt (pre.map (fun x => x.1.2) ++ [y.1.2]) = getStep (m, pre.length) y.1.2)
    (h0 : Cs W w.heap.size 25 #[.int .u64 m]) (h1 : Cs W (w.heap.size + 1) 3 #[.int .i64 (8 * pre.length : Nat)]) (h2 : Cs W (w.heap.size + 1 + 1) 26 #[.slice (some ⟨b, off + i, none⟩) k c']) (hB : Below w.heap.size w W) :
    Keeps (fun j v => v = byteAt l (i + j)) (w.heap.size + 1 + 1) (.slice (some ⟨b, off + i, none⟩) k c') b (off + i) k W
      ((W.setCell ⟨w.heap.size, 0, none⟩ (.int .u64 (bits BinOp.or IntKind.u64 m (IntKind.u64.wrap (y.1.2 * 2 ^ (8 * pre.length)))))).setCell ⟨w.heap.size + 1, 0, none⟩ (.int .i64 (8 * (pre.length : Int) + 8))).drew ∧
    GetI w (.slice (some ⟨b, off + i, none⟩) k c') ((pre ++ [y]).map fun x => x.1.2)
      ((W.setCell ⟨w.heap.size, 0, none⟩ (.int .u64 (bits BinOp.or IntKind.u64 m (IntKind.u64.wrap (y.1.2 * 2 ^ (8 * pre.length)))))).setCell ⟨w.heap.size + 1, 0, none⟩ (.int .i64 (8 * (pre.length : Int) + 8))).drew := by
  rw [or_sum m y.1.2 pre.length hm.1 hm.2 hv0 hv1 hp]
  have d0 := (h0.set 0 (.int .u64 (m + y.1.2 * 256 ^ pre.length))).far (p := ⟨w.heap.size + 1, 0, none⟩) (by dsimp only; omega) (.int .i64 (8 * (pre.length : Int) + 8))
  have d1 := (h1.far (p := ⟨w.heap.size, 0, none⟩) (by dsimp only; omega) (.int .u64 (m + y.1.2 * 256 ^ pre.length))).set 0 (.int .i64 (8 * (pre.length : Int) + 8))
  have d2 := (h2.far (p := ⟨w.heap.size, 0, none⟩) (by dsimp only; omega) (.int .u64 (m + y.1.2 * 256 ^ pre.length))).far (p := ⟨w.heap.size + 1, 0, none⟩) (by dsimp only; omega) (.int .i64 (8 * (pre.length : Int) + 8))
  have hBW := (((Below.refl (w.heap.size) W).setCell (p := ⟨w.heap.size, 0, none⟩) (Nat.le_refl _) (.int .u64 (m + y.1.2 * 256 ^ pre.length))).setCell (p := ⟨w.heap.size + 1, 0, none⟩) (by dsimp only; omega) (.int .i64 (8 * (pre.length : Int) + 8))).drew
  refine ⟨⟨fun _ => d2.drew.cell 0 rfl, fun q hq hv => ?_⟩, ?_⟩
  · obtain ⟨v, hv, hcv⟩ := hv
    exact ⟨v, hv, (hBW.cell (p := ⟨b, off + i + q, none⟩) hb).trans hcv⟩
  · unfold GetI
    rw [List.map_append, List.map_cons, List.map_nil, hst]
    refine ⟨⟨d0, ?_, d2⟩, hB.trans hBW⟩
    have e : (8 * (pre.length : Int) + 8) = ((8 * (pre.length + 1) : Nat) : Int) := by omega
    rw [e] at d1 ⊢
    exact d1
end Go.Proofs.YtenpmbfncnepgaaDoor

/- num.Get as a whole, and its reference; what num.Put answers. -/
namespace Go.Proofs.YtenpmbfncnepgaaDoor
open Go.RowKit Go.Shelf
set_option linter.unusedVariables false
set_option maxRecDepth 100000

theorem byteAt_nonneg (l : List UInt8) (j : Nat) : 0 ≤ byteAt l j := by unfold byteAt; omega
theorem rd_cell {W : World} {b off : Nat} {l : List UInt8} (hc : ∀ j (h : j < l.length), W.cell? ⟨b, off + j, none⟩ = some (.int .u8 (l[j].toNat : Int))) (j : Nat) (h : j < l.length) : W.cell? ⟨b, off + j, none⟩ = some (.int .u8 (byteAt l j)) := by
  rw [hc j h]
  simp [byteAt, List.getElem?_eq_getElem h]
theorem place_iff {n : Nat} {i : Int} : placeB n i = true ↔ 0 ≤ i ∧ i ≤ (n : Int) := by simp [placeB]
/-- the number that bytes tell, the highest first -/
def beSum : List Int → Int
  | [] => 0
  | v :: l => v * 256 ^ l.length + beSum l
theorem beSum_snoc (l : List Int) (v : Int) : beSum (l ++ [v]) = 256 * beSum l + v := by
  induction l with
  | nil => simp [beSum]
  | cons u l ih =>
    simp only [List.cons_append, beSum, ih, List.length_append, List.length_cons, List.length_nil, Nat.zero_add]
    rw [Int.pow_succ, Int.mul_add, ← Int.mul_assoc u, Int.mul_comm (u * _) 256]
    omega
theorem getSt_rev (l : List Int) : (getSt l.reverse).1 = beSum l := by
  induction l with
  | nil => rfl
  | cons v l ih => rw [List.reverse_cons, getSt_snoc]; simp only [getStep, beSum, ih, getSt_length, List.length_reverse]; omega
/-- the k bytes of l from i on -/
def seg (l : List UInt8) (i k : Nat) : List Int := (List.range k).map fun j => byteAt l (i + j)
theorem seg_succ (l : List UInt8) (i k : Nat) : seg l i (k + 1) = seg l i k ++ [byteAt l (i + k)] := by simp [seg, List.range_succ]
theorem seg_length (l : List UInt8) (i k : Nat) : (seg l i k).length = k := by simp [seg]
theorem beSum_bd (l : List UInt8) (i k : Nat) : 0 ≤ beSum (seg l i k) ∧ beSum (seg l i k) < 256 ^ k := by
  induction k with
  | zero => simp [seg, beSum]
  | succ k ih =>
    rw [seg_succ, beSum_snoc, Int.pow_succ]
    have h1 := byteAt_nonneg l (i + k)
    have h2 := byteAt_le l (i + k)
    omega
theorem beSum_64 (l : List UInt8) (i k : Nat) (hk : k ≤ 8) : beSum (seg l i k) ≤ 18446744073709551615 := by
  have h := beSum_bd l i k
  have hP : (256 : Nat) ^ k ≤ 256 ^ 8 := Nat.pow_le_pow_right (by decide) hk
  have hc : ((256 ^ k : Nat) : Int) = 256 ^ k := Int.natCast_pow 256 k
  have h8 : (256 : Nat) ^ 8 = 18446744073709551616 := by decide
  omega
/-- what Get answers -/
def getV (l : List UInt8) (i s : Int) : Value :=
  if sizeB s = false ∨ placeB l.length i = false then .tuple #[.int .u64 0, .int .i64 2]
  else if (l.length : Int) - i < s then .tuple #[.int .u64 0, .int .i64 4]
  else .tuple #[.int .u64 (beSum (seg l i.toNat s.toNat)), .int .i64 0]
theorem size_bd {s : Int} (h : sizeB s = true) : 1 ≤ s ∧ s ≤ 8 := by
  simp only [sizeB, Bool.or_eq_true, beq_iff_eq] at h
  omega
/-- the bytes of x in k places -/
def beL (x : Int) (k : Nat) : List UInt8 := (List.range k).map fun j => UInt8.ofNat (x / 256 ^ (k - 1 - j) % 256).toNat
theorem beL_length (x : Int) (k : Nat) : (beL x k).length = k := by simp [beL]
theorem size_cases {k : Nat} (h : sizeB k = true) : k = 1 ∨ k = 2 ∨ k = 4 ∨ k = 8 := by
  simp only [sizeB, Bool.or_eq_true, beq_iff_eq] at h
  omega
/-- the byte that Put lays at place j -/
theorem beArr_get (x : Int) (k j : Nat) (hs : sizeB k = true) (hj : j < k) : (beArr x k)[j]? = some (.int .u8 (x / 256 ^ (k - 1 - j) % 256)) := by
  rcases size_cases hs with rfl | rfl | rfl | rfl
  · obtain rfl : j = 0 := by omega
    simp [beArr, putSt, putStep, zeros, List.range_succ]
  · have : j = 0 ∨ j = 1 := by omega
    rcases this with rfl | rfl <;> simp [beArr, putSt, putStep, zeros, List.range_succ]
  · have : j = 0 ∨ j = 1 ∨ j = 2 ∨ j = 3 := by omega
    rcases this with rfl | rfl | rfl | rfl <;> simp [beArr, putSt, putStep, zeros, List.range_succ] <;> omega
  · have : j = 0 ∨ j = 1 ∨ j = 2 ∨ j = 3 ∨ j = 4 ∨ j = 5 ∨ j = 6 ∨ j = 7 := by omega
    rcases this with rfl | rfl | rfl | rfl | rfl | rfl | rfl | rfl <;> simp [beArr, putSt, putStep, zeros, List.range_succ] <;> omega
theorem rd_put {W : World} {h : Nat} (x : Int) (k : Nat) (hs : sizeB k = true) (hc : Cs W h 5 (beArr x k)) : Rd W (some ⟨h, 0, none⟩) (beL x k) := by
  refine .inr ⟨h, 0, rfl, fun j hj => ?_⟩
  rw [beL_length] at hj
  rw [Nat.zero_add, hc.cell j (beArr_get x k j hs hj)]
  have hb : 0 ≤ x / 256 ^ (k - 1 - j) % 256 ∧ x / 256 ^ (k - 1 - j) % 256 < 256 := by omega
  simp only [beL, List.getElem_map, List.getElem_range]
  generalize x / 256 ^ (k - 1 - j) % 256 = v at *
  congr 2
  have : (UInt8.ofNat v.toNat).toNat = v.toNat := by
    rw [UInt8.toNat_ofNat']
    omega
  omega
end Go.Proofs.YtenpmbfncnepgaaDoor

/- num.Pad and its reference. -/
namespace Go.Proofs.YtenpmbfncnepgaaDoor
open Go.RowKit Go.Shelf
set_option linter.unusedVariables false
set_option maxRecDepth 100000

/-- the padding behind n -/
def padI (n : Int) : Int := if n < 0 then 0 else (4 - n % 4) % 4
end Go.Proofs.YtenpmbfncnepgaaDoor

/- num.Zero and its reference. -/
namespace Go.Proofs.YtenpmbfncnepgaaDoor
open Go.RowKit Go.Shelf
set_option linter.unusedVariables false
set_option maxRecDepth 100000

/-- are the n bytes from i on 0? -/
def allZ (l : List UInt8) (i n : Nat) : Bool := (List.range n).all fun j => byteAt l (i + j) == 0
theorem allZ_true {l : List UInt8} {i n : Nat} (h : ∀ j, j < n → byteAt l (i + j) = 0) : allZ l i n = true := by
  unfold allZ
  rw [List.all_eq_true]
  intro j hj
  simpa using h j (List.mem_range.1 hj)
theorem allZ_false {l : List UInt8} {i n : Nat} (k : Nat) (hk : k < n) (h : byteAt l (i + k) ≠ 0) : allZ l i n = false := by
  unfold allZ
  rw [Bool.eq_false_iff]
  intro hh
  have := (List.all_eq_true.1 hh) k (List.mem_range.2 hk)
  simp at this
  exact h this
/-- the error of bytes that are 0, or not -/
def zres (z : Bool) : Int := if z = true then 0 else 5
/-- what Zero answers -/
def zeroV (l : List UInt8) (i n : Int) : Int :=
  if placeB l.length i = false ∨ n < 0 then 2
  else if (l.length : Int) - i < n then 4
  else zres (allZ l i.toNat n.toNat)
end Go.Proofs.YtenpmbfncnepgaaDoor

/- Sums of bytes as plain numbers; Take and by. -/
namespace Go.Proofs.YtenpmbfncnepgaaDoor
open Go.RowKit Go.Shelf
set_option linter.unusedVariables false
set_option maxRecDepth 100000

/-- a byte taken in -/
def takeN (s c : Nat) : Nat := (s ^^^ c) * 16777619 % 4294967296
/-- the sum ahead of a byte -/
def backN (s c : Nat) : Nat := s * 899433627 % 4294967296 ^^^ c
theorem xor_lt32 {a b : Nat} (ha : a < 4294967296) (hb : b < 4294967296) : a ^^^ b < 4294967296 := Nat.xor_lt_two_pow (n := 32) ha hb
theorem takeN_lt (s c : Nat) : takeN s c < 4294967296 := Nat.mod_lt _ (by decide)
theorem backN_lt (s c : Nat) (hc : c < 256) : backN s c < 4294967296 := xor_lt32 (Nat.mod_lt _ (by decide)) (by omega)
theorem back_take (s c : Nat) (hs : s < 4294967296) (hc : c < 256) : backN (takeN s c) c = s := by
  unfold backN takeN
  have hx := xor_lt32 (a := s) (b := c) hs (by omega)
  have e : (s ^^^ c) * 16777619 % 4294967296 * 899433627 % 4294967296 = s ^^^ c := by
    generalize s ^^^ c = x at *
    omega
  rw [e, Nat.xor_assoc, Nat.xor_self, Nat.xor_zero]
theorem take_back (s c : Nat) (hs : s < 4294967296) (hc : c < 256) : takeN (backN s c) c = s := by
  unfold backN takeN
  rw [Nat.xor_assoc, Nat.xor_self, Nat.xor_zero]
  omega
/-- all bytes, one behind the other -/
def moreN : Nat → List UInt8 → Nat
  | s, [] => s
  | s, c :: l => moreN (takeN s c.toNat) l
theorem moreN_nil (s : Nat) : moreN s [] = s := rfl
theorem moreN_cons (s : Nat) (c : UInt8) (l : List UInt8) : moreN s (c :: l) = moreN (takeN s c.toNat) l := by rw [moreN]
theorem moreN_append (s : Nat) (p q : List UInt8) : moreN s (p ++ q) = moreN (moreN s p) q := by
  induction p generalizing s with
  | nil => rw [moreN_nil, List.nil_append]
  | cons c p ih => rw [List.cons_append, moreN_cons, moreN_cons, ih]
theorem moreN_lt (s : Nat) (l : List UInt8) (hs : s < 4294967296) : moreN s l < 4294967296 := by
  induction l generalizing s with
  | nil => exact hs
  | cons c l ih => rw [moreN_cons]; exact ih _ (takeN_lt _ _)
theorem moreN_last (s : Nat) (p : List UInt8) (c : UInt8) : moreN s (p ++ [c]) = takeN (moreN s p) c.toNat := by rw [moreN_append, moreN_cons, moreN_nil]
theorem moreN_snoc (s : Nat) (l : List UInt8) (k : Nat) (h : k < l.length) : moreN s (l.take (k + 1)) = takeN (moreN s (l.take k)) l[k].toNat := (congrArg (moreN s) (List.take_succ_eq_append_getElem h)).trans (moreN_last s (l.take k) l[k])
theorem u8_lt (c : UInt8) : c.toNat < 256 := c.toNat_lt
theorem byte_toNat_lt (l : List UInt8) (k : Nat) (h : k < l.length) : l[k].toNat < 256 := u8_lt _
end Go.Proofs.YtenpmbfncnepgaaDoor

/- sum.More, sum.Of, and their references. -/
namespace Go.Proofs.YtenpmbfncnepgaaDoor
open Go.RowKit Go.Shelf
set_option linter.unusedVariables false
set_option maxRecDepth 100000

theorem rd_at {W : World} {A : Option Addr} {l : List UInt8} (h : Rd W A l) (k : Nat) (hk : k < l.length) : ∃ b off, A = some ⟨b, off, none⟩ ∧ W.cell? ⟨b, off + k, none⟩ = some (.int .u8 (l[k].toNat : Int)) := by
  rcases h with rfl | ⟨b, off, rfl, hc⟩
  · simp at hk
  · exact ⟨b, off, rfl, hc k hk⟩
/-- the sum of bytes -/
def ofN (l : List UInt8) : Nat := moreN 2166136261 l
theorem ofN_lt (l : List UInt8) : ofN l < 4294967296 := moreN_lt _ _ (by decide)
end Go.Proofs.YtenpmbfncnepgaaDoor
