/- SWEPT -/
import Derived.Laws.BitsAllLaws
import Derived.Laws.Externs
import Derived.LoopIn
import Derived.LoopNIn
import Derived.OwnWalkIn
import Derived.RangeFuncBound
import Derived.RangeFuncBox
import Derived.RangeFuncCalls
import Derived.RangeFuncLeaves
import Derived.RangeFuncNested
import Derived.Shelf.Abstract
import Derived.Shelf.RegionOpen
import Derived.Shelf.Strconv.Itoa0
import Derived.TacticsInMore
import Derived.Test.YtdhlejhflkfoaaaDoorKB1
import Derived.WalkKit
/- NumK: NBwd N1 NLen NPut NGet NRef NPad NZero S1 S2. -/
/- slices.Backward over bytes: the iterator, place by place, from the last one down. -/
namespace Go.Proofs.YtdhlejhflkfoaaaDoor
open Go.RowKit Go.Shelf
set_option linter.unusedVariables false
set_option maxRecDepth 100000
attribute [local go_sem] Oper.semAt_some

/-- What a round is handed: a place below len, and a byte of which V holds there. -/
abbrev El (V : Nat → Int → Prop) (len : Nat) := { p : Nat × Int // p.1 < len ∧ V p.1 p.2 }
def encEl {V : Nat → Int → Prop} {len : Nat} (x : El V len) : Array Value := #[.int .i64 (x.1.1 : Int), .int .u8 x.1.2]
/-- The bytes that stand from off on in block b: V holds of each. -/
def Holds (V : Nat → Int → Prop) (b off len : Nat) (W : World) : Prop := ∀ j, j < len → ∃ v, V j v ∧ W.cell? ⟨b, off + j, none⟩ = some (.int .u8 v)
/-- What a round that goes on keeps: the boxed slice, and that V holds of each byte. -/
def Keeps (V : Nat → Int → Prop) (Bs : Nat) (sv : Value) (b off len : Nat) (A B : World) : Prop :=
  (A.cell? ⟨Bs, 0, none⟩ = some sv → B.cell? ⟨Bs, 0, none⟩ = some sv) ∧ (∀ j, j < len → (∃ v, V j v ∧ A.cell? ⟨b, off + j, none⟩ = some (.int .u8 v)) → ∃ v, V j v ∧ B.cell? ⟨b, off + j, none⟩ = some (.int .u8 v))
def Down {V : Nat → Int → Prop} {len : Nat} (k : Nat) (pre : List (El V len)) : Prop := pre.map (fun x => x.1.1) ++ (List.range k).reverse = (List.range len).reverse
theorem Down.length {V : Nat → Int → Prop} {len k : Nat} {pre : List (El V len)} (h : Down k pre) : pre.length + k = len := by
  have := congrArg List.length h
  simpa using this
theorem Down.next {V : Nat → Int → Prop} {len k : Nat} {pre : List (El V len)} (h : Down (k + 1) pre) (x : El V len) (hx : x.1.1 = k) : Down k (pre ++ [x]) := by
  unfold Down at h ⊢
  rw [← h, List.range_succ]
  simp [hx]
set_option maxRecDepth 100000 in
set_option maxHeartbeats 2000000 in
theorem back1_in (F : Fence) (n : Nat) (h29 : F.fn 96) (hro : F.round = none) (hn : 1 ≤ n) (l Bs b off len cap : Nat) (V : Nat → Int → Prop) (hreach : len ≤ 140737488355328)
    (J Jx : List (El V len) → World → Prop)
    (hY : ∀ pre (x : El V len) W, J pre W → pre.length < len → YieldAt F (n - 1) Tryd.prog l (encEl x) W fun e W' =>
      (e = .returned (.bool true) ∧ J (pre ++ [x]) W' ∧ Keeps V Bs (.slice (some ⟨b, off, none⟩) len cap) b off len W W') ∨ (e = .returned (.bool false) ∧ Jx (pre ++ [x]) W'))
    (W : World) (hBs : W.cell? ⟨Bs, 0, none⟩ = some (.slice (some ⟨b, off, none⟩) len cap)) (hc : Holds V b off len W) (h0 : J [] W) :
    CallsIn F n Tryd.prog 96 #[.func (.yield l) #[] #[], .pointer (some ⟨Bs, 0, none⟩)] W fun e W' => (∃ v, e = .returned v) ∧
      ((∃ ys, Down 0 ys ∧ J ys W') ∨ (∃ pre, (∃ k, Down k pre) ∧ Jx pre W')) := by
  refine callsIn_of_wp Tryd.func96 rfl h29 ?_ hro
  simp only [Tryd.ntmps96, List.size_toArray, List.length_cons, List.length_nil, Nat.reduceAdd, Nat.reduceSub, Array.replicate_succ, Array.replicate_zero, List.push_toArray, List.append_toArray, List.nil_append, List.cons_append]
  gi_wp2
  gi_loopw [3] (fun i wr => ∃ k : Nat, k ≤ len ∧ i = .int .i64 ((k : Int) - 1) ∧ ∃ pre : List (El V len), Down k pre ∧ J pre wr ∧ wr.cell? ⟨Bs, 0, none⟩ = some (.slice (some ⟨b, off, none⟩) len cap) ∧ Holds V b off len wr)
    (fun i _ => (intOf i + 1).toNat)
  case atStart => exact ⟨len, Nat.le_refl _, rfl, [], by simp [Down], h0, hBs, hc⟩
  case round =>
    obtain ⟨k, hk, rfl, pre, hd, hJ, hBs', hc'⟩ := hrel
    rcases k with _ | k
    · have e : (((0 : Nat) : Int) - 1) = -1 := rfl
      rw [e]
      gi_wp2
      go_end0
      exact ⟨⟨_, rfl⟩, .inl ⟨pre, hd, hJ⟩⟩
    · have e : (((k + 1 : Nat) : Int) - 1) = (k : Int) := by omega
      rw [e]
      clear e
      obtain ⟨v, hv, hcv⟩ := hc' k (by omega)
      have hl := hd.length
      obtain ⟨fn, tmps, assign, body, hy, hR⟩ := hY pre ⟨(k, v), by omega, hv⟩ wr hJ (by omega)
      dsimp only [encEl] at hy
      gi_wp2
      refine hR.mono ?_
      rintro e W3 (⟨rfl, hJ3, hk3⟩ | ⟨rfl, hJx3⟩)
      · gi_wp2
        go_roundw
        case rel => exact ⟨k, by omega, rfl, _, hd.next _ rfl, hJ3, hk3.1 hBs', fun j hj => hk3.2 j hj (hc' j hj)⟩
        case measure => simp [intOf]
      · gi_wp2
        refine bodyPost_ret (results_none rfl _ _ _) rfl ?_
        exact ⟨⟨_, rfl⟩, .inr ⟨_, ⟨k, hd.next _ rfl⟩, hJx3⟩⟩

end Go.Proofs.YtdhlejhflkfoaaaDoor

/- The leaves of package num: sizes, places. -/
namespace Go.Proofs.YtdhlejhflkfoaaaDoor
open Go.RowKit Go.Shelf
set_option linter.unusedVariables false
set_option maxRecDepth 100000

/-- is it a size? -/
def sizeB (s : Int) : Bool := s == 1 || s == 2 || s == 4 || s == 8
theorem isSize_any (s : Int) (w : World) : Calls Tryd.prog 83 #[.int .i64 s] w fun e w' => e = .returned (.bool (sizeB s)) ∧ w = w' := by
  by_cases h1 : s = 1
  · subst h1
    go_enter Tryd.func83, Tryd.ntmps83
    go_wp2
    go_ret
    exact ⟨rfl, rfl⟩
  by_cases h2 : s = 2
  · subst h2
    go_enter Tryd.func83, Tryd.ntmps83
    go_wp2
    go_ret
    exact ⟨rfl, rfl⟩
  by_cases h4 : s = 4
  · subst h4
    go_enter Tryd.func83, Tryd.ntmps83
    go_wp2
    go_ret
    exact ⟨rfl, rfl⟩
  by_cases h8 : s = 8
  · subst h8
    go_enter Tryd.func83, Tryd.ntmps83
    go_wp2
    go_ret
    exact ⟨rfl, rfl⟩
  have b1 : (s == 1) = false := by simpa using h1
  have b2 : (s == 2) = false := by simpa using h2
  have b4 : (s == 4) = false := by simpa using h4
  have b8 : (s == 8) = false := by simpa using h8
  have hs : sizeB s = false := by simp [sizeB, b1, b2, b4, b8]
  rw [hs]
  clear hs
  go_enter Tryd.func83, Tryd.ntmps83
  go_wp2
  go_ret
  exact ⟨rfl, rfl⟩
/-- is it a place of a list of that length? -/
def placeB (n : Nat) (at' : Int) : Bool := decide (0 ≤ at') && decide (at' ≤ (n : Int))
theorem isPlace_any (A : Option Addr) (n c : Nat) (i : Int) (w : World) (hn : n ≤ maxLen) : Calls Tryd.prog 103 #[.slice A n c, .int .i64 i] w fun e w' => e = .returned (.bool (placeB n i)) ∧ w = w' := by
  unfold maxLen at hn
  by_cases h0 : 0 ≤ i
  · by_cases h1 : i ≤ (n : Int)
    · have hs : placeB n i = true := by simp [placeB, h0, h1]
      rw [hs]
      clear hs
      go_enter Tryd.func103, Tryd.ntmps103
      go_wp2
      go_ret
      exact ⟨rfl, rfl⟩
    · have hs : placeB n i = false := by simp [placeB, h0, h1]
      rw [hs]
      clear hs
      have h1' : decide (i ≤ (n : Int)) = false := by simpa using h1
      go_enter Tryd.func103, Tryd.ntmps103
      go_wp2
      go_ret
      exact ⟨rfl, rfl⟩
  · have hs : placeB n i = false := by simp [placeB, h0]
    rw [hs]
    clear hs
    have h0' : decide (0 ≤ i) = false := by simpa using h0
    go_enter Tryd.func103, Tryd.ntmps103
    go_wp2
    go_ret
    exact ⟨rfl, rfl⟩

end Go.Proofs.YtdhlejhflkfoaaaDoor

/- math/bits.Len64 by the shelf; fits. -/
namespace Go.Proofs.YtdhlejhflkfoaaaDoor
open Go.RowKit Go.Shelf
set_option linter.unusedVariables false
set_option maxRecDepth 100000

def lays129_ren : Go.Shelf.Ren := ⟨fun | 129 => 95 | n => n, fun | 53 => 24 | 3 => 3 | 4 => 4 | 46 => 88 | 5 => 5 | 9 => 9 | n => n, fun | n => n⟩
theorem lays129 : Go.Proofs.Lays.n129 Tryd.prog lays129_ren := {
  mixed := by kernel_rfl
  f129 := Tryd.func95.trans (congrArg some (by kernel_rfl))
  t3 := Tryd.underlying3
  a3 := Tryd.isAgg3
  z3 := Tryd.sizeOf3
  v3 := Tryd.zeroValue3
  t4 := Tryd.underlying4
  a4 := Tryd.isAgg4
  z4 := Tryd.sizeOf4
  v4 := Tryd.zeroValue4
  t5 := Tryd.underlying5
  a5 := Tryd.isAgg5
  z5 := Tryd.sizeOf5
  v5 := Tryd.zeroValue5
  t9 := Tryd.underlying9
  a9 := Tryd.isAgg9
  z9 := Tryd.sizeOf9
  v9 := Tryd.zeroValue9
  t46 := Tryd.underlying88
  a46 := Tryd.isAgg88
  z46 := Tryd.sizeOf88
  v46 := Tryd.zeroValue88
  t53 := Tryd.underlying24
  a53 := Tryd.isAgg24
  z53 := Tryd.sizeOf24
  v53 := Tryd.zeroValue24 }
theorem Len64_any (x : Int) (w : World) (h0 : 0 ≤ x) (h1 : x ≤ 18446744073709551615) :
    Calls Tryd.prog 95 #[.int .u64 x] w fun e w' => e = .returned (.int .i64 (Lib.bitLen x.toNat)) ∧ w' = w := Any.bits_Len64 lays129 x w h0 h1
theorem bitLenAux_le : ∀ (f x : Nat), Lib.bitLenAux f x ≤ f
  | 0, x => by simp [Lib.bitLenAux]
  | f + 1, x => by
    simp only [Lib.bitLenAux]
    split
    · omega
    · have := bitLenAux_le f (x / 2); omega
theorem bitLen_le_iff (k x : Nat) (hk : k ≤ 64) (hx : x < 2 ^ 64) : Lib.bitLen x ≤ k ↔ x < 2 ^ k := by
  constructor
  · intro h
    apply Nat.lt_of_not_le
    intro h2
    have e := Lib.bitLen_shift k x h2 hx
    have h0 : x / 2 ^ k ≠ 0 := by
      have : 0 < 2 ^ k := Nat.two_pow_pos k
      have := Nat.div_pos h2 this
      omega
    have hlt : x / 2 ^ k < 2 ^ 64 := Nat.lt_of_le_of_lt (Nat.div_le_self _ _) hx
    have e2 := Lib.bitLen_half (x / 2 ^ k) h0 hlt
    omega
  · intro h
    have e := Lib.bitLenAux_fuel k x h 64 hk
    unfold Lib.bitLen
    rw [e]
    exact bitLenAux_le k x
/-- the least number that a size does not hold -/
def lim (s : Int) : Int := if s = 1 then 256 else if s = 2 then 65536 else if s = 4 then 4294967296 else 18446744073709551616
def fitsB (n s : Int) : Bool := decide (n < lim s)
theorem fits_any (n s : Int) (hn : 0 ≤ n) (hn' : n ≤ 18446744073709551615) (hs : sizeB s = true) (w : World) :
    Calls Tryd.prog 84 #[.int .u64 n, .int .i64 s] w fun e w' => e = .returned (.bool (fitsB n s)) ∧ w = w' := by
  obtain ⟨m, rfl⟩ := Int.eq_ofNat_of_zero_le hn
  have key : ∀ k : Nat, k ≤ 64 → ((Lib.bitLen m : Int) ≤ k ↔ m < 2 ^ k) := fun k hk => by
    rw [← bitLen_le_iff k m hk (by omega)]; omega
  have hlen : (Lib.bitLen m : Int) ≤ 64 := by
    have := bitLenAux_le 64 m
    unfold Lib.bitLen; omega
  have e : decide ((Lib.bitLen m : Int) ≤ 8 * s) = fitsB m s := by
    simp only [sizeB, Bool.or_eq_true, beq_iff_eq] at hs
    unfold fitsB lim
    rcases hs with ((rfl | rfl) | rfl) | rfl
    · have := key 8 (by omega); simp at this ⊢; omega
    · have := key 16 (by omega); simp at this ⊢; omega
    · have := key 32 (by omega); simp at this ⊢; omega
    · simp; omega
  have hs1 : 1 ≤ s ∧ s ≤ 8 := by
    simp only [sizeB, Bool.or_eq_true, beq_iff_eq] at hs
    omega
  obtain ⟨hsl, hsu⟩ := hs1
  rw [← e]
  clear e key
  generalize hb : (Lib.bitLen m : Int) = b
  go_enter Tryd.func84, Tryd.ntmps84
  go_wp2_with (go_at_call 95; refine (Len64_any _ _ (by omega) (by omega)).mono ?_; rintro e w' ⟨rfl, rfl⟩; simp only [Int.toNat_natCast, hb])

  go_ret
  exact ⟨rfl, rfl⟩

end Go.Proofs.YtdhlejhflkfoaaaDoor

/- num.Put: the bytes of a number. -/
namespace Go.Proofs.YtdhlejhflkfoaaaDoor
open Go.RowKit Go.Shelf
set_option linter.unusedVariables false
set_option maxRecDepth 100000
attribute [local go_sem] Oper.semAt_some

set_option maxHeartbeats 1000000 in
theorem Backward_in (F : Fence) (n : Nat) (h24 : F.fn 85) (hro : F.round = none) (a : Option Addr) (len cap : Nat) (w : World) :
    CallsIn F n Tryd.prog 85 #[.slice a len cap] w fun e w' => e = .returned (.func (.func 96) #[] #[.pointer (some ⟨w.heap.size, 0, none⟩)]) ∧ w' = w.alloc (.cells #[.slice a len cap] 25) := by
  refine callsIn_of_wp Tryd.func85 rfl h24 ?_ hro
  simp only [Tryd.ntmps85, List.size_toArray, List.length_cons, List.length_nil, Nat.reduceAdd, Nat.reduceSub, Array.replicate_succ, Array.replicate_zero, List.push_toArray, List.append_toArray, List.nil_append, List.cons_append]
  gi_wp2
  go_ret
  exact ⟨rfl, rfl⟩
theorem keeps_t {V : Nat → Int → Prop} {Bs : Nat} {sv : Value} {b off len : Nat} {A B C : World} (h : Keeps V Bs sv b off len A B) (k : Keeps V Bs sv b off len B C) : Keeps V Bs sv b off len A C :=
  ⟨fun x => k.1 (h.1 x), fun j hj x => k.2 j hj (h.2 j hj x)⟩
theorem keeps_b {V : Nat → Int → Prop} {Bs : Nat} {sv : Value} {b off len : Nat} {w : World} (W : World) (l : Nat) (o o' : Obj) (_ : w.heap.size ≤ l) (h : W.heap[l]? = some o) (hc : o.isCells = false) (_ : o.isWalk = false) : Keeps V Bs sv b off len W (W.putObj l o') :=
  ⟨fun x => cell_kept x (grownBy_putObj' W l o') (fun r e => by cases e; exact ⟨_, h, hc⟩), fun j _ ⟨v, hv, x⟩ => ⟨v, hv, cell_kept x (grownBy_putObj' W l o') (fun r e => by cases e; exact ⟨_, h, hc⟩)⟩⟩
theorem back_stops (F : Fence) (n : Nat) (h29 : F.fn 96) (hro : F.round = none) (hn : 1 ≤ n) (Bs b off len cap : Nat) (V : Nat → Int → Prop) (hreach : len ≤ 140737488355328) (w : World) (hBs : Bs < w.heap.size) (hb : b < w.heap.size)
    (hc : w.cell? ⟨Bs, 0, none⟩ = some (.slice (some ⟨b, off, none⟩) len cap)) (hI : Holds V b off len w) :
    SeqStopsK F n Tryd.prog 96 #[.pointer (some ⟨Bs, 0, none⟩)] (encEl (V := V) (len := len)) (Keeps V Bs (.slice (some ⟨b, off, none⟩) len cap) b off len) (fun ys => Down 0 ys) (fun pre => ∃ k, Down k pre) len w := fun l J Jx W hW _ _ hY h0 =>
  back1_in F n h29 hro hn l Bs b off len cap V hreach J Jx hY W ((hW.cell (p := ⟨Bs, 0, none⟩) hBs).trans hc) (fun j hj => by obtain ⟨v, hv, h⟩ := hI j hj; exact ⟨v, hv, (hW.cell (p := ⟨b, off + j, none⟩) hb).trans h⟩) h0
/-- k bytes of 0 -/
def zeros (k : Nat) : Array Value := Array.replicate k (.int .u8 0)
/-- what a round does: the lowest byte goes to place i, the others come down. -/
def putStep (st : Int × Array Value) (i : Nat) : Int × Array Value := (st.1 / 256, st.2.setIfInBounds i (.int .u8 (st.1 % 256)))
def putSt (x : Int) (k : Nat) (l : List Nat) : Int × Array Value := l.foldl putStep (x, zeros k)
theorem putSt_snoc (x : Int) (k : Nat) (l : List Nat) (i : Nat) : putSt x k (l ++ [i]) = putStep (putSt x k l) i := by simp [putSt]
theorem putStep_fold (x : Int) (k : Nat) (P : Int × Array Value → Prop) (hs : ∀ st i, P st → P (putStep st i)) : ∀ (l : List Nat) (st : Int × Array Value), P st → P (l.foldl putStep st)
  | [], st, h => h
  | i :: l, st, h => putStep_fold x k P hs l (putStep st i) (hs st i h)
theorem putSt_bd (x : Int) (k : Nat) (hx : 0 ≤ x) (hx' : x ≤ 18446744073709551615) (l : List Nat) : 0 ≤ (putSt x k l).1 ∧ (putSt x k l).1 ≤ 18446744073709551615 :=
  putStep_fold x k (fun st => 0 ≤ st.1 ∧ st.1 ≤ 18446744073709551615) (fun st i h => by simp only [putStep]; omega) l _ ⟨hx, hx'⟩
theorem putSt_u8 (x : Int) (k : Nat) (l : List Nat) (j : Nat) : j < k → ∃ v, (putSt x k l).2[j]? = some (.int .u8 v) :=
  putStep_fold x k (fun st => j < k → ∃ v, st.2[j]? = some (.int .u8 v)) (fun st i h hj => by
    obtain ⟨v, hv⟩ := h hj
    have hlt : j < st.2.size := by
      rcases Nat.lt_or_ge j st.2.size with h1 | h1
      · exact h1
      · rw [Array.getElem?_eq_none h1] at hv; cases hv
    simp only [putStep, Array.getElem?_setIfInBounds]
    split
    · rename_i e
      subst e
      rw [if_pos hlt]
      exact ⟨_, rfl⟩
    · exact ⟨v, hv⟩) l _ (fun hj => ⟨0, by simp [zeros, hj]⟩)
theorem mk_zeros (k : Nat) (hk : k ≤ 8) (W : World) : (Instr.makeSlice 25 (.int .i64 (k : Int)) (.int .i64 (k : Int))).run Tryd.prog W = .ok (.slice (some ⟨W.heap.size, 0, none⟩) k k) (W.alloc (.cells (zeros k) 5)) := by
  obtain ⟨i0, hi, hz0, hz1, hz2⟩ := info_parts (show (Tryd.prog.info? 5).map (fun i => (i.zero, i.size, i.bytes)) = some (some (.int .u8 0), 1, 1) by kernel_rfl)
  have h := run_make (P := Tryd.prog) W 25 5 i0 (.int .u8 0) Tryd.underlying25 hi hz0 .i64 .i64 (k : Int) (k : Int) (by omega) (Int.le_refl _) (by rw [hz2]; omega) (by omega)
  rw [h, hz1]
  simp only [Int.toNat_natCast, Nat.mul_one]
  congr 3
  apply Array.ext
  · simp [zeros, size_madeCells]
  · intro j h1 h2
    simp [madeCells, zeros, Value.cells, Nat.mod_one]
/-- the bytes of x in k places -/
def beArr (x : Int) (k : Nat) : Array Value := (putSt x k (List.range k).reverse).2
/-- what a round of Put holds: the number's box, the slice's, and the bytes -/
def PutI (w : World) (x : Int) (k : Nat) (l : List Nat) (W : World) : Prop :=
  (Cs W w.heap.size 24 #[.int .u64 (putSt x k l).1] ∧ Cs W (w.heap.size + 1) 5 (putSt x k l).2 ∧ Cs W (w.heap.size + 1 + 1) 25 #[.slice (some ⟨w.heap.size + 1, 0, none⟩) k k]
    ∧ Cs W (w.heap.size + 1 + 1 + 1) 25 #[.slice (some ⟨w.heap.size + 1, 0, none⟩) k k]) ∧ Below w.heap.size w W
theorem putI_own (w : World) (x : Int) (k B : Nat) {β : Type} (f : β → List Nat) (hB : w.heap.size ≤ B) : OwnFrom B (fun s W => PutI w x k (f s) W) :=
  OwnFrom.and (OwnFrom.and ((cs_own _ _ _).from _) (OwnFrom.and ((cs_own _ _ _).from _) (OwnFrom.and ((cs_own _ _ (fun _ => _)).from _) ((cs_own _ _ (fun _ => _)).from _)))) (ownFrom_below (Nat.le_refl _) hB)
set_option maxRecDepth 100000 in
set_option maxHeartbeats 1000000 in
theorem Put_in (x : Int) (k : Nat) (hk1 : 1 ≤ k) (hk : k ≤ 8) (hs : sizeB k = true) (hx : 0 ≤ x) (hx' : x ≤ 18446744073709551615) (w : World) (hfit : fitsB x k = true) :
    CallsIn Fence.wide 5 Tryd.prog 68 #[.int .u64 x, .int .i64 k] w fun e W' => e = .returned (.tuple #[.slice (some ⟨w.heap.size + 1, 0, none⟩) k k, .int .i64 0]) ∧ Below w.heap.size w W' ∧ Cs W' (w.heap.size + 1) 5 (beArr x k) := by
  have hsize : ∀ W, Calls Tryd.prog 83 #[.int .i64 k] W fun e w' => e = .returned (.bool true) ∧ W = w' := fun W => by
    have := isSize_any k W; rwa [hs] at this
  have hfits : ∀ W, Calls Tryd.prog 84 #[.int .u64 x, .int .i64 k] W fun e w' => e = .returned (.bool true) ∧ W = w' := fun W => by
    have := fits_any x k hx hx' hs W; rwa [hfit] at this
  have hmk := mk_zeros k hk
  refine callsIn_of_wp_marks Tryd.func68 rfl trivial ?_ rfl
  simp only [Tryd.ntmps68, List.size_toArray, List.length_cons, List.length_nil, Nat.reduceAdd, Nat.reduceSub, Array.replicate_succ, Array.replicate_zero, List.push_toArray, List.append_toArray, List.nil_append, List.cons_append]
  gi_wp2_with (first | (refine ⟨trivial, ?_⟩; gi_at_call 83; refine (callsIn_wide.2 (hsize _)).mono ?_; rintro e w' ⟨rfl, rfl⟩) | (refine ⟨trivial, ?_⟩; gi_at_call 84; refine (callsIn_wide.2 (hfits _)).mono ?_; rintro e w' ⟨rfl, rfl⟩) | (refine ⟨trivial, ?_⟩; gi_at_call 85; refine (Backward_in _ _ trivial rfl _ _ _ _).mono ?_; rintro e w' ⟨rfl, rfl⟩))
  have c0 := Cs.new w 24 #[.int .u64 x]
  have c1 := Cs.new (w.alloc (.cells #[.int .u64 x] 24)) 5 (zeros k)
  have c2 := Cs.new ((w.alloc (.cells #[.int .u64 x] 24)).alloc (.cells (zeros k) 5)) 25 #[.slice (some ⟨w.heap.size + 1, 0, none⟩) k k]
  have c3 := Cs.new (((w.alloc (.cells #[.int .u64 x] 24)).alloc (.cells (zeros k) 5)).alloc (.cells #[.slice (some ⟨w.heap.size + 1, 0, none⟩) k k] 25)) 25 #[.slice (some ⟨w.heap.size + 1, 0, none⟩) k k]
  simp only [World.size_alloc] at c1 c2 c3
  have hB0 := ((((Below.refl w.heap.size w).alloc (Nat.le_refl _) (.cells #[.int .u64 x] 24)).alloc (by simp) (.cells (zeros k) 5)).alloc (by simp; omega) (.cells #[.slice (some ⟨w.heap.size + 1, 0, none⟩) k k] 25)).alloc (by simp; omega) (.cells #[.slice (some ⟨w.heap.size + 1, 0, none⟩) k k] 25)
  have hI0 : PutI w x k [] _ := ⟨⟨((c0.alloc _).alloc _).alloc _, (c1.alloc _).alloc _, c2.alloc _, c3⟩, hB0⟩
  have hH0 : Holds (fun _ _ => True) (w.heap.size + 1) 0 k _ := fun j hj => ⟨0, trivial, hI0.1.2.1.cell (0 + j) (by simp [putSt, zeros, hj])⟩
  refine wpIn_rangeFunc_ownG rfl (by omega) (gf := 96) (lb := #[.pointer (some ⟨w.heap.size + 1 + 1 + 1, 0, none⟩)]) rfl trivial (enters_of Tryd.func96 (by kernel_rfl) rfl)
    (back_stops Fence.wide (5 - 1) trivial rfl (by omega) (w.heap.size + 1 + 1 + 1) (w.heap.size + 1) 0 k k (fun _ _ => True) (by omega) _ (by simp) (by simp) (hI0.1.2.2.2.cell 0 rfl) hH0) keeps_t keeps_b (Below.refl _ _) (fun _ => rfl)
    (fun pre W => PutI w x k (pre.map fun x => x.1.1) W)
    (fun _ _ _ => False)
    (putI_own w x k _ _ (by simp; omega))
    (fun _ _ _ _ _ hs _ _ => hs)
    hI0
    (fun y => { tmps := #[.int .u64 x, .int .i64 k, .pointer (some ⟨w.heap.size, 0, none⟩), undef, .slice none 0 0, .int .i64 0, .pointer (some ⟨w.heap.size + 1 + 1, 0, none⟩), .int .i64 (y.1.1 : Int), .int .i64 k, .bool true, .bool false, .bool false, .int .u64 x, .int .i64 k, .bool true, .bool false, .bool false, .int .i64 k,
      .slice (some ⟨w.heap.size + 1, 0, none⟩) k k, .slice (some ⟨w.heap.size + 1, 0, none⟩) k k, .func (.func 96) #[] #[.pointer (some ⟨w.heap.size + 1 + 1 + 1, 0, none⟩)], .int .i64 (y.1.1 : Int), .int .u8 y.1.2, undef, undef, undef, undef, undef, undef, undef, undef], defers := [] }) ?assign ?body ?done ?stop
  case assign =>
    intro l y W K hK
    simp only [encEl]
    gi_wp2
    exact hK
  case body =>
    clear c0 c1 c2 c3 hB0 hI0 hH0 hmk hsize hfits
    rintro l pre ⟨⟨i, vv⟩, hi, -⟩ W ⟨⟨d0, d1, d2, d3⟩, hB⟩ hlen
    have hbd := putSt_bd x k hx hx' (pre.map fun x => x.1.1)
    have hst := putSt_snoc x k (pre.map fun x => x.1.1) i
    have hu8 := putSt_u8 x k (pre.map (fun x => x.1.1) ++ [i])
    obtain ⟨v, hv⟩ := putSt_u8 x k (pre.map fun x => x.1.1) i hi
    generalize putSt x k (pre.map fun x => x.1.1) = st at *
    obtain ⟨m, cs⟩ := st
    dsimp only at d0 d1 hbd hv
    obtain ⟨hm0, hm1⟩ := hbd
    have HST := Lib.hid hst
    have HU8 := Lib.hid hu8
    clear hst hu8
    have e0 := d0.cell 0 rfl
    have f0 := d0.frozen 0
    have e1 := d1.cell i hv
    have f1 := d1.frozen i
    have e2 := d2.cell 0 rfl
    have HD0 := Lib.hid d0
    have HD1 := Lib.hid d1
    have HD2 := Lib.hid d2
    have HD3 := Lib.hid d3
    clear d0 d1 d2 d3 hv
    gi_wp2
    have hst := HST.out
    have hu8 := HU8.out
    rw [hst] at hu8
    have d0 := (HD0.out.far (p := ⟨w.heap.size + 1, i, none⟩) (by dsimp only; omega) (.int .u8 (m % 256))).set 0 (.int .u64 (m / 256))
    have d1 := (HD1.out.set i (.int .u8 (m % 256))).far (p := ⟨w.heap.size, 0, none⟩) (by dsimp only; omega) (.int .u64 (m / 256))
    have d2 := (HD2.out.far (p := ⟨w.heap.size + 1, i, none⟩) (by dsimp only; omega) (.int .u8 (m % 256))).far (p := ⟨w.heap.size, 0, none⟩) (by dsimp only; omega) (.int .u64 (m / 256))
    have d3 := (HD3.out.far (p := ⟨w.heap.size + 1, i, none⟩) (by dsimp only; omega) (.int .u8 (m % 256))).far (p := ⟨w.heap.size, 0, none⟩) (by dsimp only; omega) (.int .u64 (m / 256))
    refine ⟨((KeepsOthers.setCell _ _ _).trans (KeepsOthers.setCell _ _ _)).from _, ⟨fun _ => d3.cell 0 rfl, fun j hj _ => ?_⟩, ?_⟩
    · obtain ⟨u, hu⟩ := hu8 j hj
      exact ⟨u, trivial, d1.cell (0 + j) (by simpa [putStep] using hu)⟩
    · refine ⟨?_, (hB.setCell (p := ⟨w.heap.size + 1, i, none⟩) (by simp) _).setCell (p := ⟨w.heap.size, 0, none⟩) (Nat.le_refl _) _⟩
      simp only [List.map_append, List.map_cons, List.map_nil]
      rw [hst]
      exact ⟨d0, d1, d2, d3⟩
  case done =>
    clear c0 c1 c2 c3 hB0 hI0 hH0 hmk hsize hfits
    rintro D ys W hD hdown ⟨⟨d0, d1, d2, d3⟩, hB⟩ hK
    have e2 := d2.cell 0 rfl
    have HD1 := Lib.hid d1
    have HDn := Lib.hid hdown
    clear d0 d1 d2 d3 hdown
    gi_wp2
    refine ⟨by simp, .inl ⟨_, _, rfl, run_takeDeferred hK, ?_⟩⟩
    refine ⟨_, results_tmp2 rfl _ _ _, rfl, hB.trans (belowK_b (w := w) (Nat.le_refl _) W D _ _ (by simp at hD; omega) hK rfl rfl), ?_⟩
    have h1 := HD1.out.put (.deferred none) hK rfl
    have h2 := HDn.out
    unfold Down at h2
    simp only [List.range_zero, List.reverse_nil, List.append_nil] at h2
    rw [h2] at h1
    exact h1
  case stop =>
    rintro D c pre W _ _ h _
    exact h.elim

end Go.Proofs.YtdhlejhflkfoaaaDoor

/- num.Get: the number of bytes. -/
namespace Go.Proofs.YtdhlejhflkfoaaaDoor
open Go.RowKit Go.Shelf
set_option linter.unusedVariables false
set_option maxRecDepth 100000
attribute [local go_sem] Oper.semAt_some

theorem Get_arg (l : List UInt8) (A : Option Addr) (c : Nat) (i s : Int) (w : World) (hl : l.length ≤ maxLen) (h : sizeB s = false ∨ placeB l.length i = false) :
    Calls Tryd.prog 92 #[.slice A l.length c, .int .i64 i, .int .i64 s] w fun e W' => e = .returned (.tuple #[.int .u64 0, .int .i64 2]) ∧ w = W' := by
  have hplace := fun W => isPlace_any A l.length c i W hl
  have hsize := isSize_any s
  rcases hs : sizeB s with _ | _
  · rw [hs] at hsize
    go_enter Tryd.func92, Tryd.ntmps92
    go_wp2_with (go_at_call 83; refine (hsize _).mono ?_; rintro e w' ⟨rfl, rfl⟩)
    go_ret2
    exact ⟨rfl, rfl⟩
  · have h' : placeB l.length i = false := by
      rcases h with h | h
      · rw [hs] at h; cases h
      · exact h
    rw [hs] at hsize
    rw [h'] at hplace
    clear h h'
    go_enter Tryd.func92, Tryd.ntmps92
    go_wp2_with (first | (go_at_call 83; refine (hsize _).mono ?_; rintro e w' ⟨rfl, rfl⟩) | (go_at_call 103; refine (hplace _).mono ?_; rintro e w' ⟨rfl, rfl⟩))
    go_ret2
    exact ⟨rfl, rfl⟩
theorem Get_short (l : List UInt8) (A : Option Addr) (c : Nat) (i s : Int) (w : World) (hl : l.length ≤ maxLen) (hs : sizeB s = true) (hp : placeB l.length i = true) (h : (l.length : Int) - i < s) :
    Calls Tryd.prog 92 #[.slice A l.length c, .int .i64 i, .int .i64 s] w fun e W' => e = .returned (.tuple #[.int .u64 0, .int .i64 4]) ∧ w = W' := by
  have hplace := fun W => isPlace_any A l.length c i W hl
  have hsize := isSize_any s
  rw [hs] at hsize
  rw [hp] at hplace
  have hi : 0 ≤ i ∧ i ≤ (l.length : Int) := by simpa [placeB] using hp
  obtain ⟨hi0, hi1⟩ := hi
  unfold maxLen at hl
  clear hs hp
  go_enter Tryd.func92, Tryd.ntmps92
  go_wp2_with (first | (go_at_call 83; refine (hsize _).mono ?_; rintro e w' ⟨rfl, rfl⟩) | (go_at_call 103; refine (hplace _).mono ?_; rintro e w' ⟨rfl, rfl⟩))
  go_ret2
  exact ⟨rfl, rfl⟩
/-- what a round of Get does: (the number so far, the number of rounds) -/
def getStep (st : Int × Nat) (v : Int) : Int × Nat := (st.1 + v * 256 ^ st.2, st.2 + 1)
def getSt (l : List Int) : Int × Nat := l.foldl getStep (0, 0)
theorem getSt_snoc (l : List Int) (v : Int) : getSt (l ++ [v]) = getStep (getSt l) v := by simp [getSt]
/-- byte j of l -/
def byteAt (l : List UInt8) (j : Nat) : Int := ((l.getD j 0).toNat : Int)
theorem byteAt_le (l : List UInt8) (j : Nat) : byteAt l j ≤ 255 := by
  unfold byteAt
  have := (l.getD j 0).toNat_lt
  omega
theorem getSt_bd (l : List Int) (hl : ∀ v ∈ l, 0 ≤ v ∧ v ≤ 255) : 0 ≤ (getSt l).1 ∧ (getSt l).1 < 256 ^ (getSt l).2 := by
  have : ∀ (l : List Int) (st : Int × Nat), (∀ v ∈ l, 0 ≤ v ∧ v ≤ 255) → (0 ≤ st.1 ∧ st.1 < 256 ^ st.2) → 0 ≤ (l.foldl getStep st).1 ∧ (l.foldl getStep st).1 < 256 ^ (l.foldl getStep st).2 := by
    intro l
    induction l with
    | nil => intro st _ h; exact h
    | cons v l ih =>
      intro st hl h
      rw [List.foldl_cons]
      refine ih _ (fun u hu => hl u (List.mem_cons_of_mem _ hu)) ?_
      have hv := hl v List.mem_cons_self
      simp only [getStep, Int.pow_succ]
      generalize (256 : Int) ^ st.2 = P at *
      have h1 : 0 ≤ v * P := Int.mul_nonneg hv.1 (by omega)
      have h2 : v * P ≤ 255 * P := Int.mul_le_mul_of_nonneg_right hv.2 (by omega)
      omega
  exact this l (0, 0) hl (by simp)
theorem getSt_length (l : List Int) : (getSt l).2 = l.length := by
  have : ∀ (l : List Int) (st : Int × Nat), (l.foldl getStep st).2 = st.2 + l.length := by
    intro l
    induction l with
    | nil => intro st; rfl
    | cons v l ih => intro st; rw [List.foldl_cons, ih]; simp [getStep]; omega
  simpa [getSt] using this l (0, 0)
/-- a number below 256 to the p, and a byte p bytes higher -/
theorem or_sum (m v : Int) (p : Nat) (h0 : 0 ≤ m) (h1 : m < 256 ^ p) (v0 : 0 ≤ v) (v1 : v ≤ 255) (hp : p ≤ 7) : bits BinOp.or IntKind.u64 m (IntKind.u64.wrap (v * 2 ^ (8 * p))) = m + v * 256 ^ p := by
  obtain ⟨m, rfl⟩ := Int.eq_ofNat_of_zero_le h0
  obtain ⟨v, rfl⟩ := Int.eq_ofNat_of_zero_le v0
  have e : (256 : Nat) ^ p = 2 ^ (8 * p) := by rw [Nat.pow_mul]
  have hm : m < 2 ^ (8 * p) := by
    have h1' : ((m : Nat) : Int) < ((256 ^ p : Nat) : Int) := by rw [Int.natCast_pow]; exact h1
    rw [← e]; omega
  have hv : v < 256 := by omega
  have hP : (2 : Nat) ^ (8 * p) ≤ 2 ^ 56 := Nat.pow_le_pow_right (by decide) (by omega)
  have hprod : v * 2 ^ (8 * p) ≤ 255 * 2 ^ 56 := Nat.mul_le_mul (by omega) hP
  have c1 : ((v : Int) * 2 ^ (8 * p)) = ((v * 2 ^ (8 * p) : Nat) : Int) := by rw [Int.natCast_mul, Int.natCast_pow]; rfl
  have c2 : ((v : Int) * 256 ^ p) = ((v * 2 ^ (8 * p) : Nat) : Int) := by rw [← e, Int.natCast_mul, Int.natCast_pow]; rfl
  rw [c1, c2]
  generalize hQ : v * 2 ^ (8 * p) = Q at *
  have w1 : IntKind.u64.wrap (Q : Int) = (Q : Int) := by
    rw [IntKind.wrap_u64]; omega
  rw [w1, u64_or_nat m Q (by omega) (by omega)]
  have h2 := Nat.two_pow_add_eq_or_of_lt hm v
  rw [Nat.mul_comm, hQ] at h2
  rw [Nat.or_comm, ← h2]
  omega
def GetI (w : World) (sv : Value) (l : List Int) (W : World) : Prop :=
  (Cs W w.heap.size 24 #[.int .u64 (getSt l).1] ∧ Cs W (w.heap.size + 1) 3 #[.int .i64 (8 * (getSt l).2 : Nat)] ∧ Cs W (w.heap.size + 1 + 1) 25 #[sv]) ∧ Below w.heap.size w W
theorem getI_own (w : World) (sv : Value) (B : Nat) {β : Type} (f : β → List Int) (hB : w.heap.size ≤ B) : OwnFrom B (fun s W => GetI w sv (f s) W) :=
  OwnFrom.and (OwnFrom.and ((cs_own _ _ (fun s => #[.int .u64 (getSt (f s)).1])).from _) (OwnFrom.and ((cs_own _ _ (fun s => #[.int .i64 (8 * (getSt (f s)).2 : Nat)])).from _) ((cs_own _ _ (fun _ => #[sv])).from _))) (ownFrom_below (Nat.le_refl _) hB)
/-- the world that a round of Get leaves -/
theorem get_round (w W : World) (l : List UInt8) (b off i k c' : Nat) (hb : b < w.heap.size) (pre : List (El (fun j v => v = byteAt l (i + j)) k)) (y : El (fun j v => v = byteAt l (i + j)) k) (m : Int)
    (hm : 0 ≤ m ∧ m < 256 ^ pre.length) (hv0 : 0 ≤ y.1.2) (hv1 : y.1.2 ≤ 255) (hp : pre.length ≤ 7)
    (hst : getSt (pre.map (fun x => x.1.2) ++ [y.1.2]) = getStep (m, pre.length) y.1.2)
    (h0 : Cs W w.heap.size 24 #[.int .u64 m]) (h1 : Cs W (w.heap.size + 1) 3 #[.int .i64 (8 * pre.length : Nat)]) (h2 : Cs W (w.heap.size + 1 + 1) 25 #[.slice (some ⟨b, off + i, none⟩) k c']) (hB : Below w.heap.size w W) :
    Keeps (fun j v => v = byteAt l (i + j)) (w.heap.size + 1 + 1) (.slice (some ⟨b, off + i, none⟩) k c') b (off + i) k W
      ((W.setCell ⟨w.heap.size, 0, none⟩ (.int .u64 (bits BinOp.or IntKind.u64 m (IntKind.u64.wrap (y.1.2 * 2 ^ (8 * pre.length)))))).setCell ⟨w.heap.size + 1, 0, none⟩ (.int .i64 (8 * (pre.length : Int) + 8))).drew ∧
    GetI w (.slice (some ⟨b, off + i, none⟩) k c') ((pre ++ [y]).map fun x => x.1.2)
      ((W.setCell ⟨w.heap.size, 0, none⟩ (.int .u64 (bits BinOp.or IntKind.u64 m (IntKind.u64.wrap (y.1.2 * 2 ^ (8 * pre.length)))))).setCell ⟨w.heap.size + 1, 0, none⟩ (.int .i64 (8 * (pre.length : Int) + 8))).drew := by
  rw [or_sum m y.1.2 pre.length hm.1 hm.2 hv0 hv1 hp]
  have d0 := (h0.set 0 (.int .u64 (m + y.1.2 * 256 ^ pre.length))).far (p := ⟨w.heap.size + 1, 0, none⟩) (by dsimp only; omega) (.int .i64 (8 * (pre.length : Int) + 8))
  have d1 := (h1.far (p := ⟨w.heap.size, 0, none⟩) (by dsimp only; omega) (.int .u64 (m + y.1.2 * 256 ^ pre.length))).set 0 (.int .i64 (8 * (pre.length : Int) + 8))
  have d2 := (h2.far (p := ⟨w.heap.size, 0, none⟩) (by dsimp only; omega) (.int .u64 (m + y.1.2 * 256 ^ pre.length))).far (p := ⟨w.heap.size + 1, 0, none⟩) (by dsimp only; omega) (.int .i64 (8 * (pre.length : Int) + 8))
  have hBW := (((Below.refl (w.heap.size) W).setCell (p := ⟨w.heap.size, 0, none⟩) (Nat.le_refl _) (.int .u64 (m + y.1.2 * 256 ^ pre.length))).setCell (p := ⟨w.heap.size + 1, 0, none⟩) (by dsimp only; omega) (.int .i64 (8 * (pre.length : Int) + 8))).drew
  refine ⟨⟨fun _ => d2.drew.cell 0 rfl, fun q hq hv => ?_⟩, ?_⟩
  · obtain ⟨v, hv, hcv⟩ := hv
    exact ⟨v, hv, (hBW.cell (p := ⟨b, off + i + q, none⟩) hb).trans hcv⟩
  · unfold GetI
    rw [List.map_append, List.map_cons, List.map_nil, hst]
    refine ⟨⟨d0, ?_, d2⟩, hB.trans hBW⟩
    have e : (8 * (pre.length : Int) + 8) = ((8 * (pre.length + 1) : Nat) : Int) := by omega
    rw [e] at d1 ⊢
    exact d1
set_option maxRecDepth 100000 in
set_option maxHeartbeats 1000000 in
theorem Get_in (l : List UInt8) (b off c i k : Nat) (w : World) (hl : l.length ≤ maxLen) (hk1 : 1 ≤ k) (hk : k ≤ 8) (hs : sizeB k = true) (hik : i + k ≤ l.length) (hc : l.length ≤ c) (hb : b < w.heap.size)
    (hcell : ∀ j (h : j < l.length), w.cell? ⟨b, off + j, none⟩ = some (.int .u8 (l[j].toNat : Int))) :
    CallsIn Fence.wide 5 Tryd.prog 92 #[.slice (some ⟨b, off, none⟩) l.length c, .int .i64 i, .int .i64 k] w fun e W' =>
      e = .returned (.tuple #[.int .u64 (getSt ((List.range k).reverse.map fun j => byteAt l (i + j))).1, .int .i64 0]) ∧ Below w.heap.size w W' := by
  have hsize : ∀ W, Calls Tryd.prog 83 #[.int .i64 k] W fun e w' => e = .returned (.bool true) ∧ W = w' := fun W => by
    have := isSize_any k W; rwa [hs] at this
  have hplace : ∀ W, Calls Tryd.prog 103 #[.slice (some ⟨b, off, none⟩) l.length c, .int .i64 i] W fun e w' => e = .returned (.bool true) ∧ W = w' := fun W => by
    have := isPlace_any (some ⟨b, off, none⟩) l.length c i W hl
    rwa [show placeB l.length i = true by simp [placeB]; omega] at this
  have hsl : ∀ W, (Instr.slice 25 (.slice (some ⟨b, off, none⟩) l.length c) (some (.int .i64 (i : Int))) (some (.int .i64 ((i : Int) + (k : Int)))) none).run Tryd.prog W = .ok (.slice (some ⟨b, off + i, none⟩) k (c - i)) W := fun W => by
    have h := Lib.run_slice_window (P := Tryd.prog) W 25 5 Tryd.underlying25 (fun w => Tryd.sizeOf5 w) b off l.length c i (i + k) (by omega) (by omega)
    rw [show i + k - i = k by omega] at h
    rw [← h]
    rfl
  have hsum : (i : Int) + (k : Int) ≤ l.length := by omega
  have hn1 : ¬ ((l.length : Int) - i < k) := by omega
  have hn2 : decide ((l.length : Int) - i < k) = false := by simpa using hn1
  unfold maxLen at hl
  clear hn1
  refine callsIn_of_wp_marks Tryd.func92 rfl trivial ?_ rfl
  simp only [Tryd.ntmps92, List.size_toArray, List.length_cons, List.length_nil, Nat.reduceAdd, Nat.reduceSub, Array.replicate_succ, Array.replicate_zero, List.push_toArray, List.append_toArray, List.nil_append, List.cons_append]
  gi_wp2_with (first | (refine ⟨trivial, ?_⟩; gi_at_call 83; refine (callsIn_wide.2 (hsize _)).mono ?_; rintro e w' ⟨rfl, rfl⟩) | (refine ⟨trivial, ?_⟩; gi_at_call 103; refine (callsIn_wide.2 (hplace _)).mono ?_; rintro e w' ⟨rfl, rfl⟩) | (refine ⟨trivial, ?_⟩; gi_at_call 85; refine (Backward_in _ _ trivial rfl _ _ _ _).mono ?_; rintro e w' ⟨rfl, rfl⟩))
  have c0 := Cs.new w 24 #[.int .u64 0]
  have c1 := Cs.new (w.alloc (.cells #[.int .u64 0] 24)) 3 #[.int .i64 0]
  have c2 := Cs.new ((w.alloc (.cells #[.int .u64 0] 24)).alloc (.cells #[.int .i64 0] 3)) 25 #[.slice (some ⟨b, off + i, none⟩) k (c - i)]
  simp only [World.size_alloc] at c1 c2
  have hB0 := (((Below.refl w.heap.size w).alloc (Nat.le_refl _) (.cells #[.int .u64 0] 24)).alloc (by simp) (.cells #[.int .i64 0] 3)).alloc (by simp; omega) (.cells #[.slice (some ⟨b, off + i, none⟩) k (c - i)] 25)
  have hI0 : GetI w (.slice (some ⟨b, off + i, none⟩) k (c - i)) [] _ := ⟨⟨(c0.alloc _).alloc _, c1.alloc _, c2⟩, hB0⟩
  have hH0 : Holds (fun j v => v = byteAt l (i + j)) b (off + i) k _ := fun j hj => ⟨_, rfl, (hB0.cell (p := ⟨b, off + i + j, none⟩) hb).trans (by
    rw [Nat.add_assoc, hcell (i + j) (by omega)]
    simp [byteAt, List.getElem?_eq_getElem (show i + j < l.length by omega)])⟩
  refine wpIn_rangeFunc_ownG rfl (by omega) (gf := 96) (lb := #[.pointer (some ⟨w.heap.size + 1 + 1, 0, none⟩)]) rfl trivial (enters_of Tryd.func96 (by kernel_rfl) rfl)
    (back_stops Fence.wide (5 - 1) trivial rfl (by omega) (w.heap.size + 1 + 1) b (off + i) k (c - i) (fun j v => v = byteAt l (i + j)) (by omega) _ (by simp) (by simp; omega) (hI0.1.2.2.cell 0 rfl) hH0) keeps_t keeps_b (Below.refl _ _) (fun _ => rfl)
    (fun pre W => GetI w (.slice (some ⟨b, off + i, none⟩) k (c - i)) (pre.map fun x => x.1.2) W)
    (fun _ _ _ => False)
    (getI_own w _ _ _ (by simp; omega))
    (fun _ _ _ _ _ hs _ _ => hs)
    hI0
    (fun y => { tmps := (.slice (some ⟨b, off, none⟩) l.length c :: .int .i64 i :: .int .i64 k :: undef :: undef :: undef :: .int .u64 0 :: .int .i64 0 :: .pointer (some ⟨w.heap.size, 0, none⟩) :: .pointer (some ⟨w.heap.size + 1, 0, none⟩) :: undef :: .int .u8 y.1.2 :: .int .i64 k :: .bool true :: .bool false :: .bool false :: .slice (some ⟨b, off, none⟩) l.length c :: .int .i64 i :: .bool true :: .bool false :: .bool false :: .int .i64 k :: .slice (some ⟨b, off, none⟩) l.length c :: .int .i64 l.length :: .int .i64 i :: .int .i64 (l.length - i) :: .bool false :: .slice (some ⟨b, off, none⟩) l.length c :: .int .i64 i :: .int .i64 i :: .int .i64 k :: .int .i64 (i + k) :: .slice (some ⟨b, off + i, none⟩) k (c - i) :: .func (.func 96) #[] #[.pointer (some ⟨w.heap.size + 1 + 1, 0, none⟩)] :: .int .i64 (y.1.1 : Int) :: .int .u8 y.1.2 :: undef :: undef :: undef :: undef :: undef :: undef :: undef :: undef :: undef :: [] : List Value).toArray, defers := [] }) ?assign ?body ?done ?stop
  case assign =>
    intro r y W K hK
    simp only [encEl]
    gi_wp2
    exact hK
  case body =>
    clear c0 c1 c2 hB0 hI0 hH0 hsl hsize hplace
    rintro r pre y W ⟨⟨d0, d1, d2⟩, hB⟩ hlen
    have hst := getSt_snoc (pre.map fun x => x.1.2) y.1.2
    have hv0 : 0 ≤ y.1.2 := by rw [y.2.2]; unfold byteAt; omega
    have hv1 : y.1.2 ≤ 255 := by rw [y.2.2]; exact byteAt_le _ _
    have hm1 := getSt_bd (pre.map fun x => x.1.2) (fun v hv => by
      obtain ⟨z, _, rfl⟩ := List.mem_map.1 hv
      exact ⟨by rw [z.2.2]; unfold byteAt; omega, by rw [z.2.2]; exact byteAt_le _ _⟩)
    have hlen2 : (getSt (pre.map fun x => x.1.2)).2 = pre.length := by
      rw [getSt_length, List.length_map]
    generalize getSt (pre.map fun x => x.1.2) = st at *
    obtain ⟨m, q⟩ := st
    dsimp only at d0 d1 hlen2 hm1
    subst hlen2
    have HST := Lib.hid hst
    have e0 := d0.cell 0 rfl
    have f0 := d0.frozen 0
    have e1 := d1.cell 0 rfl
    have f1 := d1.frozen 0
    have e2 := d2.cell 0 rfl
    have HD0 := Lib.hid d0
    have HD1 := Lib.hid d1
    have HD2 := Lib.hid d2
    have HM := Lib.hid hm1
    clear d0 d1 d2 hst hm1
    have hmix : Tryd.prog.follows .mixedOrders = true := by kernel_rfl
    gi_wp2
    gi_region_with_o (fail)
    all_goals gi_wp2
    all_goals (try go_bits)
    all_goals (
      refine ⟨(((KeepsOthers.setCell _ _ _).trans (KeepsOthers.setCell _ _ _)).trans (KeepsOthers.drew _)).from _, ?_⟩
      exact get_round w W l b off i k (c - i) hb pre y m HM.out hv0 hv1 (by omega) HST.out HD0.out HD1.out HD2.out hB)
  case done =>
    clear c0 c1 c2 hB0 hI0 hH0 hsl hsize hplace
    rintro D ys W hD hdown ⟨⟨d0, d1, d2⟩, hB⟩ hK
    have e0 := d0.cell 0 rfl
    have HDn := Lib.hid hdown
    clear d0 d1 d2 hdown
    gi_wp2
    refine ⟨by simp, .inl ⟨_, _, rfl, run_takeDeferred hK, ?_⟩⟩
    refine ⟨_, results_tmp2 rfl _ _ _, ?_, hB.trans (belowK_b (w := w) (Nat.le_refl _) W D _ _ (by simp at hD; omega) hK rfl rfl)⟩
    have h2 := HDn.out
    unfold Down at h2
    simp only [List.range_zero, List.reverse_nil, List.append_nil] at h2
    have h3 : ys.map (fun x => x.1.2) = (List.range k).reverse.map fun j => byteAt l (i + j) := by
      rw [← h2, List.map_map]
      exact List.map_congr_left fun x _ => x.2.2
    rw [List.map_reverse] at h3
    rw [← h3]
    rfl
  case stop =>
    rintro D c pre W _ _ h _
    exact h.elim

end Go.Proofs.YtdhlejhflkfoaaaDoor

/- num.Get as a whole, and its reference; what num.Put answers. -/
namespace Go.Proofs.YtdhlejhflkfoaaaDoor
open Go.RowKit Go.Shelf
set_option linter.unusedVariables false
set_option maxRecDepth 100000

theorem byteAt_nonneg (l : List UInt8) (j : Nat) : 0 ≤ byteAt l j := by unfold byteAt; omega
theorem place_iff {n : Nat} {i : Int} : placeB n i = true ↔ 0 ≤ i ∧ i ≤ (n : Int) := by simp [placeB]
/-- the number that bytes tell, the highest first -/
def beSum : List Int → Int
  | [] => 0
  | v :: l => v * 256 ^ l.length + beSum l
theorem beSum_snoc (l : List Int) (v : Int) : beSum (l ++ [v]) = 256 * beSum l + v := by
  induction l with
  | nil => simp [beSum]
  | cons u l ih =>
    simp only [List.cons_append, beSum, ih, List.length_append, List.length_cons, List.length_nil, Nat.zero_add]
    rw [Int.pow_succ, Int.mul_add, ← Int.mul_assoc u, Int.mul_comm (u * _) 256]
    omega
theorem getSt_rev (l : List Int) : (getSt l.reverse).1 = beSum l := by
  induction l with
  | nil => rfl
  | cons v l ih => rw [List.reverse_cons, getSt_snoc]; simp only [getStep, beSum, ih, getSt_length, List.length_reverse]; omega
/-- the k bytes of l from i on -/
def seg (l : List UInt8) (i k : Nat) : List Int := (List.range k).map fun j => byteAt l (i + j)
theorem seg_succ (l : List UInt8) (i k : Nat) : seg l i (k + 1) = seg l i k ++ [byteAt l (i + k)] := by simp [seg, List.range_succ]
theorem beSum_bd (l : List UInt8) (i k : Nat) : 0 ≤ beSum (seg l i k) ∧ beSum (seg l i k) < 256 ^ k := by
  induction k with
  | zero => simp [seg, beSum]
  | succ k ih =>
    rw [seg_succ, beSum_snoc, Int.pow_succ]
    have h1 := byteAt_nonneg l (i + k)
    have h2 := byteAt_le l (i + k)
    omega
/-- what Get answers -/
def getV (l : List UInt8) (i s : Int) : Value :=
  if sizeB s = false ∨ placeB l.length i = false then .tuple #[.int .u64 0, .int .i64 2]
  else if (l.length : Int) - i < s then .tuple #[.int .u64 0, .int .i64 4]
  else .tuple #[.int .u64 (beSum (seg l i.toNat s.toNat)), .int .i64 0]
theorem size_bd {s : Int} (h : sizeB s = true) : 1 ≤ s ∧ s ≤ 8 := by
  simp only [sizeB, Bool.or_eq_true, beq_iff_eq] at h
  omega
theorem Get_any (l : List UInt8) (A : Option Addr) (c : Nat) (i s : Int) (w : World) (hl : l.length ≤ maxLen) (hlc : l.length ≤ c) (hr : Rd w A l) :
    Calls Tryd.prog 92 #[.slice A l.length c, .int .i64 i, .int .i64 s] w fun e W' => e = .returned (getV l i s) ∧ Below w.heap.size w W' := by
  unfold getV
  by_cases h1 : sizeB s = false ∨ placeB l.length i = false
  · rw [if_pos h1]
    exact (Get_arg l A c i s w hl h1).mono fun e W' ⟨he, hw⟩ => ⟨he, by rw [← hw]; exact Below.refl _ _⟩
  rw [if_neg h1]
  have hs : sizeB s = true := by
    rcases h : sizeB s with _ | _
    · exact absurd (.inl h) h1
    · rfl
  have hp : placeB l.length i = true := by
    rcases h : placeB l.length i with _ | _
    · exact absurd (.inr h) h1
    · rfl
  by_cases h2 : (l.length : Int) - i < s
  · rw [if_pos h2]
    exact (Get_short l A c i s w hl hs hp h2).mono fun e W' ⟨he, hw⟩ => ⟨he, by rw [← hw]; exact Below.refl _ _⟩
  rw [if_neg h2]
  obtain ⟨hi0, hi1⟩ := place_iff.1 hp
  obtain ⟨hs0, hs1⟩ := size_bd hs
  obtain ⟨i, rfl⟩ := Int.eq_ofNat_of_zero_le hi0
  obtain ⟨k, rfl⟩ := Int.eq_ofNat_of_zero_le (show 0 ≤ s by omega)
  simp only [Int.toNat_natCast]
  rcases hr with rfl | ⟨b, off, rfl, hcell⟩
  · simp at h2 hi1; omega
  · have hb : b < w.heap.size := lt_of_cell (hcell 0 (by omega))
    have h := callsIn_wide.1 (Get_in l b off c i k w hl (by omega) (by omega) hs (by omega) hlc hb hcell)
    have e : ((List.range k).reverse.map fun j => byteAt l (i + j)) = (seg l i k).reverse := by simp [seg, List.map_reverse]
    rw [e, getSt_rev] at h
    exact h
/-- the bytes of x in k places -/
def beL (x : Int) (k : Nat) : List UInt8 := (List.range k).map fun j => UInt8.ofNat (x / 256 ^ (k - 1 - j) % 256).toNat
theorem beL_length (x : Int) (k : Nat) : (beL x k).length = k := by simp [beL]
theorem size_cases {k : Nat} (h : sizeB k = true) : k = 1 ∨ k = 2 ∨ k = 4 ∨ k = 8 := by
  simp only [sizeB, Bool.or_eq_true, beq_iff_eq] at h
  omega
/-- the byte that Put lays at place j -/
theorem beArr_get (x : Int) (k j : Nat) (hs : sizeB k = true) (hj : j < k) : (beArr x k)[j]? = some (.int .u8 (x / 256 ^ (k - 1 - j) % 256)) := by
  rcases size_cases hs with rfl | rfl | rfl | rfl
  · obtain rfl : j = 0 := by omega
    simp [beArr, putSt, putStep, zeros, List.range_succ]
  · have : j = 0 ∨ j = 1 := by omega
    rcases this with rfl | rfl <;> simp [beArr, putSt, putStep, zeros, List.range_succ]
  · have : j = 0 ∨ j = 1 ∨ j = 2 ∨ j = 3 := by omega
    rcases this with rfl | rfl | rfl | rfl <;> simp [beArr, putSt, putStep, zeros, List.range_succ] <;> omega
  · have : j = 0 ∨ j = 1 ∨ j = 2 ∨ j = 3 ∨ j = 4 ∨ j = 5 ∨ j = 6 ∨ j = 7 := by omega
    rcases this with rfl | rfl | rfl | rfl | rfl | rfl | rfl | rfl <;> simp [beArr, putSt, putStep, zeros, List.range_succ] <;> omega
theorem rd_put {W : World} {h : Nat} (x : Int) (k : Nat) (hs : sizeB k = true) (hc : Cs W h 5 (beArr x k)) : Rd W (some ⟨h, 0, none⟩) (beL x k) := by
  refine .inr ⟨h, 0, rfl, fun j hj => ?_⟩
  rw [beL_length] at hj
  rw [Nat.zero_add, hc.cell j (beArr_get x k j hs hj)]
  have hb : 0 ≤ x / 256 ^ (k - 1 - j) % 256 ∧ x / 256 ^ (k - 1 - j) % 256 < 256 := by omega
  simp only [beL, List.getElem_map, List.getElem_range]
  generalize x / 256 ^ (k - 1 - j) % 256 = v at *
  congr 2
  have : (UInt8.ofNat v.toNat).toNat = v.toNat := by
    rw [UInt8.toNat_ofNat']
    omega
  omega
/-- What Put answers, at a new block, or not at all. -/
theorem Put_ok (x : Int) (k : Nat) (hs : sizeB k = true) (hx : 0 ≤ x) (hx' : x ≤ 18446744073709551615) (w : World) (hfit : fitsB x k = true) :
    Calls Tryd.prog 68 #[.int .u64 x, .int .i64 k] w fun e W' => e = .returned (.tuple #[.slice (some ⟨w.heap.size + 1, 0, none⟩) k k, .int .i64 0]) ∧ Below w.heap.size w W' ∧ Rd W' (some ⟨w.heap.size + 1, 0, none⟩) (beL x k) := by
  have hk := size_bd hs
  exact (callsIn_wide.1 (Put_in x k (by omega) (by omega) hs hx hx' w hfit)).mono fun e W' ⟨he, hb, hc⟩ => ⟨he, hb, rd_put x k hs hc⟩
end Go.Proofs.YtdhlejhflkfoaaaDoor

/- num.Pad and its reference. -/
namespace Go.Proofs.YtdhlejhflkfoaaaDoor
open Go.RowKit Go.Shelf
set_option linter.unusedVariables false
set_option maxRecDepth 100000

end Go.Proofs.YtdhlejhflkfoaaaDoor

/- num.Zero and its reference. -/
namespace Go.Proofs.YtdhlejhflkfoaaaDoor
open Go.RowKit Go.Shelf
set_option linter.unusedVariables false
set_option maxRecDepth 100000

end Go.Proofs.YtdhlejhflkfoaaaDoor

/- Sums of bytes as plain numbers; Take and by. -/
namespace Go.Proofs.YtdhlejhflkfoaaaDoor
open Go.RowKit Go.Shelf
set_option linter.unusedVariables false
set_option maxRecDepth 100000

end Go.Proofs.YtdhlejhflkfoaaaDoor

/- sum.More, sum.Of, and their references. -/
namespace Go.Proofs.YtdhlejhflkfoaaaDoor
open Go.RowKit Go.Shelf
set_option linter.unusedVariables false
set_option maxRecDepth 100000

end Go.Proofs.YtdhlejhflkfoaaaDoor
/- The reference of num.Put. -/
namespace Go.Proofs.YtdhlejhflkfoaaaDoor
open Go.RowKit Go.Shelf
set_option linter.unusedVariables false
set_option maxRecDepth 100000

end Go.Proofs.YtdhlejhflkfoaaaDoor
