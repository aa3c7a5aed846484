/- slices.Backward over bytes: the iterator, place by place, from the last one down. -/
import Derived.RangeFuncNested
import Derived.RangeFuncBound
import Derived.RangeFuncCalls
import Derived.RangeFuncLeaves
import Derived.RangeFuncBox
import Derived.Shelf.Abstract
import Derived.Shelf.RegionOpen
import Derived.WalkKit
import Derived.OwnWalkIn
import Derived.TacticsInMore
import Derived.LoopNIn
import Derived.LoopIn
import Derived.Test.YtlhbipommhljiaaWords
namespace Go.Proofs.Ytlhbipommhljiaa
open Go.RowKit Go.Shelf
set_option linter.unusedVariables false
attribute [local go_sem] Oper.semAt_some

/-- What a round is handed: a place below len, and a byte of which V holds there. -/
abbrev El (V : Nat → Int → Prop) (len : Nat) := { p : Nat × Int // p.1 < len ∧ V p.1 p.2 }
def encEl {V : Nat → Int → Prop} {len : Nat} (x : El V len) : Array Value := #[.int .i64 (x.1.1 : Int), .int .u8 x.1.2]
/-- The bytes that stand from off on in block b: V holds of each. -/
def Holds (V : Nat → Int → Prop) (b off len : Nat) (W : World) : Prop := ∀ j, j < len → ∃ v, V j v ∧ W.cell? ⟨b, off + j, none⟩ = some (.int .u8 v)
/-- What a round that goes on keeps: the boxed slice, and that V holds of each byte. -/
def Keeps (V : Nat → Int → Prop) (Bs : Nat) (sv : Value) (b off len : Nat) (A B : World) : Prop :=
  (A.cell? ⟨Bs, 0, none⟩ = some sv → B.cell? ⟨Bs, 0, none⟩ = some sv) ∧ (∀ j, j < len → (∃ v, V j v ∧ A.cell? ⟨b, off + j, none⟩ = some (.int .u8 v)) → ∃ v, V j v ∧ B.cell? ⟨b, off + j, none⟩ = some (.int .u8 v))
def Down {V : Nat → Int → Prop} {len : Nat} (k : Nat) (pre : List (El V len)) : Prop := pre.map (fun x => x.1.1) ++ (List.range k).reverse = (List.range len).reverse
theorem Down.length {V : Nat → Int → Prop} {len k : Nat} {pre : List (El V len)} (h : Down k pre) : pre.length + k = len := by
  have := congrArg List.length h
  simpa using this
theorem Down.next {V : Nat → Int → Prop} {len k : Nat} {pre : List (El V len)} (h : Down (k + 1) pre) (x : El V len) (hx : x.1.1 = k) : Down k (pre ++ [x]) := by
  unfold Down at h ⊢
  rw [← h, List.range_succ]
  simp [hx]
set_option maxRecDepth 100000 in
set_option maxHeartbeats 2000000 in
theorem back1_in (F : Fence) (n : Nat) (h29 : F.fn 47) (hro : F.round = none) (hn : 1 ≤ n) (l Bs b off len cap : Nat) (V : Nat → Int → Prop) (hreach : len ≤ 140737488355328)
    (J Jx : List (El V len) → World → Prop)
    (hY : ∀ pre (x : El V len) W, J pre W → pre.length < len → YieldAt F (n - 1) Try.prog l (encEl x) W fun e W' =>
      (e = .returned (.bool true) ∧ J (pre ++ [x]) W' ∧ Keeps V Bs (.slice (some ⟨b, off, none⟩) len cap) b off len W W') ∨ (e = .returned (.bool false) ∧ Jx (pre ++ [x]) W'))
    (W : World) (hBs : W.cell? ⟨Bs, 0, none⟩ = some (.slice (some ⟨b, off, none⟩) len cap)) (hc : Holds V b off len W) (h0 : J [] W) :
    CallsIn F n Try.prog 47 #[.func (.yield l) #[] #[], .pointer (some ⟨Bs, 0, none⟩)] W fun e W' => (∃ v, e = .returned v) ∧
      ((∃ ys, Down 0 ys ∧ J ys W') ∨ (∃ pre, (∃ k, Down k pre) ∧ Jx pre W')) := by
  refine callsIn_of_wp Try.func47 rfl h29 ?_ hro
  simp only [Try.ntmps47, List.size_toArray, List.length_cons, List.length_nil, Nat.reduceAdd, Nat.reduceSub, Array.replicate_succ, Array.replicate_zero, List.push_toArray, List.append_toArray, List.nil_append, List.cons_append]
  gi_wp2
  gi_loopw [3] (fun i wr => ∃ k : Nat, k ≤ len ∧ i = .int .i64 ((k : Int) - 1) ∧ ∃ pre : List (El V len), Down k pre ∧ J pre wr ∧ wr.cell? ⟨Bs, 0, none⟩ = some (.slice (some ⟨b, off, none⟩) len cap) ∧ Holds V b off len wr)
    (fun i _ => (intOf i + 1).toNat)
  case atStart => exact ⟨len, Nat.le_refl _, rfl, [], by simp [Down], h0, hBs, hc⟩
  case round =>
    obtain ⟨k, hk, rfl, pre, hd, hJ, hBs', hc'⟩ := hrel
    rcases k with _ | k
    · have e : (((0 : Nat) : Int) - 1) = -1 := rfl
      rw [e]
      gi_wp2
      go_end0
      exact ⟨⟨_, rfl⟩, .inl ⟨pre, hd, hJ⟩⟩
    · have e : (((k + 1 : Nat) : Int) - 1) = (k : Int) := by omega
      rw [e]
      clear e
      obtain ⟨v, hv, hcv⟩ := hc' k (by omega)
      have hl := hd.length
      obtain ⟨fn, tmps, assign, body, hy, hR⟩ := hY pre ⟨(k, v), by omega, hv⟩ wr hJ (by omega)
      dsimp only [encEl] at hy
      gi_wp2
      refine hR.mono ?_
      rintro e W3 (⟨rfl, hJ3, hk3⟩ | ⟨rfl, hJx3⟩)
      · gi_wp2
        go_roundw
        case rel => exact ⟨k, by omega, rfl, _, hd.next _ rfl, hJ3, hk3.1 hBs', fun j hj => hk3.2 j hj (hc' j hj)⟩
        case measure => simp [intOf]
      · gi_wp2
        refine bodyPost_ret (results_none rfl _ _ _) rfl ?_
        exact ⟨⟨_, rfl⟩, .inr ⟨_, ⟨k, hd.next _ rfl⟩, hJx3⟩⟩

end Go.Proofs.Ytlhbipommhljiaa
