/- SWEPT -/
import Derived.LoopIn
import Derived.LoopNIn
import Derived.Maps.OwnSet
import Derived.OwnWalkIn
import Derived.RegionIn
import Derived.Sort.KeysCollected
import Derived.Sort.MapsRangeIn
import Derived.TacticsInMore
import Derived.Test.YtfgbpinfplllgaaGreatDoorZBchAK
import Derived.Test.YtfgbpinfplllgaaGreatDoorZWordsK
import Derived.WalkKit
set_option linter.unusedVariables false
set_option linter.unusedSimpArgs false
open Go.Lib (hid)
namespace Go.Proofs.YtfgbpinfplllgaaGreatDoor
open Go.RowKit Go.Shelf Go.Maps Go.Sort
set_option maxRecDepth 100000
structure Raw where
  k : Key
  A : Option Addr
  n : Nat
  c : Nat
  g : Bool
def enc3 (x : Raw) : Value := .agg #[sv x.k, .slice x.A x.n x.c, .bool x.g]
def cells3 (x : Raw) : List Value := [sv x.k, .slice x.A x.n x.c, .bool x.g]
def chgElem : Value → Option (DataW Value × List MemPlace)
  | .agg cs => match cs.toList with
    | [.string k, .slice A n c, .bool g] => some (.held (.agg cs), [])
    | _ => none
  | _ => none
theorem chgElem_inv {v : Value} {z : DataW Value × List MemPlace} (h : chgElem v = some z) : ∃ x : Raw, v = enc3 x ∧ z = (.held (enc3 x), []) := by
  unfold chgElem at h
  split at h
  · rename_i cs
    split at h
    · rename_i k A n c g hcs
      have hc : cs = #[.string k, .slice A n c, .bool g] := Array.toList_inj.1 hcs
      subst hc
      cases h
      exact ⟨⟨k.data.toList, A, n, c, g⟩, rfl, rfl⟩
    · cases h
  · cases h
def ValAt3 (D0 : DataW Value) (p : Raw) : Prop := ∀ zd, D0.atKey (.string p.k) zd = .held (enc3 p)
def KeyIn (D0 : DataW Value) : Prop := ∀ (x : Key) (y : Raw), (∀ zd, D0.atKey (.string x) zd = .held (enc3 y)) → y.k = x
def AllOf3 (D0 : DataW Value) (ps : List Raw) : Prop := (ps.map (·.k)).Nodup ∧ ps.length ≤ Maps.size D0 ∧ (∀ x, x ∈ ps.map (·.k) ↔ has D0 (.string x) = true) ∧ ∀ p ∈ ps, ValAt3 D0 p
theorem skeyed : Keyed Tryz.prog 9 := string_keyed Tryz.underlying9
set_option maxHeartbeats 1000000 in
theorem values1_in (n : Nat) (hn : 1 ≤ n) (l Bm b nn : Nat) (D0 : DataW Value) (hki : KeyIn D0) (J Jx : List Raw → World → Prop)
    (hY : ∀ pre x W, J pre W → pre.length < Maps.size D0 → YieldAt Fence.wide (n - 1) Tryz.prog l #[enc3 x] W fun e W' =>
      (e = .returned (.bool true) ∧ J (pre ++ [x]) W' ∧ KeepsWalks W W') ∨ (e = .returned (.bool false) ∧ Jx (pre ++ [x]) W'))
    (W : World) (hJ : AbidesFrom W.heap.size J) (hm : W.cell? ⟨Bm, 0, none⟩ = some (.map (some b))) (hown : W.ownsMap Tryz.prog 9 chgElem b nn D0) (h0 : J [] W) :
    CallsIn Fence.wide n Tryz.prog 158 #[.func (.yield l) #[] #[], .pointer (some ⟨Bm, 0, none⟩)] W fun e W' => (∃ v, e = .returned v) ∧
      ((∃ ps, AllOf3 D0 ps ∧ J ps W') ∨ (∃ pre, Jx pre W')) := by
  refine callsIn_of_wp Tryz.func158 rfl trivial ?_ rfl
  simp only [Tryz.ntmps158, List.size_toArray, List.length_cons, List.length_nil, Nat.reduceAdd, Nat.reduceSub, Array.replicate_succ, Array.replicate_zero, List.push_toArray, List.append_toArray, List.nil_append, List.cons_append]
  gi_wp2_with (first
    | (gi_at_range; refine wpListIn_range_own _ rfl _ 185 rfl 9 73 skeyed Tryz.underlying185 _ b nn _ rfl hown ?_; intro w0 hrg0 hg0 hs0)
    | gi_in)
  go_frame
  gi_loopw [4] (fun _ wr => ∃ (left : Lit → Bool) (cnt : Nat) (ps : List Raw), wr.ranges Tryz.prog 9 chgElem b W.heap.size nn D0 left cnt ∧ ps.length + cnt ≤ Maps.size D0 ∧ Collected D0 left (ps.map (·.k)) ∧ (∀ p ∈ ps, ValAt3 D0 p) ∧ J ps wr)
    (fun _ wr => wr.rangeLeft b W.heap.size)
  case atStart =>
    exact ⟨_, _, [], hrg0, by simp, Collected.start D0, by simp, hJ [] W w0 none h0 hg0 (fun r e => by cases e)⟩
  case round =>
    obtain ⟨left, cnt, ps, hrg, hcs, hC, hV, hJs⟩ := hrel
    gi_wp2_with (first
      | (gi_at_next; refine wpListIn_next_ranges _ rfl _ rfl 9 skeyed chgElem encStr enc3 (fun key kl hk => by obtain ⟨x, hx, _⟩ := Maps.keyOf_str Tryz.underlying9 hk; exact ⟨x, hx⟩) (fun v y hv => by obtain ⟨c, rfl, _⟩ := chgElem_inv hv; exact ⟨c, rfl⟩) b W.heap.size nn _ _ _ rfl hrg ?_ ?_)
      | gi_in)
    · intro hc0 hl0
      gi_wp2
      go_end0
      exact ⟨⟨_, rfl⟩, .inl ⟨ps, ⟨hC.1, by omega, fun x => by rw [hC.2 x, hl0]; simp, hV⟩, hJs⟩⟩
    · intro x c kl yd yp w2 cnt2 hkey hlk hv hat hrg2 hlt hg2 hs2 hen
      obtain ⟨x', ex, rfl, _⟩ := Maps.keyOf_str Tryz.underlying9 hkey
      obtain rfl : x = x' := encStr_inj ex
      obtain ⟨c', ec, ez⟩ := chgElem_inv hv
      obtain rfl : yd = .held (enc3 c') := (Prod.mk.inj ez).1
      obtain rfl : c = c' := by
        obtain ⟨a1, a2, a3, a4, a5⟩ := c
        obtain ⟨b1, b2, b3, b4, b5⟩ := c'
        simp [enc3, sv] at ec
        obtain ⟨rfl, ⟨rfl, rfl, rfl⟩, rfl⟩ := ec
        rfl
      have hkx := hki x c hat
      obtain ⟨k3, A3, n3, c3, g3⟩ := c
      have hat' := hid hat
      clear hat ec ez hv
      simp only [enc3, sv] at hen ⊢
      simp at hkx
      subst hkx
      have hwk := hrg.iter_walk
      have HJ2 := hid (show J ps w2 from hJ _ wr w2 (some W.heap.size) hJs hg2 (fun r e => by cases e; exact ⟨Nat.le_refl _, hwk⟩))
      have HRW := hid hrg
      have HRG := hid hrg2
      have HX := hid (And.intro hlt hlk)
      have HV := hid hV
      have HC := hid hC
      have HCS := hid hcs
      clear hs2 hrg hrg2 hlt hlk hV hC hcs hkey hg2 hJs hwk
      obtain ⟨fn, tmps, assign, body, hy, hR⟩ := hY ps ⟨k3, A3, n3, c3, g3⟩ (w2.alloc (.cells #[.string ⟨k3.toArray⟩, .slice A3 n3 c3, .bool g3] 73)) (hJ _ _ _ none HJ2.out (World.grownBy_alloc w2 _ none) (fun r e => by cases e)) (by have := HX.out.1; have := HCS.out; omega)
      simp only [enc3, sv] at hy
      gi_wp2
      refine hR.mono ?_
      have hC2 : Collected D0 (fun z => left z && !z.sameKey (.string k3)) ((ps ++ [(⟨k3, A3, n3, c3, g3⟩ : Raw)]).map (·.k)) := by simpa using HC.out.step HX.out.2 hat'.out
      have hV2 : ∀ p ∈ ps ++ [(⟨k3, A3, n3, c3, g3⟩ : Raw)], ValAt3 D0 p := fun p hp => (List.mem_append.1 hp).elim (HV.out p) (fun e => by simp at e; subst e; exact hat'.out)
      rintro e W3 (⟨rfl, hJ3, hk3⟩ | ⟨rfl, hJx3⟩)
      · gi_wp2
        have hrg3 := (HRG.out.of_walks (KeepsWalks.alloc _ _)).of_walks hk3
        go_roundw
        case rel => exact ⟨_, cnt2, ps ++ [⟨k3, A3, n3, c3, g3⟩], hrg3, by have := HX.out.1; have := HCS.out; simp; omega, hC2, hV2, by simpa using hJ3⟩
        case measure => rw [hrg3.left_eq, HRW.out.left_eq]; exact HX.out.1
      · gi_wp2
        refine bodyPost_ret (results_none rfl _ _ _) rfl ?_
        exact ⟨⟨_, rfl⟩, .inr ⟨_, hJx3⟩⟩
theorem Values_v (b : Nat) (w : World) : Calls Tryz.prog 128 #[.map (some b)] w fun e w' => e = .returned (.func (.func 158) #[] #[.pointer (some ⟨w.heap.size, 0, none⟩)]) ∧ w' = w.alloc (.cells #[.map (some b)] 185) := by
  go_enter Tryz.func128, Tryz.ntmps128
  go_wp2
  go_ret
  exact ⟨rfl, rfl⟩
theorem values_item (n : Nat) (hn : 1 ≤ n) (Bm b nn : Nat) (D0 : DataW Value) (hki : KeyIn D0) (w : World) (hm : w.cell? ⟨Bm, 0, none⟩ = some (.map (some b))) (hown : w.ownsMap Tryz.prog 9 chgElem b nn D0) :
    SeqItem Fence.wide n Tryz.prog 158 #[.pointer (some ⟨Bm, 0, none⟩)] (fun x : Raw => #[enc3 x]) KeepsWalks (fun _ _ => True) (AllOf3 D0) (fun _ => True) (Maps.size D0) w := fun l J Jx W hW hJ hJx hY h0 => by
  have hown' : W.ownsMap Tryz.prog 9 chgElem b nn D0 := by
    have hbl := hown.lt
    obtain ⟨es, clock, hb, Ft, hs, hD⟩ := hown
    exact ⟨es, clock, (hW.block b hbl).trans hb, Ft, hs, hD⟩
  have hlt : Bm < w.heap.size := by
    rcases Nat.lt_or_ge Bm w.heap.size with h1 | h1
    · exact h1
    · simp [World.cell?, Array.getElem?_eq_none h1] at hm
  refine (values1_in n hn l Bm b nn D0 hki J Jx (fun pre x X h1 h2 => hY pre x X h1 trivial h2) W hJ ((hW.cell (p := ⟨Bm, 0, none⟩) hlt).trans hm) hown' h0).mono ?_
  rintro e W' ⟨h1, h2 | ⟨pre, h2⟩⟩
  · exact ⟨h1, .inl h2⟩
  · exact ⟨h1, .inr ⟨pre, trivial, h2⟩⟩
end Go.Proofs.YtfgbpinfplllgaaGreatDoor
