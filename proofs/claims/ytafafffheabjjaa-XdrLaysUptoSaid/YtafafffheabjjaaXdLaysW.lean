/- XdrLays: the walk. -/
import Derived.Test.YtafafffheabjjaaXdTh
namespace Go.Proofs.Ytafafffheabjjaa
open Go.RowKit Go.Shelf
set_option linter.unusedVariables false
set_option maxRecDepth 100000
set_option linter.unusedSimpArgs false

/-- a writer and a list of one's own, apart from one another -/
structure LaysI (w wr : World) (wb : Nat) (v u : Value) (l m : List UInt8) : Prop where
  at' : WrAt wr wb v l
  own : wr.ownsRow w.heap.size 5 1 u m.length (cellsOf m)
  dis : ∀ q, v.ownBlock = some q → u.ownBlock ≠ some q
  bel : Below w.heap.size w wr
  new : w.heap.size ≤ wb
  vnew : ∀ q, v.ownBlock = some q → w.heap.size ≤ q
theorem LaysI.below {w wr w' : World} {wb : Nat} {v u : Value} {l m : List UInt8} (h : LaysI w wr wb v u l m) (hb : Below wr.heap.size wr w') : LaysI w w' wb v u l m :=
  ⟨h.at'.below hb, ownsRow_turn' h.own (Turn.of_below hb fun _ => False) (fun _ _ h => h), h.dis, below_chain h.bel hb, h.new, h.vnew⟩
theorem LaysI.une {w wr : World} {wb : Nat} {v u : Value} {l m : List UInt8} (h : LaysI w wr wb v u l m) : u.ownBlock ≠ some wb := fun e => by
  obtain ⟨_, cs, hc⟩ := own_blk h.own e
  exact Cs.ne hc h.at'.cell (by decide) rfl
theorem LaysI.layF {w wr : World} {wb : Nat} {v u : Value} {l m : List UInt8} (h : LaysI w wr wb v u l m) : ∀ k, LayF wb v k → w.heap.size ≤ k ∧ k < wr.heap.size := fun k hk => by
  rcases hk with rfl | hk
  · exact ⟨h.new, h.at'.cell.lt⟩
  · exact ⟨h.vnew k hk, h.at'.lt k hk⟩
theorem LaysI.laid {w wr : World} {wb : Nat} {v u : Value} {l l' m : List UInt8} {e : Ending} {w' : World} (h : LaysI w wr wb v u l m) (k : Laid wb v l' wr e w') : ∃ v', LaysI w w' wb v' u l' m := by
  obtain ⟨-, v', h1, h2, h3⟩ := k
  have hul := h.own.lt
  refine ⟨v', h1, ownsRow_turn' h.own h2 fun q hq hh => ?_, fun q hq e => ?_, h.bel.trans (h2.below h.bel.size fun q hq => (h.layF q hq).1), h.new, fun q hq => ?_⟩
  · rcases hh with rfl | hh
    · exact h.une hq
    · exact h.dis q hh hq
  · rcases h3 q hq with h4 | h4
    · exact h.dis q h4 e
    · have := (hul q e).2; omega
  · rcases h3 q hq with h4 | h4
    · exact h.vnew q h4
    · have := h.bel.size; omega
theorem LaysI.app {w wr w' : World} {wb : Nat} {v u u' : Value} {l m y : List UInt8} (h : LaysI w wr wb v u l m) (ho : w'.ownsRow w.heap.size 5 1 u' (m.length + y.length) (cellsOf (m ++ y))) (hg : wr.grownBy w' u.ownBlock) (hto : OwnTo wr u u') : LaysI w w' wb v u' l (m ++ y) := by
  refine ⟨h.at'.turn (Turn.of_grown hg) h.une (fun q hq e => h.dis q hq e), by rw [List.length_append]; exact ho, fun q hq e => ?_, below_own h.bel hg h.own (Nat.le_refl _) h.bel.size, h.new, h.vnew⟩
  rcases hto q e with h1 | h1
  · exact h.dis q hq h1
  · have := h.at'.lt q hq; omega
/-- a round of XdrLays -/
def LaysRel (w : World) (wb n : Nat) (u i : Value) (wr : World) : Prop := ∃ (k : Nat) (v : Value) (l : List UInt8), k ≤ n ∧ k ≤ 100 ∧ i = .int .i64 (k : Int) ∧ LaysI w wr wb v u l l ∧ l.length ≤ k * 1048600
set_option maxHeartbeats 16000000 in
theorem lays9_walk (l0 : List Th) (A0 : Option Addr) (c0 : Nat) (n1 : Nat) (w : World) (rd0 : RdX thingE w (· < w.heap.size) A0 l0) (hbb0 : ∀ z ∈ l0, z.b.length ≤ 1048576) (hlc0 : l0.length ≤ c0) (hcm0 : c0 ≤ maxLen) (hi1 : n1 < 256) :
    Calls Try.prog 3 #[.slice A0 l0.length c0, .int .u8 (n1 : Int)] w fun e w' => e = .returned (.bool true) ∧ Below w.heap.size w w' := by
  obtain ⟨bx, hbx, hor⟩ := or_one n1 hi1
  have hbx' : (bx : Int) ≤ 255 := by omega
  have hm1 : (l0.length : Int) ≤ 9223372036854775807 := by unfold maxLen at hcm0; omega
  have R0 := Lib.hid rd0
  have HBB := Lib.hid hbb0
  have HBX := Lib.hid hbx
  clear rd0 hbb0 hlc0 hcm0 hi1 hbx
  go_enter Try.func3, Try.ntmps3
  go_wp2_with fail
  have hst := WrB.start (Below.refl w.heap.size w)
  have I0 := Lib.hid (show LaysI w (w.alloc (.cells #[.slice none 0 0] 26)) w.heap.size (.slice none 0 0) (.slice none 0 0) [] [] from ⟨hst.at', World.ownsRow_nil _ _ _ _, (fun q h => by cases h), hst.bel, hst.new, (fun q h => by cases h)⟩)
  obtain ⟨wb, hwb⟩ : ∃ wb, wb = w.heap.size := ⟨_, rfl⟩
  have hpq : (Value.pointer (some ⟨w.heap.size, 0, none⟩)) = .pointer (some ⟨wb, 0, none⟩) := by rw [hwb]
  rw [hpq]
  have I1 : Hid (LaysI w (w.alloc (.cells #[.slice none 0 0] 26)) wb (.slice none 0 0) (.slice none 0 0) [] []) := by rw [hwb]; exact I0
  generalize w.alloc (.cells #[.slice none 0 0] 26) = W at *
  clear hst I0 hwb hpq
  go_loopw [6, 7] (fun u i wr => LaysRel w wb l0.length u i wr) (fun _ i _ => 100 - (intOf i).toNat)
  case atStart => exact ⟨0, _, [], Nat.zero_le _, Nat.zero_le _, rfl, I1.out, Nat.zero_le _⟩
  case round =>
    obtain ⟨k, v, l, hk, hk60, rfl, hI, hll⟩ := hrel
    obtain ⟨Au, Nu, cu, rfl, -⟩ := own_slice hI.own
    have KI := Lib.hid hI
    have HLL := Lib.hid hll
    clear hI hll I1
    by_cases hgo : k < l0.length ∧ k < 100
    · obtain ⟨hlt, h60⟩ := hgo
      have hlt' : (k : Int) < (l0.length : Int) := by omega
      have h60' : (k : Int) < 100 := by omega
      have hx := R0.out.below KI.out.bel
      obtain ⟨b, off, cs, rfl, ⟨vb, hcs, hvb, hok⟩, hat⟩ := hx.get k hlt
      have hbl := HBB.out _ (List.getElem_mem hlt)
      obtain ⟨hw0, hn0, -, -⟩ := hok
      subst hcs
      clear hx
      obtain ⟨x, hxe⟩ : ∃ x, x = l0[k] := ⟨_, rfl⟩
      rw [← hxe] at hvb hat hbl hw0 hn0
      clear hxe
      obtain ⟨what, nn, is, xb, most⟩ := x
      dsimp only at hvb hbl hw0 hn0
      obtain ⟨Ab, cb, rfl, -⟩ := id hvb
      have hat' : At wr b (off + k * 5) [.int .u8 (what : Int), .int .u64 (nn : Int), .bool is, .slice Ab xb.length cb, .int .i64 most] := hat
      have HAT := Lib.hid hat'
      have VB := Lib.hid hvb
      have HN := Lib.hid hn0
      have HBL := Lib.hid hbl
      have hw0' : (what : Int) ≤ 255 := by omega
      have h4 : what % 4 = 0 ∨ what % 4 = 1 ∨ what % 4 = 2 ∨ what % 4 = 3 := by omega
      have hwr := wrap32' nn
      have h32 : nn % 4294967296 < 4294967296 := Nat.mod_lt _ (by decide)
      have hnn : (nn : Int) ≤ 18446744073709551615 := by omega
      generalize nn % 4294967296 = n32 at *
      clear hat hat' hvb hw0 hn0 hbl
      rcases h4 with h4 | h4 | h4 | h4
      · have hq : (what : Int) % 4 = 0 := by omega
        clear h4
        go_wp2_with (first
          | ((with_reducible show wpList _ _ _ _ _ wr); refine wpList_load_agg rfl 29 _ rfl b (off + k * 5) rfl [.int .u8 (what : Int), .int .u64 (nn : Int), .bool is, .slice Ab xb.length cb, .int .i64 most] HAT.out _ Try.underlying29 rfl infoTh ?_; go_frame)
          | ((with_reducible show wpList _ _ _ _ _ wr); refine wpList_allocS rfl 29 rfl _ zeroTh ?_; intro g1 w1 hk1 hb1 hg1; go_frame; have K1 := Lib.hid hk1; have B1 := Lib.hid hb1; have G1 := Lib.hid hg1; clear hk1 hb1 hg1)
          | ((with_reducible show wpList _ _ _ _ _ w1); refine wpList_storeS rfl 29 _ _ rfl g1 rfl [.int .u8 (what : Int), .int .u64 (nn : Int), .bool is, .slice Ab xb.length cb, .int .i64 most] thZero rfl K1.out rfl (thOne rfl) infoTh ?_; intro w2 hk2 ht2; go_frame; have K2 := Lib.hid hk2; have B2 := Lib.hid (below_turn B1.out ht2 B1.out.size G1.out); have c0 := hk2.cell 0 rfl; have c1 := hk2.cell 1 rfl; have c2 := hk2.cell 2 rfl; have c3 := hk2.cell 3 rfl; clear hk2 ht2 K1 B1))
        have I2 := Lib.hid (KI.out.below B2.out)
        have V2 := Lib.hid (VB.out.below B2.out)
        obtain ⟨A', c', e', hr2, hA2, -, -⟩ := id V2.out
        cases e'
        refine (Wide_ty xb Ab cb w2 (by have := HBL.out; omega) hr2.rd hA2).mono ?_
        clear hr2
        rintro e w3 ⟨g, cap, rfl, hc3, hcm, hrw, -, hg0, hg3, hb3⟩
        have I3 := Lib.hid (I2.out.below hb3)
        have V3 := Lib.hid (V2.out.below hb3)
        have K3 := Lib.hid (K2.out.below hb3 K2.out.lt)
        have RW3 := Lib.hid hrw
        have HC := Lib.hid (And.intro hc3 hcm)
        have hsz := B2.out.size
        have hgl : wr.heap.size ≤ g ∧ g < w3.heap.size := ⟨by omega, hg3⟩
        have hg1l : wr.heap.size ≤ g1 ∧ g1 < w3.heap.size := ⟨G1.out, K3.out.lt⟩
        have old3 : ∀ q, LayF wb v q → q < wr.heap.size := fun q hq => (KI.out.layF q hq).2
        have oldu : ∀ q, (Value.slice Au Nu cu).ownBlock = some q → q < wr.heap.size := fun q hq => (KI.out.own.lt q hq).2
        have OLD := Lib.hid (And.intro old3 oldu)
        clear hrw hc3 hcm hb3 I2 V2 K2 c0 c1 c2 c3 old3 oldu
        have c0 := K3.out.cell 0 rfl
        have c1 := K3.out.cell 1 rfl
        have c2 := K3.out.cell 2 rfl
        have c3 := K3.out.cell 3 rfl
        go_wp2_with fail
        have hlay := Number_w n32 h32 I3.out.at' (by have := HLL.out; omega)
        have hyl : (beL (n32 : Int) 4).length ≤ 1048583 := by
          rw [beL_length]; omega
        have HY := Lib.hid hyl
        clear hyl
        refine hlay.mono ?_
        clear hlay
        rintro e w4 hl
        obtain ⟨v4, hI4⟩ := I3.out.laid hl
        obtain ⟨rfl, -, -, ht4, -⟩ := hl
        have I4 := Lib.hid hI4
        have V4 := Lib.hid (V3.out.turn ht4 fun q hq hh => by have := (I3.out.layF q hh).1; omega)
        have K4 := Lib.hid (K3.out.turn ht4 fun hh => by have := OLD.out.1 g1 hh; omega)
        have RW4 := Lib.hid (RW3.out.turn ht4 fun a ha hh => by cases ha; have := OLD.out.1 g hh; omega)
        clear hI4 ht4 I3 V3 K3 RW3 c0 c1 c2 c3
        have c0 := K4.out.cell 0 rfl
        have c1 := K4.out.cell 1 rfl
        have c2 := K4.out.cell 2 rfl
        have c3 := K4.out.cell 3 rfl
        have hq := qNumber n32 h32 w4
        obtain ⟨y, hy⟩ : ∃ y, y = beL (n32 : Int) 4 := ⟨_, rfl⟩
        rw [← hy] at hq HY
        have I4' : Hid (LaysI w w4 wb v4 (.slice Au Nu cu) (l ++ y) l) := by rw [hy]; exact I4
        clear hy I4
        go_wp2_with fail
        refine hq.mono ?_
        clear hq
        rintro e w5 ⟨vy, rfl, hoy, hby⟩
        obtain ⟨Ay, cy, rfl, hry, hAy, -, -⟩ := BsV.own hoy
        have RY := Lib.hid hry.rd
        have AY := Lib.hid hAy
        have I5 := Lib.hid (I4'.out.below hby)
        have V5 := Lib.hid (V4.out.below hby)
        have K5 := Lib.hid (K4.out.below hby K4.out.lt)
        have RW5 := Lib.hid (RW4.out.below hby)
        clear hoy hry hAy hby I4' V4 K4 RW4 c0 c1 c2 c3
        go_wp2_with (at_builtin; refine append_to rfl (.tmp 49) (.tmp 53) rfl w.heap.size (.slice Au Nu cu) l.length l rfl I5.out.own Ay y y.length cy rfl rfl RY.out AY.out (by have := HLL.out; have := HY.out; omega) I5.out.bel.size ?_; intro u6 w6 ho6 hg6 hto6; obtain ⟨A6, N6, c6, rfl, -⟩ := own_slice ho6; have I6 := Lib.hid (I5.out.app ho6 hg6 hto6); have V6 := Lib.hid (V5.out.turn (Turn.of_grown hg6) fun q hq hh => by have := (own_blk I5.out.own hh).1; omega); have K6 := Lib.hid (K5.out.turn (Turn.of_grown hg6) fun hh => by have := OLD.out.2 g1 hh; omega); have RW6 := Lib.hid (RW5.out.turn (Turn.of_grown hg6) fun a ha hh => by cases ha; have := OLD.out.2 g hh; omega); clear ho6 hg6 hto6; have d3 := K6.out.cell 3 rfl)
        refine (Left_any xb Ab cb g cap w6 HC.out.1 HC.out.2 RW6.out V6.out.rdh).mono ?_
        rintro e w' ⟨rfl, rfl⟩
        go_wp2_with fail
        go_roundw
        case rel => exact ⟨k + 1, v4, l ++ y, hlt, h60, by go_num, I6.out, by rw [List.length_append]; have := HLL.out; have := HY.out; omega⟩
        case measure => simp [RowKit.intOf]; omega
      · have hq : (what : Int) % 4 = 1 := by omega
        clear h4
        go_wp2_with (first
          | ((with_reducible show wpList _ _ _ _ _ wr); refine wpList_load_agg rfl 29 _ rfl b (off + k * 5) rfl [.int .u8 (what : Int), .int .u64 (nn : Int), .bool is, .slice Ab xb.length cb, .int .i64 most] HAT.out _ Try.underlying29 rfl infoTh ?_; go_frame)
          | ((with_reducible show wpList _ _ _ _ _ wr); refine wpList_allocS rfl 29 rfl _ zeroTh ?_; intro g1 w1 hk1 hb1 hg1; go_frame; have K1 := Lib.hid hk1; have B1 := Lib.hid hb1; have G1 := Lib.hid hg1; clear hk1 hb1 hg1)
          | ((with_reducible show wpList _ _ _ _ _ w1); refine wpList_storeS rfl 29 _ _ rfl g1 rfl [.int .u8 (what : Int), .int .u64 (nn : Int), .bool is, .slice Ab xb.length cb, .int .i64 most] thZero rfl K1.out rfl (thOne rfl) infoTh ?_; intro w2 hk2 ht2; go_frame; have K2 := Lib.hid hk2; have B2 := Lib.hid (below_turn B1.out ht2 B1.out.size G1.out); have c0 := hk2.cell 0 rfl; have c1 := hk2.cell 1 rfl; have c2 := hk2.cell 2 rfl; have c3 := hk2.cell 3 rfl; clear hk2 ht2 K1 B1))
        have I2 := Lib.hid (KI.out.below B2.out)
        have V2 := Lib.hid (VB.out.below B2.out)
        obtain ⟨A', c', e', hr2, hA2, -, -⟩ := id V2.out
        cases e'
        refine (Wide_ty xb Ab cb w2 (by have := HBL.out; omega) hr2.rd hA2).mono ?_
        clear hr2
        rintro e w3 ⟨g, cap, rfl, hc3, hcm, hrw, -, hg0, hg3, hb3⟩
        have I3 := Lib.hid (I2.out.below hb3)
        have V3 := Lib.hid (V2.out.below hb3)
        have K3 := Lib.hid (K2.out.below hb3 K2.out.lt)
        have RW3 := Lib.hid hrw
        have HC := Lib.hid (And.intro hc3 hcm)
        have hsz := B2.out.size
        have hgl : wr.heap.size ≤ g ∧ g < w3.heap.size := ⟨by omega, hg3⟩
        have hg1l : wr.heap.size ≤ g1 ∧ g1 < w3.heap.size := ⟨G1.out, K3.out.lt⟩
        have old3 : ∀ q, LayF wb v q → q < wr.heap.size := fun q hq => (KI.out.layF q hq).2
        have oldu : ∀ q, (Value.slice Au Nu cu).ownBlock = some q → q < wr.heap.size := fun q hq => (KI.out.own.lt q hq).2
        have OLD := Lib.hid (And.intro old3 oldu)
        clear hrw hc3 hcm hb3 I2 V2 K2 c0 c1 c2 c3 old3 oldu
        have c0 := K3.out.cell 0 rfl
        have c1 := K3.out.cell 1 rfl
        have c2 := K3.out.cell 2 rfl
        have c3 := K3.out.cell 3 rfl
        go_wp2_with fail
        have hlay := Great_w nn HN.out I3.out.at' (by have := HLL.out; omega)
        have hyl : (beL (nn : Int) 8).length ≤ 1048583 := by
          rw [beL_length]; omega
        have HY := Lib.hid hyl
        clear hyl
        refine hlay.mono ?_
        clear hlay
        rintro e w4 hl
        obtain ⟨v4, hI4⟩ := I3.out.laid hl
        obtain ⟨rfl, -, -, ht4, -⟩ := hl
        have I4 := Lib.hid hI4
        have V4 := Lib.hid (V3.out.turn ht4 fun q hq hh => by have := (I3.out.layF q hh).1; omega)
        have K4 := Lib.hid (K3.out.turn ht4 fun hh => by have := OLD.out.1 g1 hh; omega)
        have RW4 := Lib.hid (RW3.out.turn ht4 fun a ha hh => by cases ha; have := OLD.out.1 g hh; omega)
        clear hI4 ht4 I3 V3 K3 RW3 c0 c1 c2 c3
        have c0 := K4.out.cell 0 rfl
        have c1 := K4.out.cell 1 rfl
        have c2 := K4.out.cell 2 rfl
        have c3 := K4.out.cell 3 rfl
        have hq := qGreat nn HN.out w4
        obtain ⟨y, hy⟩ : ∃ y, y = beL (nn : Int) 8 := ⟨_, rfl⟩
        rw [← hy] at hq HY
        have I4' : Hid (LaysI w w4 wb v4 (.slice Au Nu cu) (l ++ y) l) := by rw [hy]; exact I4
        clear hy I4
        go_wp2_with fail
        refine hq.mono ?_
        clear hq
        rintro e w5 ⟨vy, rfl, hoy, hby⟩
        obtain ⟨Ay, cy, rfl, hry, hAy, -, -⟩ := BsV.own hoy
        have RY := Lib.hid hry.rd
        have AY := Lib.hid hAy
        have I5 := Lib.hid (I4'.out.below hby)
        have V5 := Lib.hid (V4.out.below hby)
        have K5 := Lib.hid (K4.out.below hby K4.out.lt)
        have RW5 := Lib.hid (RW4.out.below hby)
        clear hoy hry hAy hby I4' V4 K4 RW4 c0 c1 c2 c3
        go_wp2_with (at_builtin; refine append_to rfl (.tmp 61) (.tmp 64) rfl w.heap.size (.slice Au Nu cu) l.length l rfl I5.out.own Ay y y.length cy rfl rfl RY.out AY.out (by have := HLL.out; have := HY.out; omega) I5.out.bel.size ?_; intro u6 w6 ho6 hg6 hto6; obtain ⟨A6, N6, c6, rfl, -⟩ := own_slice ho6; have I6 := Lib.hid (I5.out.app ho6 hg6 hto6); have V6 := Lib.hid (V5.out.turn (Turn.of_grown hg6) fun q hq hh => by have := (own_blk I5.out.own hh).1; omega); have K6 := Lib.hid (K5.out.turn (Turn.of_grown hg6) fun hh => by have := OLD.out.2 g1 hh; omega); have RW6 := Lib.hid (RW5.out.turn (Turn.of_grown hg6) fun a ha hh => by cases ha; have := OLD.out.2 g hh; omega); clear ho6 hg6 hto6; have d3 := K6.out.cell 3 rfl)
        refine (Left_any xb Ab cb g cap w6 HC.out.1 HC.out.2 RW6.out V6.out.rdh).mono ?_
        rintro e w' ⟨rfl, rfl⟩
        go_wp2_with fail
        go_roundw
        case rel => exact ⟨k + 1, v4, l ++ y, hlt, h60, by go_num, I6.out, by rw [List.length_append]; have := HLL.out; have := HY.out; omega⟩
        case measure => simp [RowKit.intOf]; omega
      · have hq : (what : Int) % 4 = 2 := by omega
        clear h4
        go_wp2_with (first
          | ((with_reducible show wpList _ _ _ _ _ wr); refine wpList_load_agg rfl 29 _ rfl b (off + k * 5) rfl [.int .u8 (what : Int), .int .u64 (nn : Int), .bool is, .slice Ab xb.length cb, .int .i64 most] HAT.out _ Try.underlying29 rfl infoTh ?_; go_frame)
          | ((with_reducible show wpList _ _ _ _ _ wr); refine wpList_allocS rfl 29 rfl _ zeroTh ?_; intro g1 w1 hk1 hb1 hg1; go_frame; have K1 := Lib.hid hk1; have B1 := Lib.hid hb1; have G1 := Lib.hid hg1; clear hk1 hb1 hg1)
          | ((with_reducible show wpList _ _ _ _ _ w1); refine wpList_storeS rfl 29 _ _ rfl g1 rfl [.int .u8 (what : Int), .int .u64 (nn : Int), .bool is, .slice Ab xb.length cb, .int .i64 most] thZero rfl K1.out rfl (thOne rfl) infoTh ?_; intro w2 hk2 ht2; go_frame; have K2 := Lib.hid hk2; have B2 := Lib.hid (below_turn B1.out ht2 B1.out.size G1.out); have c0 := hk2.cell 0 rfl; have c1 := hk2.cell 1 rfl; have c2 := hk2.cell 2 rfl; have c3 := hk2.cell 3 rfl; clear hk2 ht2 K1 B1))
        have I2 := Lib.hid (KI.out.below B2.out)
        have V2 := Lib.hid (VB.out.below B2.out)
        obtain ⟨A', c', e', hr2, hA2, -, -⟩ := id V2.out
        cases e'
        refine (Wide_ty xb Ab cb w2 (by have := HBL.out; omega) hr2.rd hA2).mono ?_
        clear hr2
        rintro e w3 ⟨g, cap, rfl, hc3, hcm, hrw, -, hg0, hg3, hb3⟩
        have I3 := Lib.hid (I2.out.below hb3)
        have V3 := Lib.hid (V2.out.below hb3)
        have K3 := Lib.hid (K2.out.below hb3 K2.out.lt)
        have RW3 := Lib.hid hrw
        have HC := Lib.hid (And.intro hc3 hcm)
        have hsz := B2.out.size
        have hgl : wr.heap.size ≤ g ∧ g < w3.heap.size := ⟨by omega, hg3⟩
        have hg1l : wr.heap.size ≤ g1 ∧ g1 < w3.heap.size := ⟨G1.out, K3.out.lt⟩
        have old3 : ∀ q, LayF wb v q → q < wr.heap.size := fun q hq => (KI.out.layF q hq).2
        have oldu : ∀ q, (Value.slice Au Nu cu).ownBlock = some q → q < wr.heap.size := fun q hq => (KI.out.own.lt q hq).2
        have OLD := Lib.hid (And.intro old3 oldu)
        clear hrw hc3 hcm hb3 I2 V2 K2 c0 c1 c2 c3 old3 oldu
        have c0 := K3.out.cell 0 rfl
        have c1 := K3.out.cell 1 rfl
        have c2 := K3.out.cell 2 rfl
        have c3 := K3.out.cell 3 rfl
        go_wp2_with fail
        have hlay := Truth_w is I3.out.at' (by have := HLL.out; omega)
        have hyl : (truthX is).length ≤ 1048583 := by
          rw [truthX_length]; omega
        have HY := Lib.hid hyl
        clear hyl
        refine hlay.mono ?_
        clear hlay
        rintro e w4 hl
        obtain ⟨v4, hI4⟩ := I3.out.laid hl
        obtain ⟨rfl, -, -, ht4, -⟩ := hl
        have I4 := Lib.hid hI4
        have V4 := Lib.hid (V3.out.turn ht4 fun q hq hh => by have := (I3.out.layF q hh).1; omega)
        have K4 := Lib.hid (K3.out.turn ht4 fun hh => by have := OLD.out.1 g1 hh; omega)
        have RW4 := Lib.hid (RW3.out.turn ht4 fun a ha hh => by cases ha; have := OLD.out.1 g hh; omega)
        clear hI4 ht4 I3 V3 K3 RW3 c0 c1 c2 c3
        have c0 := K4.out.cell 0 rfl
        have c1 := K4.out.cell 1 rfl
        have c2 := K4.out.cell 2 rfl
        have c3 := K4.out.cell 3 rfl
        have hq := qTruth is w4
        obtain ⟨y, hy⟩ : ∃ y, y = truthX is := ⟨_, rfl⟩
        rw [← hy] at hq HY
        have I4' : Hid (LaysI w w4 wb v4 (.slice Au Nu cu) (l ++ y) l) := by rw [hy]; exact I4
        clear hy I4
        go_wp2_with fail
        refine hq.mono ?_
        clear hq
        rintro e w5 ⟨vy, rfl, hoy, hby⟩
        obtain ⟨Ay, cy, rfl, hry, hAy, -, -⟩ := BsV.own hoy
        have RY := Lib.hid hry.rd
        have AY := Lib.hid hAy
        have I5 := Lib.hid (I4'.out.below hby)
        have V5 := Lib.hid (V4.out.below hby)
        have K5 := Lib.hid (K4.out.below hby K4.out.lt)
        have RW5 := Lib.hid (RW4.out.below hby)
        clear hoy hry hAy hby I4' V4 K4 RW4 c0 c1 c2 c3
        go_wp2_with (at_builtin; refine append_to rfl (.tmp 72) (.tmp 75) rfl w.heap.size (.slice Au Nu cu) l.length l rfl I5.out.own Ay y y.length cy rfl rfl RY.out AY.out (by have := HLL.out; have := HY.out; omega) I5.out.bel.size ?_; intro u6 w6 ho6 hg6 hto6; obtain ⟨A6, N6, c6, rfl, -⟩ := own_slice ho6; have I6 := Lib.hid (I5.out.app ho6 hg6 hto6); have V6 := Lib.hid (V5.out.turn (Turn.of_grown hg6) fun q hq hh => by have := (own_blk I5.out.own hh).1; omega); have K6 := Lib.hid (K5.out.turn (Turn.of_grown hg6) fun hh => by have := OLD.out.2 g1 hh; omega); have RW6 := Lib.hid (RW5.out.turn (Turn.of_grown hg6) fun a ha hh => by cases ha; have := OLD.out.2 g hh; omega); clear ho6 hg6 hto6; have d3 := K6.out.cell 3 rfl)
        refine (Left_any xb Ab cb g cap w6 HC.out.1 HC.out.2 RW6.out V6.out.rdh).mono ?_
        rintro e w' ⟨rfl, rfl⟩
        go_wp2_with fail
        go_roundw
        case rel => exact ⟨k + 1, v4, l ++ y, hlt, h60, by go_num, I6.out, by rw [List.length_append]; have := HLL.out; have := HY.out; omega⟩
        case measure => simp [RowKit.intOf]; omega
      · have hq : (what : Int) % 4 = 3 := by omega
        clear h4
        go_wp2_with (first
          | ((with_reducible show wpList _ _ _ _ _ wr); refine wpList_load_agg rfl 29 _ rfl b (off + k * 5) rfl [.int .u8 (what : Int), .int .u64 (nn : Int), .bool is, .slice Ab xb.length cb, .int .i64 most] HAT.out _ Try.underlying29 rfl infoTh ?_; go_frame)
          | ((with_reducible show wpList _ _ _ _ _ wr); refine wpList_allocS rfl 29 rfl _ zeroTh ?_; intro g1 w1 hk1 hb1 hg1; go_frame; have K1 := Lib.hid hk1; have B1 := Lib.hid hb1; have G1 := Lib.hid hg1; clear hk1 hb1 hg1)
          | ((with_reducible show wpList _ _ _ _ _ w1); refine wpList_storeS rfl 29 _ _ rfl g1 rfl [.int .u8 (what : Int), .int .u64 (nn : Int), .bool is, .slice Ab xb.length cb, .int .i64 most] thZero rfl K1.out rfl (thOne rfl) infoTh ?_; intro w2 hk2 ht2; go_frame; have K2 := Lib.hid hk2; have B2 := Lib.hid (below_turn B1.out ht2 B1.out.size G1.out); have c0 := hk2.cell 0 rfl; have c1 := hk2.cell 1 rfl; have c2 := hk2.cell 2 rfl; have c3 := hk2.cell 3 rfl; clear hk2 ht2 K1 B1))
        have I2 := Lib.hid (KI.out.below B2.out)
        have V2 := Lib.hid (VB.out.below B2.out)
        obtain ⟨A', c', e', hr2, hA2, -, -⟩ := id V2.out
        cases e'
        refine (Wide_ty xb Ab cb w2 (by have := HBL.out; omega) hr2.rd hA2).mono ?_
        clear hr2
        rintro e w3 ⟨g, cap, rfl, hc3, hcm, hrw, -, hg0, hg3, hb3⟩
        have I3 := Lib.hid (I2.out.below hb3)
        have V3 := Lib.hid (V2.out.below hb3)
        have K3 := Lib.hid (K2.out.below hb3 K2.out.lt)
        have RW3 := Lib.hid hrw
        have HC := Lib.hid (And.intro hc3 hcm)
        have hsz := B2.out.size
        have hgl : wr.heap.size ≤ g ∧ g < w3.heap.size := ⟨by omega, hg3⟩
        have hg1l : wr.heap.size ≤ g1 ∧ g1 < w3.heap.size := ⟨G1.out, K3.out.lt⟩
        have old3 : ∀ q, LayF wb v q → q < wr.heap.size := fun q hq => (KI.out.layF q hq).2
        have oldu : ∀ q, (Value.slice Au Nu cu).ownBlock = some q → q < wr.heap.size := fun q hq => (KI.out.own.lt q hq).2
        have OLD := Lib.hid (And.intro old3 oldu)
        clear hrw hc3 hcm hb3 I2 V2 K2 c0 c1 c2 c3 old3 oldu
        have c0 := K3.out.cell 0 rfl
        have c1 := K3.out.cell 1 rfl
        have c2 := K3.out.cell 2 rfl
        have c3 := K3.out.cell 3 rfl
        go_wp2_with fail
        have hlay := Bytes_w (F := (· = g)) (A := some ⟨g, 0, none⟩) (c := cap) (x := xb) I3.out.at' ⟨_, _, rfl, (rd_prefix RW3.out).f (fun b off e _ => by cases e; rfl), (fun h => by cases h), by have := HC.out.1; omega, HC.out.2⟩ (fun q hq hh => by have := OLD.out.1 q hh; omega) (by have := HBL.out; omega) (by rw [bytesX_length]; have := HLL.out; have := HBL.out; have := padN_lt xb.length; omega)
        have hyl : (bytesX xb).length ≤ 1048583 := by
          rw [bytesX_length]; have := HBL.out; have := padN_lt xb.length; omega
        have HY := Lib.hid hyl
        clear hyl
        have VA := Lib.hid (show Ab = none → xb = [] ∧ cb = 0 by
          obtain ⟨A', c', e', -, hA2, -, -⟩ := id V3.out
          cases e'
          exact hA2)
        refine hlay.mono ?_
        clear hlay
        rintro e w4 hl
        obtain ⟨v4, hI4⟩ := I3.out.laid hl
        obtain ⟨rfl, -, -, ht4, -⟩ := hl
        have I4 := Lib.hid hI4
        have V4 := Lib.hid (V3.out.turn ht4 fun q hq hh => by have := (I3.out.layF q hh).1; omega)
        have K4 := Lib.hid (K3.out.turn ht4 fun hh => by have := OLD.out.1 g1 hh; omega)
        have RW4 := Lib.hid (RW3.out.turn ht4 fun a ha hh => by cases ha; have := OLD.out.1 g hh; omega)
        clear hI4 ht4 I3 V3 K3 RW3 c0 c1 c2 c3
        have c0 := K4.out.cell 0 rfl
        have c1 := K4.out.cell 1 rfl
        have c2 := K4.out.cell 2 rfl
        have c3 := K4.out.cell 3 rfl
        have hq := qBytes xb Ab cb w4 (by have := HBL.out; omega) V4.out.rdh VA.out
        obtain ⟨y, hy⟩ : ∃ y, y = bytesX xb := ⟨_, rfl⟩
        rw [← hy] at hq HY
        have I4' : Hid (LaysI w w4 wb v4 (.slice Au Nu cu) (l ++ y) l) := by rw [hy]; exact I4
        clear hy I4
        go_wp2_with fail
        refine hq.mono ?_
        clear hq
        rintro e w5 ⟨vy, rfl, hoy, hby⟩
        obtain ⟨Ay, cy, rfl, hry, hAy, -, -⟩ := BsV.own hoy
        have RY := Lib.hid hry.rd
        have AY := Lib.hid hAy
        have I5 := Lib.hid (I4'.out.below hby)
        have V5 := Lib.hid (V4.out.below hby)
        have K5 := Lib.hid (K4.out.below hby K4.out.lt)
        have RW5 := Lib.hid (RW4.out.below hby)
        clear hoy hry hAy hby I4' V4 K4 RW4 c0 c1 c2 c3
        go_wp2_with (at_builtin; refine append_to rfl (.tmp 37) (.tmp 40) rfl w.heap.size (.slice Au Nu cu) l.length l rfl I5.out.own Ay y y.length cy rfl rfl RY.out AY.out (by have := HLL.out; have := HY.out; omega) I5.out.bel.size ?_; intro u6 w6 ho6 hg6 hto6; obtain ⟨A6, N6, c6, rfl, -⟩ := own_slice ho6; have I6 := Lib.hid (I5.out.app ho6 hg6 hto6); have V6 := Lib.hid (V5.out.turn (Turn.of_grown hg6) fun q hq hh => by have := (own_blk I5.out.own hh).1; omega); have K6 := Lib.hid (K5.out.turn (Turn.of_grown hg6) fun hh => by have := OLD.out.2 g1 hh; omega); have RW6 := Lib.hid (RW5.out.turn (Turn.of_grown hg6) fun a ha hh => by cases ha; have := OLD.out.2 g hh; omega); clear ho6 hg6 hto6; have d3 := K6.out.cell 3 rfl)
        refine (Left_any xb Ab cb g cap w6 HC.out.1 HC.out.2 RW6.out V6.out.rdh).mono ?_
        rintro e w' ⟨rfl, rfl⟩
        go_wp2_with fail
        go_roundw
        case rel => exact ⟨k + 1, v4, l ++ y, hlt, h60, by go_num, I6.out, by rw [List.length_append]; have := HLL.out; have := HY.out; omega⟩
        case measure => simp [RowKit.intOf]; omega
    · have hgo' : k = l0.length ∨ k = 100 := by omega
      by_cases hlt : k < l0.length
      · obtain rfl : k = 100 := by omega
        have hlt' : (100 : Int) < (l0.length : Int) := by omega
        clear hgo hgo'
        have hbare := fun u (h : LaysI w u wb v (.slice Au Nu cu) l l) => Bare_w h.at' (by have := HLL.out; omega)
        have HB := Lib.hid hbare
        clear hbare
        go_wp2_with fail
        refine (HB.out _ KI.out).mono ?_
        rintro e w2 ⟨va, rfl, hva, hty, hown, hb⟩
        obtain ⟨Aa, ca, rfl, -⟩ := id hva
        have I2 := Lib.hid (KI.out.below hb)
        have T2 := Lib.hid (And.intro hty hown)
        obtain ⟨Ax, cx, ex, hrx, -, -, -⟩ := BsV.own I2.out.own
        have hs := Same_any Aa Ax l l ca cx w2 hva.rdh hrx.rd
        rw [beq_self_eq_true, ← ex] at hs
        clear hva hty hown hb hrx ex
        go_wp2_with fail
        refine hs.mono ?_
        clear hs
        rintro e w' ⟨rfl, rfl⟩
        go_wp2_with fail
        refine (Spoil_ty _ bx HBX.out _ T2.out.1).mono ?_
        rintro e w3 ⟨⟨xr, rfl⟩, ht3, -⟩
        have I3 := Lib.hid (show LaysI w w3 wb v (.slice Au Nu cu) l l from ⟨I2.out.at'.turn ht3 (fun hh => by have := T2.out.2 _ hh; have := KI.out.at'.cell.lt; omega) (fun q hq hh => by have := T2.out.2 _ hh; have := KI.out.at'.lt q hq; omega), ownsRow_turn' I2.out.own ht3 (fun q hq hh => by have := T2.out.2 _ hh; have := (KI.out.own.lt q hq).2; omega), I2.out.dis, I2.out.bel.trans (ht3.below I2.out.bel.size fun q hq => by have := T2.out.2 _ hq; have := KI.out.bel.size; omega), I2.out.new, I2.out.vnew⟩)
        clear ht3 I2 T2
        go_wp2_with fail
        refine (HB.out _ I3.out).mono ?_
        rintro e w4 ⟨va, rfl, hva, -, -, hb⟩
        obtain ⟨Aa, ca, rfl, -⟩ := id hva
        have I4 := Lib.hid (I3.out.below hb)
        obtain ⟨Ax, cx, ex, hrx, -, -, -⟩ := BsV.own I4.out.own
        have hs := Same_any Aa Ax l l ca cx w4 hva.rdh hrx.rd
        rw [beq_self_eq_true, ← ex] at hs
        clear hva hb hrx ex I3
        go_wp2_with fail
        refine hs.mono ?_
        clear hs
        rintro e w' ⟨rfl, rfl⟩
        go_wp2_with fail
        refine (lives9_any _).mono ?_
        rintro e w9 ⟨rfl, hb⟩
        have BB := Lib.hid (below_chain I4.out.bel hb)
        clear hb
        go_wp2_with fail
        go_ret
        exact ⟨rfl, BB.out⟩
      · have hlt' : ¬ (k : Int) < (l0.length : Int) := by omega
        clear hgo hgo' hlt
        have hbare := fun u (h : LaysI w u wb v (.slice Au Nu cu) l l) => Bare_w h.at' (by have := HLL.out; omega)
        have HB := Lib.hid hbare
        clear hbare
        go_wp2_with fail
        refine (HB.out _ KI.out).mono ?_
        rintro e w2 ⟨va, rfl, hva, hty, hown, hb⟩
        obtain ⟨Aa, ca, rfl, -⟩ := id hva
        have I2 := Lib.hid (KI.out.below hb)
        have T2 := Lib.hid (And.intro hty hown)
        obtain ⟨Ax, cx, ex, hrx, -, -, -⟩ := BsV.own I2.out.own
        have hs := Same_any Aa Ax l l ca cx w2 hva.rdh hrx.rd
        rw [beq_self_eq_true, ← ex] at hs
        clear hva hty hown hb hrx ex
        go_wp2_with fail
        refine hs.mono ?_
        clear hs
        rintro e w' ⟨rfl, rfl⟩
        go_wp2_with fail
        refine (Spoil_ty _ bx HBX.out _ T2.out.1).mono ?_
        rintro e w3 ⟨⟨xr, rfl⟩, ht3, -⟩
        have I3 := Lib.hid (show LaysI w w3 wb v (.slice Au Nu cu) l l from ⟨I2.out.at'.turn ht3 (fun hh => by have := T2.out.2 _ hh; have := KI.out.at'.cell.lt; omega) (fun q hq hh => by have := T2.out.2 _ hh; have := KI.out.at'.lt q hq; omega), ownsRow_turn' I2.out.own ht3 (fun q hq hh => by have := T2.out.2 _ hh; have := (KI.out.own.lt q hq).2; omega), I2.out.dis, I2.out.bel.trans (ht3.below I2.out.bel.size fun q hq => by have := T2.out.2 _ hq; have := KI.out.bel.size; omega), I2.out.new, I2.out.vnew⟩)
        clear ht3 I2 T2
        go_wp2_with fail
        refine (HB.out _ I3.out).mono ?_
        rintro e w4 ⟨va, rfl, hva, -, -, hb⟩
        obtain ⟨Aa, ca, rfl, -⟩ := id hva
        have I4 := Lib.hid (I3.out.below hb)
        obtain ⟨Ax, cx, ex, hrx, -, -, -⟩ := BsV.own I4.out.own
        have hs := Same_any Aa Ax l l ca cx w4 hva.rdh hrx.rd
        rw [beq_self_eq_true, ← ex] at hs
        clear hva hb hrx ex I3
        go_wp2_with fail
        refine hs.mono ?_
        clear hs
        rintro e w' ⟨rfl, rfl⟩
        go_wp2_with fail
        refine (lives9_any _).mono ?_
        rintro e w9 ⟨rfl, hb⟩
        have BB := Lib.hid (below_chain I4.out.bel hb)
        clear hb
        go_wp2_with fail
        go_ret
        exact ⟨rfl, BB.out⟩

end Go.Proofs.Ytafafffheabjjaa
