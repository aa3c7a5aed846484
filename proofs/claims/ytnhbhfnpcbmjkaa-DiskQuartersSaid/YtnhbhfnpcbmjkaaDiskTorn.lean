/- torn: the quarters of a block that are laid over another one. -/
import Derived.Test.YtnhbhfnpcbmjkaaDisk2
import Derived.Deep.RegionLaw
import Derived.RegionTactic
namespace Go.Proofs.Ytnhbhfnpcbmjkaa
open Go.RowKit Go.Shelf Go.Maps
set_option linter.unusedVariables false

theorem over_cells (l m : List UInt8) (f : Nat) : over (cellsOf l).toArray f (cellsOf m) = (cellsOf (l.take f ++ m ++ l.drop (f + m.length))).toArray := by
  unfold over
  simp [cellsOf]
theorem At.part {w : World} {g : Nat} {t : TypeId} {l : List UInt8} (h : Cs w g t (cellsOf l).toArray) (f n : Nat) : At w g f (cellsOf ((l.drop f).take n)) :=
  At.of_cs h f _ fun j v hv => by
    simp only [cellsOf, List.map_take, List.map_drop] at hv
    rw [List.getElem?_take] at hv
    split at hv
    · rw [List.getElem?_drop] at hv
      simpa [cellsOf] using hv
    · cases hv
section
variable {w : World} {ops : Array Oper} {rest : List Oper} {o : Oper} {a : Act} {Q : Exit → Act → World → Prop} {K : Act → World → Prop}
theorem wp_copy_cells (d s : Operand) (ho : o.op = Op.call { callee := Callee.builtin Builtin.copy, args := #[d, s], argTypes := #[39, 39] }) (g f n dc sg so sc : Nat) (hd : a.eval d = .slice (some ⟨g, f, none⟩) n dc)
    (hs : a.eval s = .slice (some ⟨sg, so, none⟩) n sc) (t : TypeId) (cur : Array Value) (cs : List Value) (hg : Cs w g t cur) (hc : At w sg so cs) (hn : cs.length = n) (hfit : f + n ≤ cur.size) (h1 : ∀ v ∈ cs, v.oneCell' = true)
    (hK : K (a.put o.dst (.int .i64 (n : Int))) (w.setRow g (over cur f cs))) : o.wp Try.prog a w K Q := by
  have hrun := run_copy_row (P := Try.prog) w 39 39 o.type 5 g f n dc ⟨sg, so, none⟩ n sc cur t cs Try.underlying39 (by kernel_rfl) hg (by rw [hn]; exact (Nat.min_self n).symm) (fun j v hv => by rw [addr_add]; exact hc j v hv) (by omega) h1
  rw [hn] at hrun
  unfold Oper.wp execOp
  simp only [ho, resolve, invoke, builtin, Sem.run_bind, Sem.run_pure, Result.andThen_ok, List.map_toArray, List.map_cons, List.map_nil, hd, hs, hrun]
  unfold over at hK
  rw [hn] at hK
  exact hK
end

theorem i64_and1 (n : Int) : bits .and .i64 n 1 = n % 2 := by
  have h1 : (BitVec.ofInt 64 1).toNat = 2 ^ 1 - 1 := by decide
  have key : (BitVec.ofInt 64 n &&& BitVec.ofInt 64 1).toNat = (n % ((2 ^ 64 : Nat) : Int)).toNat % 2 ^ 1 := by
    rw [BitVec.toNat_and, BitVec.toNat_ofInt, h1, Nat.and_two_pow_sub_one_eq_mod]
  show IntKind.i64.wrap ((BitVec.ofInt 64 n &&& BitVec.ofInt 64 1).toNat : Nat) = n % 2
  rw [key, IntKind.wrap_i64]
  omega
theorem bit_walk (x : Int) (c : Bool) (h : decide (x % 2 = 1) = c) : (bits .and .i64 x 1 == 1) = c := by
  rw [i64_and1, ← h]
  by_cases e : x % 2 = 1 <;> simp [e]
/-- what stands at a round's head -/
def TornI (w : World) (g3 g4 g6 : Nat) (was b : Blk) (bs : Int) (k : Nat) (wr : World) : Prop :=
  Cs wr g3 30 (cellsOf (tornTo was b bs k)).toArray ∧ Cs wr g4 30 (cellsOf b).toArray ∧ Cs wr g6 30 (cellsOf zb).toArray ∧ Below w.heap.size w wr
theorem tornI_off {w wr : World} {g3 g4 g6 : Nat} {was b : Blk} {bs : Int} {k : Nat} (h : TornI w g3 g4 g6 was b bs k wr) (hk : bitAt bs k = false) : TornI w g3 g4 g6 was b bs (k + 1) wr := by
  unfold TornI at *
  rw [tornTo_succ, hk, if_neg (by decide)]
  exact h
theorem tornI_on {w wr : World} {g3 g4 g6 : Nat} {was b : Blk} {bs : Int} {k f : Nat} (h : TornI w g3 g4 g6 was b bs k wr) (hk : bitAt bs k = true) (hf : f = 16 * k) (hk4 : k < 4) (hb : b.length = 64) (n34 : g3 ≠ g4) (n36 : g3 ≠ g6) (hg : w.heap.size ≤ g3) :
    TornI w g3 g4 g6 was b bs (k + 1) (wr.drew.setRow g3 (over (cellsOf (tornTo was b bs k)).toArray f (cellsOf ((b.drop f).take 16)))) := by
  subst hf
  obtain ⟨h1, h2, h3, h4⟩ := h
  have hgr := grown_row wr.drew g3 (over (cellsOf (tornTo was b bs k)).toArray (16 * k) (cellsOf ((b.drop (16 * k)).take 16)))
  have ht := Turn.of_grown hgr
  refine ⟨?_, Cs.turn (Cs.drew h2) ht (fun e => n34 (by injection e)), Cs.turn (Cs.drew h3) ht (fun e => n36 (by injection e)), keep_own h4.drew hgr hg⟩
  have := (Cs.drew h1).row (over (cellsOf (tornTo was b bs k)).toArray (16 * k) (cellsOf ((b.drop (16 * k)).take 16)))
  have e : ((b.drop (16 * k)).take 16).length = 16 := by simp; omega
  rw [tornTo_succ, hk, if_pos rfl]
  rw [over_cells, e] at this ⊢
  exact this
theorem part_len (b : Blk) (hb : b.length = 64) (f : Nat) (hf : f + 16 ≤ 64) : (cellsOf ((b.drop f).take 16)).length = 16 := by
  rw [cellsOf_length]
  simp
  omega
set_option maxHeartbeats 4000000 in
theorem torn_any (was b : Blk) (bs : Int) (w : World) (hw : was.length = 64) (hb : b.length = 64) (h0 : -9223372036854775808 ≤ bs) (h1 : bs ≤ 9223372036854775807) :
    Calls Try.prog 25 #[bv was, bv b, .int .i64 bs] w fun e w' => e = .returned (bv (torn was b bs)) ∧ Below w.heap.size w w' := by
  have HW := Lib.hid hw
  have HB := Lib.hid hb
  have hlen := Lib.hid (tornTo_len was b bs hw hb)
  clear hw hb
  go_enter Try.func25, Try.ntmps25
  go_wp2_with (first
    | (refine wpList_box_blk rfl (.tmp 0) rfl was rfl ?_; intro g3 w1 hk3 hb3 hg3; go_frame; have K3 := Lib.hid hk3; have B3 := Lib.hid hb3; have G3 := Lib.hid hg3; clear hk3 hb3 hg3)
    | (refine wpList_box_blk rfl (.tmp 1) rfl b rfl ?_; intro g4 w2 hk4 hb4 hg4; go_frame; have K4 := Lib.hid hk4; have B4 := Lib.hid hb4; have G4 := Lib.hid hg4; clear hk4 hb4 hg4)
    | (refine wpList_alloc_blk rfl rfl ?_; intro g6 w3 hk6 hb6 hg6; go_frame; have K6 := Lib.hid hk6; have B6 := Lib.hid hb6; have G6 := Lib.hid hg6; clear hk6 hb6 hg6))
  have hI0 : TornI w g3 g4 g6 was b bs 0 w3 := ⟨(K3.out.below B4.out K3.out.lt).below B6.out (K3.out.below B4.out K3.out.lt).lt, K4.out.below B6.out K4.out.lt, K6.out, below_chain (below_chain B3.out B4.out) B6.out⟩
  have n34 := Lib.hid (show g3 ≠ g4 by have := K3.out.lt; have := G4.out; omega)
  have n36 := Lib.hid (show g3 ≠ g6 by have := (K3.out.below B4.out K3.out.lt).lt; have := G6.out; omega)
  have G6' := Lib.hid (show w.heap.size ≤ g6 by have := B3.out.size; have := B4.out.size; have := G6.out; omega)
  have G3' := Lib.hid G3.out
  clear K3 B3 G3 K4 B4 G4 K6 B6 G6
  have HI0 := Lib.hid hI0
  clear hI0
  go_loopw [10] (fun c wr => ∃ k : Nat, k ≤ 4 ∧ c = .int .i64 k ∧ TornI w g3 g4 g6 was b bs k wr) (fun c _ => 4 - (intOf c).toNat)
  case atStart => exact ⟨0, by decide, rfl, HI0.out⟩
  case round =>
    obtain ⟨k, hk, rfl, hI⟩ := hrel
    have HI := Lib.hid hI
    clear hI HI0
    by_cases hk4 : k < 4
    · rcases (show k = 0 ∨ k = 1 ∨ k = 2 ∨ k = 3 by omega) with rfl | rfl | rfl | rfl
      · cases hbt : bitAt bs 0
        · have hbw := bit_walk bs false (by rw [← hbt]; unfold bitAt; simp)
          have HT := Lib.hid hbt
          clear hbt
          go_wp2
          go_roundw
          case rel => exact ⟨1, by decide, rfl, tornI_off HI.out HT.out⟩
          case measure => simp [intOf]
        · have hbw := bit_walk bs true (by rw [← hbt]; unfold bitAt; simp)
          have HT := Lib.hid hbt
          clear hbt
          go_wp2
          go_region_law (refine step_wp rfl (wp_copy_cells (.tmp 25) (.tmp 28) rfl g3 0 16 64 g4 0 64 (by simp [Act.eval, Act.put]) (by simp [Act.eval, Act.put]) 30 _ _ (Cs.drew HI.out.1) (At.part (Cs.drew HI.out.2.1) 0 16) (part_len b HB.out 0 (by decide)) (by simp [cellsOf_length, hlen.out]) (cellsOf_one _) ?_))
          go_wp2
          go_roundw
          case rel => exact ⟨1, by decide, rfl, tornI_on HI.out HT.out rfl (by decide) HB.out n34.out n36.out G3'.out⟩
          case measure => simp [intOf]
      · cases hbt : bitAt bs 1
        · have hbw := bit_walk (bs / 2) false (by exact hbt)
          have HT := Lib.hid hbt
          clear hbt
          go_wp2
          go_roundw
          case rel => exact ⟨2, by decide, rfl, tornI_off HI.out HT.out⟩
          case measure => simp [intOf]
        · have hbw := bit_walk (bs / 2) true (by exact hbt)
          have HT := Lib.hid hbt
          clear hbt
          go_wp2
          go_region_law (refine step_wp rfl (wp_copy_cells (.tmp 25) (.tmp 28) rfl g3 16 16 48 g4 16 48 (by simp [Act.eval, Act.put]) (by simp [Act.eval, Act.put]) 30 _ _ (Cs.drew HI.out.1) (At.part (Cs.drew HI.out.2.1) 16 16) (part_len b HB.out 16 (by decide)) (by simp [cellsOf_length, hlen.out]) (cellsOf_one _) ?_))
          go_wp2
          go_roundw
          case rel => exact ⟨2, by decide, rfl, tornI_on HI.out HT.out rfl (by decide) HB.out n34.out n36.out G3'.out⟩
          case measure => simp [intOf]
      · cases hbt : bitAt bs 2
        · have hbw := bit_walk (bs / 4) false (by exact hbt)
          have HT := Lib.hid hbt
          clear hbt
          go_wp2
          go_roundw
          case rel => exact ⟨3, by decide, rfl, tornI_off HI.out HT.out⟩
          case measure => simp [intOf]
        · have hbw := bit_walk (bs / 4) true (by exact hbt)
          have HT := Lib.hid hbt
          clear hbt
          go_wp2
          go_region_law (refine step_wp rfl (wp_copy_cells (.tmp 25) (.tmp 28) rfl g3 32 16 32 g4 32 32 (by simp [Act.eval, Act.put]) (by simp [Act.eval, Act.put]) 30 _ _ (Cs.drew HI.out.1) (At.part (Cs.drew HI.out.2.1) 32 16) (part_len b HB.out 32 (by decide)) (by simp [cellsOf_length, hlen.out]) (cellsOf_one _) ?_))
          go_wp2
          go_roundw
          case rel => exact ⟨3, by decide, rfl, tornI_on HI.out HT.out rfl (by decide) HB.out n34.out n36.out G3'.out⟩
          case measure => simp [intOf]
      · cases hbt : bitAt bs 3
        · have hbw := bit_walk (bs / 8) false (by exact hbt)
          have HT := Lib.hid hbt
          clear hbt
          go_wp2
          go_roundw
          case rel => exact ⟨4, by decide, rfl, tornI_off HI.out HT.out⟩
          case measure => simp [intOf]
        · have hbw := bit_walk (bs / 8) true (by exact hbt)
          have HT := Lib.hid hbt
          clear hbt
          go_wp2
          go_region_law (refine step_wp rfl (wp_copy_cells (.tmp 25) (.tmp 28) rfl g3 48 16 16 g4 48 16 (by simp [Act.eval, Act.put]) (by simp [Act.eval, Act.put]) 30 _ _ (Cs.drew HI.out.1) (At.part (Cs.drew HI.out.2.1) 48 16) (part_len b HB.out 48 (by decide)) (by simp [cellsOf_length, hlen.out]) (cellsOf_one _) ?_))
          go_wp2
          go_roundw
          case rel => exact ⟨4, by decide, rfl, tornI_on HI.out HT.out rfl (by decide) HB.out n34.out n36.out G3'.out⟩
          case measure => simp [intOf]
    · obtain rfl : k = 4 := by omega
      have K3 := Lib.hid HI.out.1
      go_wp2_with (first
        | (refine wpList_load_blk rfl _ rfl g3 0 rfl (torn was b bs) (torn_len was b bs HW.out HB.out) (At.whole K3.out) ?_; go_frame)
        | (refine wpList_fill_blk rfl _ _ rfl g6 rfl (torn was b bs) rfl (torn_len was b bs HW.out HB.out) HI.out.2.2.1 ?_; intro w5 hk5 hr5; go_frame))
      refine bodyPost_ret (v := bv (torn was b bs)) ?_ rfl ⟨rfl, keep_own HI.out.2.2.2 hr5 G6'.out⟩
      exact end_blk1 (p := 6) rfl _ _ g6 0 _ rfl (At.whole hk5) (torn_len was b bs HW.out HB.out)

end Go.Proofs.Ytnhbhfnpcbmjkaa
