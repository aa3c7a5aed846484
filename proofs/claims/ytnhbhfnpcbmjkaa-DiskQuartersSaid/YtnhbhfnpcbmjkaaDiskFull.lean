/- full: a block of one byte. -/
import Derived.Test.YtnhbhfnpcbmjkaaDiskTorn
namespace Go.Proofs.Ytnhbhfnpcbmjkaa
open Go.RowKit Go.Shelf Go.Maps
set_option linter.unusedVariables false

def fb (c : UInt8) : Blk := List.replicate 64 c
theorem fb_len (c : UInt8) : (fb c).length = 64 := by simp [fb]
def fillTo (c : UInt8) (k : Nat) : Blk := List.replicate k c ++ List.replicate (64 - k) 0
theorem fillTo_len (c : UInt8) (k : Nat) (h : k ≤ 64) : (fillTo c k).length = 64 := by simp [fillTo]; omega
theorem fillTo_all (c : UInt8) : fillTo c 64 = fb c := by simp [fillTo, fb]
theorem fillTo_set (c : UInt8) (k : Nat) (h : k < 64) : (fillTo c k).set k c = fillTo c (k + 1) := by
  unfold fillTo
  obtain ⟨m, hm⟩ : ∃ m, 64 - k = m + 1 := ⟨64 - k - 1, by omega⟩
  rw [hm, show 64 - (k + 1) = m by omega, List.replicate_succ, List.set_append_right _ _ (by simp)]
  simp [List.replicate_succ']
theorem fillTo_at (c : UInt8) (k j : Nat) (h : k ≤ 64) (hj : j < 64) : (cellsOf (fillTo c k))[j]? = some (.int .u8 ((if j < k then c else 0).toNat : Int)) := by
  unfold cellsOf fillTo
  rw [List.getElem?_map]
  by_cases h1 : j < k
  · rw [List.getElem?_append_left (by simpa using h1), List.getElem?_replicate, if_pos h1, if_pos h1]
    rfl
  · rw [List.getElem?_append_right (by simp; omega), List.getElem?_replicate, if_pos (by simp; omega), if_neg h1]
    rfl
theorem build_first (c : UInt8) (w : World) : (Instr.build 30 #[(0, .int .u8 (c.toNat : Int))]).run Try.prog w = .ok (bv (fillTo c 1)) w := by
  have hz := zero30
  have hs := Try.sizeOf5
  simp only [Instr.build, hz, Sem.run_bind, Result.andThen_ok, run_underlying Try.underlying30, hs]
  rfl
section
variable {w : World} {ops : Array Oper} {rest : List Oper} {o : Oper} {a : Act} {Q : Exit → Act → World → Prop} {K : Act → World → Prop}
theorem wpList_build_first (hgd : o.guard = none) (x : Operand) (ho : o.op = .build 30 #[(0, x)]) (c : UInt8) (hx : a.eval x = .int .u8 (c.toNat : Int)) (hK : wpList Try.prog ops Q rest (a.put o.dst (bv (fillTo c 1))) w) : wpList Try.prog ops Q (o :: rest) a w :=
  wpList_plain hgd fun _ hh => by
    have hrun := build_first c w
    unfold Oper.wp execOp
    simp only [ho, hx, List.map_toArray, List.map_cons, List.map_nil, hrun, Sem.run_bind, Sem.run_pure, Result.andThen_ok]
    exact hh _ _ hK
end
set_option maxHeartbeats 1000000 in
theorem full_any (c : UInt8) (w : World) : Calls Try.prog 26 #[.int .u8 (c.toNat : Int)] w fun e w' => e = .returned (bv (fb c)) ∧ Below w.heap.size w w' := by
  go_enter Try.func26, Try.ntmps26
  go_wp2_with (first
    | (have _t := tok1; refine wpList_alloc_blk rfl rfl ?_; intro g3 w2 hk2 hb2 hg2; go_frame; have K2 := Lib.hid hk2; have B2 := Lib.hid hb2; have G2 := Lib.hid hg2; clear hk2 hb2 hg2 _t tok1)
    | (refine wpList_alloc_blk rfl rfl ?_; intro g2 w1 hk1 hb1 hg1; go_frame; have K1 := Lib.hid hk1; have B1 := Lib.hid hb1; have G1 := Lib.hid hg1; clear hk1 hb1 hg1; have tok1 : True := trivial)
    | (refine wpList_build_first rfl (.tmp 5) rfl c rfl ?_; go_frame)
    | (refine wpList_fill_blk rfl _ _ rfl g3 rfl (fillTo c 1) rfl (fillTo_len c 1 (by decide)) K2.out ?_; intro w3 hk3 hr3; go_frame; have K3 := Lib.hid hk3; have R3 := Lib.hid hr3; clear hk3 hr3))
  have ne : g2 ≠ g3 := by have := K1.out.lt; have := G2.out; omega
  have HI0 := Lib.hid (show Cs w3 g3 30 (cellsOf (fillTo c 1)).toArray ∧ Cs w3 g2 30 (cellsOf zb).toArray ∧ Below w.heap.size w w3 from
    ⟨K3.out, (K1.out.below B2.out K1.out.lt).turn (Turn.of_grown R3.out) (fun e => ne (by injection e with e; exact e.symm)), keep_own (below_chain B1.out B2.out) R3.out (by have := B1.out.size; have := G2.out; omega)⟩)
  have G3 := Lib.hid (show w.heap.size ≤ g3 by have := B1.out.size; have := G2.out; omega)
  have NE := Lib.hid ne
  clear K1 B1 K2 B2 G2 K3 R3 ne
  go_loopw [4] (fun i wr => ∃ k : Nat, 1 ≤ k ∧ k ≤ 64 ∧ i = .int .i64 k ∧ Cs wr g3 30 (cellsOf (fillTo c k)).toArray ∧ Cs wr g2 30 (cellsOf zb).toArray ∧ Below w.heap.size w wr) (fun i _ => 64 - (intOf i).toNat)
  case atStart => exact ⟨1, by decide, by decide, rfl, HI0.out⟩
  case round =>
    obtain ⟨k, hk1, hk, rfl, hI⟩ := hrel
    have HI := Lib.hid hI
    clear hI HI0
    by_cases hlt : k < 64
    · have c0 : wr.cell? ⟨g3, 0, none⟩ = some (.int .u8 (c.toNat : Int)) := HI.out.1.cell 0 (by rw [List.getElem?_toArray, fillTo_at c k 0 hk (by decide), if_pos (by omega)])
      have ck : wr.cell? ⟨g3, k, none⟩ = some (.int .u8 0) := HI.out.1.cell k (by rw [List.getElem?_toArray, fillTo_at c k k hk hlt, if_neg (by omega)]; rfl)
      have fk := HI.out.1.frozen k
      have HS := Lib.hid (HI.out.1.set k (.int .u8 (c.toNat : Int)))
      have hlt' : (k : Int) < 64 := by omega
      go_wp2
      go_roundw
      case rel =>
        refine ⟨k + 1, by omega, by omega, by go_num, ?_, HI.out.2.1.far (fun e => NE.out e) _, HI.out.2.2.setCell G3.out _⟩
        have := HS.out
        rw [show (cellsOf (fillTo c k)).toArray.setIfInBounds k (.int .u8 (c.toNat : Int)) = (cellsOf (fillTo c (k + 1))).toArray from by
          rw [← fillTo_set c k hlt]; simp [cellsOf, List.map_set]] at this
        exact this
      case measure => simp [intOf]; omega
    · obtain rfl : k = 64 := by omega
      have K3 := Lib.hid HI.out.1
      go_wp2_with (first
        | (refine wpList_load_blk rfl _ rfl g3 0 rfl (fillTo c 64) (fillTo_len c 64 (by decide)) (At.whole K3.out) ?_; go_frame)
        | (refine wpList_fill_blk rfl _ _ rfl g2 rfl (fillTo c 64) rfl (fillTo_len c 64 (by decide)) HI.out.2.1 ?_; intro w5 hk5 hr5; go_frame))
      rw [fillTo_all] at hk5
      refine bodyPost_ret (v := bv (fb c)) ?_ rfl ⟨rfl, keep_own HI.out.2.2 hr5 G1.out⟩
      exact end_blk1 (p := 2) rfl _ _ g2 0 _ rfl (At.whole hk5) (fb_len c)

end Go.Proofs.Ytnhbhfnpcbmjkaa
