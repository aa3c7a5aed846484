/- Mix: the quarters of one block laid over another's. -/
import Derived.Test.YtlhbipommhljiaaSeal2
namespace Go.Proofs.Ytlhbipommhljiaa
open Go.RowKit Go.Shelf
set_option linter.unusedVariables false

theorem u8_and1 (n : Int) (h0 : 0 ≤ n) (h1 : n < 256) : bits .and .u8 n 1 = n % 2 := by
  obtain ⟨n, rfl⟩ := Int.eq_ofNat_of_zero_le h0
  have := u8_and_nat n 1 (by omega) (by decide)
  rw [show ((1 : Nat) : Int) = 1 from rfl] at this
  rw [this, Nat.and_one_is_mod]
  omega
theorem bit8_walk (x : Int) (c : Bool) (h0 : 0 ≤ x) (h1 : x < 256) (h : decide (x % 2 = 1) = c) : (bits .and .u8 x 1 == 1) = c := by
  rw [u8_and1 x h0 h1, ← h]
  by_cases e : x % 2 = 1 <;> simp [e]
section
variable {w : World} {ops : Array Oper} {rest : List Oper} {o : Oper} {a : Act} {Q : Exit → Act → World → Prop}
theorem wpList_copy_cells (hgd : o.guard = none) (d s : Operand) (ho : o.op = Op.call { callee := Callee.builtin Builtin.copy, args := #[d, s], argTypes := #[23, 23] }) (g f n dc sg so sc : Nat) (hd : a.eval d = .slice (some ⟨g, f, none⟩) n dc)
    (hs : a.eval s = .slice (some ⟨sg, so, none⟩) n sc) (t : TypeId) (cur : Array Value) (cs : List Value) (hg : Cs w g t cur) (hc : At w sg so cs) (hn : cs.length = n) (hfit : f + n ≤ cur.size) (h1 : ∀ v ∈ cs, v.oneCell' = true)
    (hK : ∀ w', w' = w.setRow g (over cur f cs) → wpList Try.prog ops Q rest (a.put o.dst (.int .i64 (n : Int))) w') : wpList Try.prog ops Q (o :: rest) a w :=
  wpList_plain hgd fun _ hh => wp_copy_cells d s ho g f n dc sg so sc hd hs t cur cs hg hc hn hfit h1 (hh _ _ (hK _ rfl))
end
/-- what stands at a round's head -/
def MixI (w : World) (g3 g4 g6 : Nat) (x y : Blk) (bs : Int) (k : Nat) (wr : World) : Prop :=
  Cs wr g3 25 (cellsOf (tornTo x y bs k)).toArray ∧ Cs wr g4 25 (cellsOf y).toArray ∧ Cs wr g6 25 (cellsOf zb).toArray ∧ Below w.heap.size w wr
theorem mixI_off {w wr : World} {g3 g4 g6 : Nat} {x y : Blk} {bs : Int} {k : Nat} (h : MixI w g3 g4 g6 x y bs k wr) (hk : bitAt bs k = false) : MixI w g3 g4 g6 x y bs (k + 1) wr := by
  unfold MixI at *
  rw [tornTo_succ, hk, if_neg (by decide)]
  exact h
theorem mixI_on {w wr w' : World} {g3 g4 g6 : Nat} {x y : Blk} {bs : Int} {k : Nat} (h : MixI w g3 g4 g6 x y bs k wr) (hk : bitAt bs k = true) (hk4 : k < 4) (hb : y.length = 64) (n34 : g3 ≠ g4) (n36 : g3 ≠ g6) (hg : w.heap.size ≤ g3)
    (hw : w' = wr.setRow g3 (over (cellsOf (tornTo x y bs k)).toArray (16 * k) (cellsOf ((y.drop (16 * k)).take 16)))) : MixI w g3 g4 g6 x y bs (k + 1) w' := by
  subst hw
  obtain ⟨h1, h2, h3, h4⟩ := h
  have hgr := grown_row wr g3 (over (cellsOf (tornTo x y bs k)).toArray (16 * k) (cellsOf ((y.drop (16 * k)).take 16)))
  have ht := Turn.of_grown hgr
  refine ⟨?_, h2.turn ht (fun e => n34 (by injection e)), h3.turn ht (fun e => n36 (by injection e)), keep_own h4 hgr hg⟩
  have := h1.row (over (cellsOf (tornTo x y bs k)).toArray (16 * k) (cellsOf ((y.drop (16 * k)).take 16)))
  have e : ((y.drop (16 * k)).take 16).length = 16 := by simp; omega
  rw [tornTo_succ, hk, if_pos rfl]
  rw [over_cells, e] at this ⊢
  exact this
set_option maxHeartbeats 1000000 in
theorem Mix_any (x y : Blk) (bs : Int) (w : World) (hx : x.length = 64) (hy : y.length = 64) (h0 : 0 ≤ bs) (h1 : bs < 256) :
    Calls Try.prog 16 #[bv x, bv y, .int .u8 bs] w fun e w' => e = .returned (bv (torn x y bs)) ∧ Below w.heap.size w w' := by
  have HX := Lib.hid hx
  have HY := Lib.hid hy
  have hlen := Lib.hid (tornTo_len x y bs hx hy)
  have h1' : bs ≤ 255 := by omega
  clear hx hy h1
  go_enter Try.func16, Try.ntmps16
  go_wp2_with (first
    | (refine wpList_box_blk rfl (.tmp 0) rfl x rfl ?_; intro g3 w1 hk3 hb3 hg3; go_frame; have K3 := Lib.hid hk3; have B3 := Lib.hid hb3; have G3 := Lib.hid hg3; clear hk3 hb3 hg3)
    | (refine wpList_box_blk rfl (.tmp 1) rfl y rfl ?_; intro g4 w2 hk4 hb4 hg4; go_frame; have K4 := Lib.hid hk4; have B4 := Lib.hid hb4; have G4 := Lib.hid hg4; clear hk4 hb4 hg4)
    | (refine wpList_alloc_blk rfl rfl ?_; intro g6 w3 hk6 hb6 hg6; go_frame; have K6 := Lib.hid hk6; have B6 := Lib.hid hb6; have G6 := Lib.hid hg6; clear hk6 hb6 hg6))
  have hI0 : MixI w g3 g4 g6 x y bs 0 w3 := ⟨(K3.out.below B4.out K3.out.lt).below B6.out (K3.out.below B4.out K3.out.lt).lt, K4.out.below B6.out K4.out.lt, K6.out, below_chain (below_chain B3.out B4.out) B6.out⟩
  have n34 := Lib.hid (show g3 ≠ g4 by have := K3.out.lt; have := G4.out; omega)
  have n36 := Lib.hid (show g3 ≠ g6 by have := (K3.out.below B4.out K3.out.lt).lt; have := G6.out; omega)
  have G6' := Lib.hid (show w.heap.size ≤ g6 by have := B3.out.size; have := B4.out.size; have := G6.out; omega)
  have G3' := Lib.hid G3.out
  clear K3 B3 G3 K4 B4 G4 K6 B6 G6
  have HI0 := Lib.hid hI0
  clear hI0
  go_loopw [8] (fun c wr => ∃ k : Nat, k ≤ 4 ∧ c = .int .i64 k ∧ MixI w g3 g4 g6 x y bs k wr) (fun c _ => 4 - (intOf c).toNat)
  case atStart => exact ⟨0, by decide, rfl, HI0.out⟩
  case round =>
    obtain ⟨k, hk, rfl, hI⟩ := hrel
    have HI := Lib.hid hI
    clear hI HI0
    by_cases hk4 : k < 4
    · have hlt' : (k : Int) < 4 := by omega
      have hp3 := piece_any g3 k hk4
      have hp4 := piece_any g4 k hk4
      have hq : 0 ≤ bs / 2 ^ k ∧ bs / 2 ^ k < 256 := by
        rcases (show k = 0 ∨ k = 1 ∨ k = 2 ∨ k = 3 by omega) with rfl | rfl | rfl | rfl <;> constructor <;> omega
      have hL := Lib.hid hk4
      cases hbt : bitAt bs k
      · have hbw := bit8_walk (bs / 2 ^ k) false hq.1 hq.2 (by rw [← hbt]; rfl)
        have HT := Lib.hid hbt
        clear hbt hp3 hp4 hk4
        go_wp2_with fail
        trace_state
        go_roundw
        case rel => exact ⟨k + 1, by have := hL.out; omega, rfl, mixI_off HI.out HT.out⟩
        case measure => simp [intOf]; omega
      · have hbw := bit8_walk (bs / 2 ^ k) true hq.1 hq.2 (by rw [← hbt]; rfl)
        have HT := Lib.hid hbt
        have HF := Lib.hid (show 16 * k + 16 ≤ 64 by omega)
        have HN := Lib.hid (mixI_on (w := w) (g3 := g3) (g4 := g4) (g6 := g6) (x := x) (y := y) (bs := bs) (k := k) (wr := wr) (w' := wr.setRow g3 (over (cellsOf (tornTo x y bs k)).toArray (16 * k) (cellsOf ((y.drop (16 * k)).take 16)))) HI.out hbt hk4 HY.out n34.out n36.out G3'.out rfl)
        have HC := Lib.hid (At.part HI.out.2.1 (16 * k) 16)
        have HP := Lib.hid (part_len y HY.out (16 * k) HF.out)
        have HL := Lib.hid (show 16 * k + 16 ≤ (cellsOf (tornTo x y bs k)).toArray.size by simp [cellsOf_length, hlen.out k (by omega)]; omega)
        generalize 16 * k = f at *
        clear hbt hk4
        go_wp2_with fail
        refine (hp3 _).mono ?_
        rintro e _ ⟨rfl, rfl⟩
        go_wp2_with fail
        refine (hp4 _).mono ?_
        rintro e _ ⟨rfl, rfl⟩
        clear hp3 hp4
        go_wp2_with (first | (refine wpList_copy_cells rfl (.tmp 17) (.tmp 19) rfl g3 f 16 16 g4 f 16 rfl rfl 25 _ _ HI.out.1 HC.out HP.out HL.out (cellsOf_one _) ?_; intro w5 hw5; have HW := Lib.hid hw5; clear hw5; go_frame))
        go_roundw
        case rel => exact ⟨k + 1, by have := hL.out; omega, rfl, by rw [HW.out]; exact HN.out⟩
        case measure => simp [intOf]; omega
    · obtain rfl : k = 4 := by omega
      rw [show ((4 : Nat) : Int) = 4 from rfl]
      have K3 := Lib.hid HI.out.1
      go_wp2_with (first
        | (refine wpList_load_blk rfl _ rfl g3 0 rfl (torn x y bs) (torn_len x y bs HX.out HY.out) (At.whole K3.out) ?_; go_frame)
        | (refine wpList_fill_blk rfl _ _ rfl g6 rfl (torn x y bs) rfl (torn_len x y bs HX.out HY.out) HI.out.2.2.1 ?_; intro w5 hk5 hr5; go_frame))
      refine bodyPost_ret (v := bv (torn x y bs)) ?_ rfl ⟨rfl, keep_own HI.out.2.2.2 hr5 G6'.out⟩
      exact end_blk1 (p := 6) rfl _ _ g6 0 _ rfl (At.whole hk5) (torn_len x y bs HX.out HY.out)

end Go.Proofs.Ytlhbipommhljiaa
