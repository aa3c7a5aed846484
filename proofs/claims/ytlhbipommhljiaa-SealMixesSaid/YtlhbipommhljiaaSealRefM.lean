/- The document's answer for layer 5: Mix, byte by byte. -/
import Derived.Test.YtlhbipommhljiaaSealRef2
namespace Go.Proofs.Ytlhbipommhljiaa
open Go.RowKit Go.Shelf
set_option linter.unusedVariables false
set_option linter.unusedSimpArgs false

theorem layAt_set (b : List UInt8) (o : Nat) (m : List UInt8) (c : UInt8) (h : o + m.length < b.length) : (layAt b o m).set (o + m.length) c = layAt b o (m ++ [c]) := by
  unfold layAt
  have e : (b.take o).length = o := by simp; omega
  have e2 : b.drop (o + m.length) = b[o + m.length] :: b.drop (o + m.length + 1) := List.drop_eq_getElem_cons h
  rw [e2, List.append_assoc, List.set_append_right _ _ (by rw [e]; omega), e, show o + m.length - o = m.length by omega, List.set_append_right _ _ (Nat.le_refl _), Nat.sub_self, List.set_cons_zero, List.length_append, List.length_singleton]
  simp [List.append_assoc, Nat.add_assoc]
theorem layAt_zero (b : List UInt8) (o n : Nat) (l : List UInt8) : layAt b o (l.take 0) = b := by rw [List.take_zero, layAt_nil]
theorem layAt_next (b : List UInt8) (o : Nat) (l : List UInt8) (j : Nat) (hj : j < l.length) (h : o + l.length ≤ b.length) : (layAt b o (l.take j)).set (o + j) l[j] = layAt b o (l.take (j + 1)) := by
  have hl : (l.take j).length = j := by simp; omega
  have := layAt_set b o (l.take j) l[j] (by rw [hl]; omega)
  rw [hl] at this
  rw [this, List.take_succ_eq_append_getElem hj]
theorem cs_set {w : World} {g : Nat} {t : TypeId} {l : List UInt8} (h : Cs w g t (cellsOf l).toArray) (i : Nat) (c : UInt8) : Cs (w.setCell ⟨g, i, none⟩ (.int .u8 (c.toNat : Int))) g t (cellsOf (l.set i c)).toArray := by
  have := h.set i (.int .u8 (c.toNat : Int))
  have e : (cellsOf l).toArray.setIfInBounds i (.int .u8 (c.toNat : Int)) = (cellsOf (l.set i c)).toArray := by
    apply Array.ext'
    simp [cellsOf, List.map_set]
  rwa [e] at this
theorem cs_byte {w : World} {g : Nat} {t : TypeId} {l : List UInt8} (h : Cs w g t (cellsOf l).toArray) (i : Nat) (hi : i < l.length) : w.cell? ⟨g, i, none⟩ = some (.int .u8 (l[i].toNat : Int)) :=
  h.cell i (by simp [cellsOf, List.getElem?_eq_getElem hi])
def MixR (w : World) (g3 g4 g6 : Nat) (x y : Blk) (bs : Int) (q j : Nat) (wr : World) : Prop :=
  Cs wr g3 25 (cellsOf (layAt (tornTo x y bs q) (16 * q) (((y.drop (16 * q)).take 16).take j))).toArray ∧ Cs wr g4 25 (cellsOf y).toArray ∧ Cs wr g6 25 (cellsOf zb).toArray ∧ Below w.heap.size w wr
theorem mixR_start {w wr : World} {g3 g4 g6 : Nat} {x y : Blk} {bs : Int} {q : Nat} (h : MixI w g3 g4 g6 x y bs q wr) : MixR w g3 g4 g6 x y bs q 0 wr := by
  unfold MixR
  rw [List.take_zero, layAt_nil]
  exact h
theorem mixR_end {w wr : World} {g3 g4 g6 : Nat} {x y : Blk} {bs : Int} {q : Nat} (h : MixR w g3 g4 g6 x y bs q 16 wr) (hb : bitAt bs q = true) (hq : q < 4) (hy : y.length = 64) : MixI w g3 g4 g6 x y bs (q + 1) wr := by
  unfold MixR at h
  unfold MixI
  have e : ((y.drop (16 * q)).take 16).length = 16 := by simp; omega
  rw [List.take_of_length_le (by rw [e]; exact Nat.le_refl _)] at h
  rw [tornTo_succ, hb, if_pos rfl]
  unfold layAt at h
  rw [e] at h
  exact h
theorem mixR_next {w wr : World} {g3 g4 g6 : Nat} {x y : Blk} {bs : Int} {q j p : Nat} (h : MixR w g3 g4 g6 x y bs q j wr) (hp : p = 16 * q + j) (hj : j < 16) (hq : q < 4) (hx : x.length = 64) (hy : y.length = 64) (hl : p < y.length) (n34 : g3 ≠ g4) (n36 : g3 ≠ g6) (hg : w.heap.size ≤ g3) :
    MixR w g3 g4 g6 x y bs q (j + 1) (wr.setCell ⟨g3, p, none⟩ (.int .u8 (y[p].toNat : Int))) := by
  subst hp
  obtain ⟨h1, h2, h3, h4⟩ := h
  have e : ((y.drop (16 * q)).take 16).length = 16 := by simp; omega
  refine ⟨?_, h2.far (fun e => n34 e.symm) _, h3.far (fun e => n36 e.symm) _, h4.setCell (p := ⟨g3, 16 * q + j, none⟩) hg _⟩
  have := cs_set h1 (16 * q + j) y[16 * q + j]
  have e2 : y[16 * q + j] = ((y.drop (16 * q)).take 16)[j]'(by omega) := by simp
  rw [← layAt_next _ _ _ j (by omega) (by rw [e, tornTo_len x y bs hx hy q (by omega)]; omega), ← e2]
  exact this

set_option maxHeartbeats 2000000 in
theorem MixRef_any (x y : Blk) (bs : Int) (w : World) (hx : x.length = 64) (hy : y.length = 64) (h0 : 0 ≤ bs) (h1 : bs < 256) :
    Calls Try.prog 17 #[bv x, bv y, .int .u8 bs] w fun e w' => e = .returned (bv (torn x y bs)) ∧ Below w.heap.size w w' := by
  have HX := Lib.hid hx
  have HY := Lib.hid hy
  have hlen := Lib.hid (tornTo_len x y bs hx hy)
  have h1' : bs ≤ 255 := by omega
  clear hx hy h1
  go_enter Try.func17, Try.ntmps17
  go_wp2_with (first
    | (refine wpList_box_blk rfl (.tmp 0) rfl x rfl ?_; intro g3 w1 hk3 hb3 hg3; go_frame; have K3 := Lib.hid hk3; have B3 := Lib.hid hb3; have G3 := Lib.hid hg3; clear hk3 hb3 hg3)
    | (refine wpList_box_blk rfl (.tmp 1) rfl y rfl ?_; intro g4 w2 hk4 hb4 hg4; go_frame; have K4 := Lib.hid hk4; have B4 := Lib.hid hb4; have G4 := Lib.hid hg4; clear hk4 hb4 hg4)
    | (refine wpList_alloc_blk rfl rfl ?_; intro g6 w3 hk6 hb6 hg6; go_frame; have K6 := Lib.hid hk6; have B6 := Lib.hid hb6; have G6 := Lib.hid hg6; clear hk6 hb6 hg6))
  have hI0 : MixI w g3 g4 g6 x y bs 0 w3 := ⟨(K3.out.below B4.out K3.out.lt).below B6.out (K3.out.below B4.out K3.out.lt).lt, K4.out.below B6.out K4.out.lt, K6.out, below_chain (below_chain B3.out B4.out) B6.out⟩
  have n34 := Lib.hid (show g3 ≠ g4 by have := K3.out.lt; have := G4.out; omega)
  have n36 := Lib.hid (show g3 ≠ g6 by have := (K3.out.below B4.out K3.out.lt).lt; have := G6.out; omega)
  have G6' := Lib.hid (show w.heap.size ≤ g6 by have := B3.out.size; have := B4.out.size; have := G6.out; omega)
  have G3' := Lib.hid G3.out
  clear K3 B3 G3 K4 B4 G4 K6 B6 G6
  have HI0 := Lib.hid hI0
  clear hI0
  go_loopw [7] (fun c wr => ∃ k : Nat, k ≤ 4 ∧ c = .int .i64 k ∧ MixI w g3 g4 g6 x y bs k wr) (fun c _ => 4 - (intOf c).toNat)
  case atStart => exact ⟨0, by decide, rfl, HI0.out⟩
  case round =>
    obtain ⟨k, hk, rfl, hI⟩ := hrel
    have HI := Lib.hid hI
    clear hI HI0
    by_cases hk4 : k < 4
    · have hlt' : (k : Int) < 4 := by omega
      have hL := Lib.hid hk4
      obtain ⟨f, hf⟩ : ∃ f : Nat, f = 16 * k := ⟨_, rfl⟩
      have e16 : 16 * (k : Int) = (f : Int) := by omega
      have hf48 : f ≤ 48 := by omega
      have HF := Lib.hid hf
      clear hf
      cases hbt : bitAt bs k
      · have hbw : ((bs / 2 ^ k).tmod 2 == 1) = false := by rw [Int.tmod_eq_emod_of_nonneg (Int.ediv_nonneg h0 (Int.pow_nonneg (by decide)))]; unfold bitAt at hbt; simpa using hbt
        have HT := Lib.hid hbt
        clear hbt hk4
        go_wp2_with fail
        go_loopw [8] (fun i w2 => i = .int .i64 (f : Int) ∧ MixI w g3 g4 g6 x y bs k w2) (fun i _ => 0)
        case atStart => exact ⟨rfl, HI.out⟩
        case round =>
          obtain ⟨rfl, hI2⟩ := hrel
          have HI2 := Lib.hid hI2
          clear hI2 HI
          go_wp2_with fail
          go_roundw
          case rel => exact ⟨k + 1, by have := hL.out; omega, rfl, mixI_off HI2.out HT.out⟩
          case measure => simp [intOf]; omega
      · have hbw : ((bs / 2 ^ k).tmod 2 == 1) = true := by rw [Int.tmod_eq_emod_of_nonneg (Int.ediv_nonneg h0 (Int.pow_nonneg (by decide)))]; unfold bitAt at hbt; simpa using hbt
        have HT := Lib.hid hbt
        clear hbt hk4
        go_wp2_with fail
        go_loopw [8] (fun i w2 => ∃ j : Nat, j ≤ 16 ∧ i = .int .i64 ((f + j : Nat) : Int) ∧ MixR w g3 g4 g6 x y bs k j w2) (fun i _ => f + 16 - (intOf i).toNat)
        case atStart => exact ⟨0, by decide, rfl, mixR_start HI.out⟩
        case round =>
          obtain ⟨j, hj, rfl, hI2⟩ := hrel
          have HI2 := Lib.hid hI2
          clear hI2 HI
          have HJ := Lib.hid hj
          by_cases hj16 : j < 16
          · obtain ⟨p, hp⟩ : ∃ p : Nat, p = f + j := ⟨_, rfl⟩
            have HP := Lib.hid hp
            have hp1 : (p : Int) < (f : Int) + 16 := by omega
            have hp2 : p < 64 := by omega
            have hp3 : (p : Int) < 64 := by omega
            rw [← hp]
            have HN := Lib.hid (mixR_next HI2.out (p := p) (by rw [hp, HF.out]) hj16 hL.out HX.out HY.out (by rw [HY.out]; exact hp2) n34.out n36.out G3'.out)
            have e4 := cs_byte HI2.out.2.1 p (by rw [HY.out]; exact hp2)
            have hv1 : 0 ≤ (y[p]'(by rw [HY.out]; exact hp2)).toNat := Nat.zero_le _
            have hl3 : (layAt (tornTo x y bs k) (16 * k) (((y.drop (16 * k)).take 16).take j)).length = 64 := by
              rw [layAt_len _ _ _ (by rw [hlen.out k (by have := hL.out; omega)]; simp; have := hL.out; omega), hlen.out k (by have := hL.out; omega)]
            have e3 := cs_byte HI2.out.1 p (by rw [hl3]; exact hp2)
            have f3 := HI2.out.1.frozen p
            generalize (y[p]'(by rw [HY.out]; exact hp2)) = yp at *
            generalize (layAt (tornTo x y bs k) (16 * k) (((y.drop (16 * k)).take 16).take j))[p]'(by rw [hl3]; exact hp2) = xp at *
            clear hp hj hj16 hl3
            go_wp2_with fail
            go_roundw
            case rel => exact ⟨j + 1, by have := HP.out; omega, by have := HP.out; go_num, HN.out⟩
            case measure => simp [intOf]; omega
          · obtain rfl : j = 16 := by omega
            have hd : decide (((f + 16 : Nat) : Int) < (f : Int) + 16) = false := by simp
            clear hj hj16
            go_wp2_with fail
            go_roundw
            case rel => exact ⟨k + 1, by have := hL.out; omega, rfl, mixR_end HI2.out HT.out hL.out HY.out⟩
            case measure => simp [intOf]; omega
    · obtain rfl : k = 4 := by omega
      rw [show ((4 : Nat) : Int) = 4 from rfl]
      have K3 := Lib.hid HI.out.1
      go_wp2_with (first
        | (refine wpList_load_blk rfl _ rfl g3 0 rfl (torn x y bs) (torn_len x y bs HX.out HY.out) (At.whole K3.out) ?_; go_frame)
        | (refine wpList_fill_blk rfl _ _ rfl g6 rfl (torn x y bs) rfl (torn_len x y bs HX.out HY.out) HI.out.2.2.1 ?_; intro w5 hk5 hr5; go_frame))
      refine bodyPost_ret (v := bv (torn x y bs)) ?_ rfl ⟨rfl, keep_own HI.out.2.2.2 hr5 G6'.out⟩
      exact end_blk1 (p := 6) rfl _ _ g6 0 _ rfl (At.whole hk5) (torn_len x y bs HX.out HY.out)

end Go.Proofs.Ytlhbipommhljiaa
