/- Put as a whole; Get: the number and the body of a block. -/
import Derived.Test.YtlhbipommhljiaaSealPut
namespace Go.Proofs.Ytlhbipommhljiaa
open Go.RowKit Go.Shelf
set_option linter.unusedVariables false
set_option linter.unusedSimpArgs false

theorem Put_any (n : Int) (b : List UInt8) (A : Option Addr) (c : Nat) (w : World) (hl : b.length ≤ 281474976710656) (h0 : 0 ≤ n) (h1 : n < 4294967296) (hr : Rd w A b) : Calls Try.prog 7 #[.int .u32 n, .slice A b.length c] w fun e w' =>
    e = .returned (.tuple #[bv (putB n b), .int .i64 (putE n b)]) ∧ Below w.heap.size w w' := by
  unfold putB putE
  by_cases h : 44 < b.length
  · rw [if_pos h, if_neg (by decide)]
    exact Put_long n b A c w h hl
  · rw [if_neg h]
    by_cases hz : n = 0
    · subst hz
      rw [if_pos rfl, if_neg (by decide)]
      exact Put_zero b A c w (by omega)
    · rw [if_neg hz, if_pos rfl]
      exact Put_main n b A c w (by omega) (by omega) h1 hr
theorem own_block {W : World} {base g n cap : Nat} {xs : List Value} (h : W.ownsRow base 5 1 (.slice (some ⟨g, 0, none⟩) n cap) n xs) : base ≤ g ∧ ∃ cur, Cs W g 5 cur ∧ cur.toList.take n = xs := by
  rcases h.2 with ⟨h0, _⟩ | ⟨g', cap', cur, hv, hb, hc, _, _, _, ht⟩
  · cases h0
  · cases hv; exact ⟨hb, cur, hc, by rw [Nat.mul_one] at ht; exact ht⟩
theorem rd_cur {W : World} {g : Nat} {cur : Array Value} {l : List UInt8} {n : Nat} (h : Cs W g 5 cur) (ht : cur.toList.take n = cellsOf l) (hn : l.length = n) : Rd W (some ⟨g, 0, none⟩) l :=
  .inr ⟨g, 0, rfl, fun j hj => by
    rw [Nat.zero_add]
    refine h.cell j ?_
    have h1 : (cur.toList.take n)[j]? = some (.int .u8 (l[j].toNat : Int)) := by
      rw [ht]
      simp [cellsOf, List.getElem?_eq_getElem hj]
    rw [List.getElem?_take_of_lt (by omega)] at h1
    simpa using h1⟩
/-- a slice of the call's own, with n bytes and room behind them -/
def OwnCur (W : World) (B g : Nat) (l : List UInt8) : Prop := B ≤ g ∧ ∃ cur, Cs W g 5 cur ∧ cur.toList.take l.length = cellsOf l
theorem OwnCur.rd {W : World} {B g : Nat} {l : List UInt8} (h : OwnCur W B g l) : Rd W (some ⟨g, 0, none⟩) l := by
  obtain ⟨_, cur, hc, ht⟩ := h
  exact rd_cur hc ht rfl
theorem OwnCur.take {W : World} {B g n : Nat} {l : List UInt8} (h : OwnCur W B g l) (hn : n ≤ l.length) : OwnCur W B g (l.take n) := by
  obtain ⟨hb, cur, hc, ht⟩ := h
  refine ⟨hb, cur, hc, ?_⟩
  have := congrArg (List.take n) ht
  rw [List.take_take, Nat.min_eq_left hn] at this
  rw [List.length_take, Nat.min_eq_left hn, this]
  simp [cellsOf]
theorem OwnCur.below {W W' : World} {B g : Nat} {l : List UInt8} (h : OwnCur W B g l) (hb : Below W.heap.size W W') : OwnCur W' B g l := by
  obtain ⟨h1, cur, hc, ht⟩ := h
  exact ⟨h1, cur, hc.below hb hc.lt, ht⟩
theorem own_cur {W : World} {base g cap : Nat} {l : List UInt8} (h : W.ownsRow base 5 1 (.slice (some ⟨g, 0, none⟩) l.length cap) l.length (cellsOf l)) : OwnCur W base g l := by
  obtain ⟨hb, cur, hc, ht⟩ := own_block h
  exact ⟨hb, cur, hc, ht⟩
/-- what Get hands back -/
def GetRet (x : Blk) (w : World) (e : Ending) (w' : World) : Prop :=
  Below w.heap.size w w' ∧ ((getE x ≠ 0 ∧ e = .returned (.tuple #[.int .u32 0, .slice none 0 0, .int .i64 (getE x)])) ∨
    (getE x = 0 ∧ ∃ g, e = .returned (.tuple #[.int .u32 (tag x 0), .slice (some ⟨g, 0, none⟩) 44 44, .int .i64 0]) ∧ OwnCur w' w.heap.size g (bodyOf x)))
theorem mk48 (W : World) : (Instr.makeSlice 23 (.int .i64 0) (.int .i64 48)).run Try.prog W = .ok (.slice (some ⟨W.heap.size, 0, none⟩) 0 48) (W.alloc (.cells (zeros 48) 5)) := by
  obtain ⟨i0, hi, hz0, hz1, hz2⟩ := info_parts Try_info5
  have h := run_make (P := Try.prog) W 23 5 i0 (.int .u8 0) Try.underlying23 hi hz0 .i64 .i64 0 48 (by omega) (by omega) (by rw [hz2]; omega) (by omega)
  rw [h, hz1]
  rw [show Int.toNat 48 * 1 = 48 from rfl]
  congr 3
  apply Array.ext
  · simp [zeros, size_madeCells]
  · intro j h1 h2
    simp [madeCells, zeros, Value.cells, Nat.mod_one]
def innerTo (x : Blk) : Nat → List UInt8
  | 0 => []
  | k + 1 => innerTo x k ++ cutOf x k
theorem innerTo_succ (x : Blk) (k : Nat) : innerTo x (k + 1) = innerTo x k ++ cutOf x k := rfl
theorem innerTo_4 (x : Blk) : innerTo x 4 = inner x := by simp [innerTo, inner]
theorem cutOf_len (x : Blk) (h : x.length = 64) (k : Nat) (hk : k < 4) : (cutOf x k).length = 12 := by simp [cutOf]; omega
theorem innerTo_len (x : Blk) (h : x.length = 64) : ∀ k, k ≤ 4 → (innerTo x k).length = 12 * k
  | 0, _ => rfl
  | k + 1, hk => by rw [innerTo_succ, List.length_append, innerTo_len x h k (by omega), cutOf_len x h k (by omega)]; omega
theorem getE_bad {x : Blk} (h : formed x = false) : getE x = 5 := by unfold getE; rw [h]; rfl
theorem getE_good {x : Blk} (h : formed x = true) : getE x = if lastOf x = (sumN (tag x 0) (bodyOf x) : Int) then 0 else 6 := by unfold getE; rw [if_pos h]
set_option maxHeartbeats 1000000 in
theorem Get_zero (x : Blk) (hx : x.length = 64) (h0 : greatest x = 0) (w : World) : Calls Try.prog 9 #[bv x] w fun e w' => e = .returned (.tuple #[.int .u32 0, .slice none 0 0, .int .i64 5]) ∧ Below w.heap.size w w' := by
  have hg := Greatest_any x hx
  rw [h0] at hg
  have HX := Lib.hid hx
  clear hx h0
  go_enter Try.func9, Try.ntmps9
  go_wp2_with (first
    | (refine wpList_box_blk rfl (.tmp 0) rfl x rfl ?_; intro g1 w1 hk hb hg; go_frame; have K1 := Lib.hid hk; have B1 := Lib.hid hb; clear hk hb hg)
    | (refine wpList_load_blk rfl _ rfl g1 0 rfl x HX.out (At.whole K1.out) ?_; go_frame))
  refine (hg _).mono ?_
  clear hg
  rintro e w2 ⟨rfl, hb2⟩
  have B2 := Lib.hid (below_chain B1.out hb2)
  clear hb2
  go_wp2_with fail
  go_ret3
  exact ⟨rfl, B2.out⟩
set_option maxHeartbeats 1000000 in
theorem Get_form (x : Blk) (hx : x.length = 64) (h0 : greatest x ≠ 0) (hi : isOfB x (greatest x) = false) (w : World) : Calls Try.prog 9 #[bv x] w fun e w' => e = .returned (.tuple #[.int .u32 0, .slice none 0 0, .int .i64 5]) ∧ Below w.heap.size w w' := by
  have hg := Greatest_any x hx
  have his := isOf_any x hx (greatest x)
  rw [hi] at his
  have h0' : (greatest x == 0) = false := by simpa using h0
  have HX := Lib.hid hx
  generalize greatest x = n at *
  clear hx h0 hi
  go_enter Try.func9, Try.ntmps9
  go_wp2_with (first
    | (refine wpList_box_blk rfl (.tmp 0) rfl x rfl ?_; intro g1 w1 hk hb hg; go_frame; have K1 := Lib.hid hk; have B1 := Lib.hid hb; clear hk hb hg)
    | (refine wpList_load_blk rfl _ rfl g1 0 rfl x HX.out (At.whole K1.out) ?_; go_frame))
  refine (hg _).mono ?_
  clear hg
  rintro e w2 ⟨rfl, hb2⟩
  have B2 := Lib.hid (below_chain B1.out hb2)
  have K2 := Lib.hid (K1.out.below hb2 K1.out.lt)
  clear hb2
  go_wp2_with (first
    | (refine wpList_load_blk_g (by kernel_rfl) _ rfl g1 0 rfl x HX.out (At.whole K2.out) ?_; go_frame))
  refine (his _).mono ?_
  clear his
  rintro e w3 ⟨rfl, hb3⟩
  have B3 := Lib.hid (below_chain B2.out hb3)
  clear hb3
  go_wp2_with fail
  go_ret3
  exact ⟨rfl, B3.out⟩
theorem own_below {w w' : World} {base n size : Nat} {e : TypeId} {v : Value} {xs : List Value} (h : w.ownsRow base e size v n xs) (hb : Below w.heap.size w w') : w'.ownsRow base e size v n xs := ownsRow_turn h (Turn.of_below hb fun _ => False) fun _ _ h => h
theorem BlkI.grown {w wr w' : World} {g B : Nat} {x : Blk} {r : Option Nat} (h : BlkI w g x wr) (hg : wr.grownBy w' r) (hn : ∀ k, r = some k → w.heap.size ≤ k) (hne : r ≠ some g) : BlkI w g x w' :=
  ⟨h.1.turn (Turn.of_grown hg) (fun e => hne e), h.2.grown hg h.2.size hn⟩
theorem own_ne_blk {w : World} {base n g : Nat} {v : Value} {xs : List Value} {cs : Array Value} (h : w.ownsRow base 5 1 v n xs) (hc : Cs w g 25 cs) : v.ownBlock ≠ some g := by
  rcases h.2 with ⟨rfl, _⟩ | ⟨g', cap, cur, rfl, hb, hg, _⟩
  · simp [Value.ownBlock]
  · simp only [Value.ownBlock, ne_eq, Option.some.injEq]
    rintro rfl
    unfold Cs at hc
    rw [hg] at hc
    cases hc
theorem rd_inner {w : World} {g : Nat} {x : Blk} {t : TypeId} (h : Cs w g t (cellsOf x).toArray) (k : Nat) : Rd w (some ⟨g, 16 * k + 4, none⟩) (cutOf x k) := rd_part h (16 * k + 4) 12
set_option maxHeartbeats 2000000 in
theorem Get_main (x : Blk) (hx : x.length = 64) (h0 : greatest x ≠ 0) (hi : isOfB x (greatest x) = true) (w : World) : Calls Try.prog 9 #[bv x] w fun e w' =>
    Below w.heap.size w w' ∧ ((lastOf x ≠ (sumN (greatest x) (bodyOf x) : Int) ∧ e = .returned (.tuple #[.int .u32 0, .slice none 0 0, .int .i64 6])) ∨
      (lastOf x = (sumN (greatest x) (bodyOf x) : Int) ∧ ∃ g, e = .returned (.tuple #[.int .u32 (greatest x), .slice (some ⟨g, 0, none⟩) 44 44, .int .i64 0]) ∧ OwnCur w' w.heap.size g (bodyOf x))) := by
  have hg := Greatest_any x hx
  have his := isOf_any x hx (greatest x)
  rw [hi] at his
  have hbd := greatest_bd x
  have hsum := fun W g h => sumOf_any (greatest x) hbd.1 hbd.2 (bodyOf x) (some ⟨g, 0, none⟩) 44 (by rw [bodyOf_len x hx]; decide) W h
  rw [bodyOf_len x hx] at hsum
  have hlast := fun W g c hc h => numberOf_any ((inner x).drop 44) (by rw [List.length_drop, inner_len x hx]) (some ⟨g, 44, none⟩) c hc W h
  have hll : num4 ((inner x).drop 44) = lastOf x := rfl
  rw [hll] at hlast
  have h0' : (greatest x == 0) = false := by simpa using h0
  have HX := Lib.hid hx
  have hmk := mk48
  have hil := Lib.hid (innerTo_len x hx)
  have hcl := Lib.hid (cutOf_len x hx)
  generalize greatest x = n at *
  generalize sumN n (bodyOf x) = sn at *
  generalize lastOf x = ln at *
  clear hx h0 hi hll hbd
  go_enter Try.func9, Try.ntmps9
  go_wp2_with (first
    | (refine wpList_box_blk rfl (.tmp 0) rfl x rfl ?_; intro g1 w1 hk hb hg; go_frame; have K1 := Lib.hid hk; have B1 := Lib.hid hb; clear hk hb hg)
    | (refine wpList_load_blk rfl _ rfl g1 0 rfl x HX.out (At.whole K1.out) ?_; go_frame))
  refine (hg _).mono ?_
  clear hg
  rintro e w2 ⟨rfl, hb2⟩
  have B2 := Lib.hid (below_chain B1.out hb2)
  have K2 := Lib.hid (K1.out.below hb2 K1.out.lt)
  clear hb2
  go_wp2_with (first
    | (refine wpList_load_blk_g (by kernel_rfl) _ rfl g1 0 rfl x HX.out (At.whole K2.out) ?_; go_frame))
  refine (his _).mono ?_
  clear his
  rintro e w3 ⟨rfl, hb3⟩
  have B3 := Lib.hid (below_chain B2.out hb3)
  have K3 := Lib.hid (K2.out.below hb3 K2.out.lt)
  clear hb3 B1 K1 B2 K2
  go_wp2_with fail
  have c4 := Cs.new w3 5 (zeros 48)
  have b4 := (Below.refl w3.heap.size w3).alloc (Nat.le_refl _) (.cells (zeros 48) 5)
  have O4 := Lib.hid (show (w3.alloc (.cells (zeros 48) 5)).ownsRow w.heap.size 5 1 (.slice (some ⟨w3.heap.size, 0, none⟩) 0 48) 0 (cellsOf (innerTo x 0)) from
    ⟨rfl, .inr ⟨w3.heap.size, 48, zeros 48, rfl, B3.out.size, c4, by decide, by decide, by simp [zeros], rfl⟩⟩)
  have K4 := Lib.hid (K3.out.below b4 K3.out.lt)
  have B4 := Lib.hid (below_chain B3.out b4)
  clear c4 b4 K3 hmk
  generalize w3.alloc (.cells (zeros 48) 5) = w4 at *
  generalize w3.heap.size = z3 at *
  clear B3
  go_loopw [6, 21] (fun v c wr => ∃ k : Nat, k ≤ 4 ∧ c = .int .i64 k ∧ wr.ownsRow w.heap.size 5 1 v (12 * k) (cellsOf (innerTo x k)) ∧ BlkI w g1 x wr) (fun _ c _ => 4 - (intOf c).toNat)
  case atStart => exact ⟨0, by decide, rfl, O4.out, K4.out, B4.out⟩
  case round =>
    obtain ⟨k, hk, rfl, hown, hI⟩ := hrel
    have HI := Lib.hid hI
    have HO := Lib.hid hown
    clear hI hown O4 K4 B4
    by_cases hk4 : k < 4
    · have hlt : (k : Int) < 4 := by omega
      have hc := cut_any g1 k hk4 wr
      have HL := Lib.hid hk4
      have hcl' := Lib.hid (hcl.out k hk4)
      have RI := Lib.hid (fun (W : World) (h : Cs W g1 25 (cellsOf x).toArray) => rd_inner h k)
      have HS := Lib.hid (innerTo_succ x k)
      have HM := Lib.hid (show 12 * k + 12 = 12 * (k + 1) by omega)
      have hbig : 12 * k + 12 ≤ 140737488355328 := by omega
      generalize 16 * k = f at *
      generalize hit : innerTo x k = it at *
      generalize cutOf x k = ct at *
      generalize h12 : 12 * k = m at *
      clear hk4 hit h12
      go_wp2_with fail
      refine hc.mono ?_
      clear hc
      rintro e w5 ⟨rfl, hb5⟩
      have HI5 := Lib.hid (HI.out.below hb5)
      have HO5 := Lib.hid (own_below HO.out hb5)
      clear hb5 HI HO
      go_wp2_with (at_builtin; refine append_rd rfl (.tmp 29) (.tmp 30) rfl w.heap.size _ _ _ rfl HO5.out _ ct 12 12 hcl'.out.symm rfl (RI.out _ HI5.out.1) (by intro h; cases h) hbig HI5.out.2.size ?_; intro v2 w6 hown6 hgr6)
      go_roundw
      case rel => exact ⟨k + 1, by have := HL.out; omega, rfl, by rw [← HM.out, HS.out]; exact hown6, BlkI.grown (B := 0) HI5.out hgr6 (own_base HO5.out) (own_ne_blk HO5.out HI5.out.1)⟩
      case measure => simp [intOf]; have := HL.out; omega
    · obtain rfl : k = 4 := by omega
      rw [show ((4 : Nat) : Int) = 4 from rfl]
      have hown := HO.out
      rw [show 12 * 4 = 48 from rfl, innerTo_4] at hown
      obtain ⟨ag, cap, rfl, hcap, hcm⟩ := own_form hown (by decide)
      have hoc := own_cur (l := inner x) (by rw [inner_len x HX.out]; exact hown)
      have OC := Lib.hid hoc
      have hcm' : cap ≤ 9223372036854775807 := by unfold maxLen at hcm; omega
      have h44 : 44 ≤ cap := by omega
      have RL := Lib.hid (show Rd wr (some ⟨ag, 44, none⟩) ((inner x).drop 44) by have := rd_drop hoc.rd 44; rwa [Nat.zero_add] at this)
      have HBW := Lib.hid HI.out.2
      have HCC := Lib.hid (show 4 ≤ cap - 44 by omega)
      clear hown hcm HI HO hoc hil hcl
      have OT := Lib.hid (show OwnCur wr w.heap.size ag (bodyOf x) from OC.out.take (by rw [inner_len x HX.out]; decide))
      clear OC
      go_wp2_with fail
      refine (hlast _ _ _ HCC.out RL.out).mono ?_
      clear hlast
      rintro e w5 ⟨rfl, hb5⟩
      have OT5 := Lib.hid (OT.out.below hb5)
      have BW5 := Lib.hid (below_chain HBW.out hb5)
      clear hb5 RL HBW OT
      go_wp2_with fail
      refine (hsum _ _ OT5.out.rd).mono ?_
      clear hsum
      rintro e w6 ⟨rfl, hb6⟩
      have OT6 := Lib.hid (OT5.out.below hb6)
      have BW6 := Lib.hid (below_chain BW5.out hb6)
      clear hb6 OT5 BW5
      by_cases he : ln = (sn : Int)
      · subst he
        go_wp2_with fail
        go_ret3
        exact ⟨BW6.out, ag, rfl, OT6.out⟩
      · have he' : (ln == (sn : Int)) = false := by simpa using he
        have HE := Lib.hid he
        clear he
        go_wp2_with fail
        go_ret3
        exact ⟨BW6.out, .inl ⟨HE.out, rfl⟩⟩
theorem SGet_any (x : Blk) (hx : x.length = 64) (w : World) : Calls Try.prog 9 #[bv x] w fun e w' => GetRet x w e w' := by
  have hf := formed_greatest x
  by_cases h0 : greatest x = 0
  · have hfm : formed x = false := by rw [hf, h0]; rfl
    exact (Get_zero x hx h0 w).mono fun e w' ⟨he, hb⟩ => ⟨hb, .inl ⟨by rw [getE_bad hfm]; decide, by rw [getE_bad hfm]; exact he⟩⟩
  rcases hi : isOfB x (greatest x) with _ | _
  · have hfm : formed x = false := by rw [hf, hi, Bool.and_false]
    exact (Get_form x hx h0 hi w).mono fun e w' ⟨he, hb⟩ => ⟨hb, .inl ⟨by rw [getE_bad hfm]; decide, by rw [getE_bad hfm]; exact he⟩⟩
  · have hfm : formed x = true := by rw [hf, hi]; simpa using h0
    have hg := (formed_of hfm).1
    have hm := Get_main x hx h0 hi w
    rw [hg] at hm
    refine hm.mono fun e w' ⟨hb, h⟩ => ⟨hb, ?_⟩
    rw [getE_good hfm]
    rcases h with ⟨h1, he⟩ | ⟨h1, h2⟩
    · rw [if_neg h1]
      exact .inl ⟨by decide, he⟩
    · rw [if_pos h1]
      exact .inr ⟨rfl, h2⟩

end Go.Proofs.Ytlhbipommhljiaa
