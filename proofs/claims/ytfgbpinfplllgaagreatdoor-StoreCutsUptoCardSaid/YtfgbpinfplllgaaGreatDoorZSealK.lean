/- SWEPT -/
import Derived.Laws.IdiomCopy
import Derived.Lib.AppendZeros
import Derived.Test.YtfgbpinfplllgaaGreatDoorZPlainK
import Derived.Test.YtfgbpinfplllgaaGreatDoorZWordsK
set_option linter.unusedVariables false
set_option linter.unusedSimpArgs false
open List (getElem_toArray getElem_cons_succ getElem_cons_zero setIfInBounds_toArray set_cons_succ set_cons_zero)
open Go.Lib (hid)
namespace Go.Proofs.YtfgbpinfplllgaaGreatDoor
open Go.RowKit Go.Shelf
set_option maxRecDepth 100000
theorem piece_any (g q : Nat) (hq : q < 4) (w : World) : Calls Tryz.prog 166 #[.pointer (some ⟨g, 0, none⟩), .int .i64 (q : Int)] w fun e w' =>
    e = .returned (.slice (some ⟨g, 16 * q, none⟩) 16 16) ∧ w = w' := by
  rcases (show q = 0 ∨ q = 1 ∨ q = 2 ∨ q = 3 by omega) with rfl | rfl | rfl | rfl
  all_goals
    go_enter Tryz.func166, Tryz.ntmps166
    go_wp2
    go_ret
    exact ⟨rfl, rfl⟩
theorem cut_any (g q : Nat) (hq : q < 4) (w : World) : Calls Tryz.prog 142 #[.pointer (some ⟨g, 0, none⟩), .int .i64 (q : Int)] w fun e w' =>
    e = .returned (.tuple #[.slice (some ⟨g, 16 * q, none⟩) 4 4, .slice (some ⟨g, 16 * q + 4, none⟩) 12 12]) ∧ Below w.heap.size w w' := by
  have hp := piece_any g q hq w
  generalize 16 * q = f at *
  clear hq
  go_enter Tryz.func142, Tryz.ntmps142
  go_wp2_with fail
  refine hp.mono ?_
  clear hp
  rintro e _ ⟨rfl, rfl⟩
  go_wp2_with fail
  go_region
  go_wp2
  go_ret2
  exact ⟨rfl, (Below.refl _ _).drew⟩
theorem getV4 (l : List UInt8) (h : l.length = 4) : getV l 0 4 = .tuple #[.int .u64 (num4 l), .int .i64 0] := by
  unfold getV num4
  rw [if_neg (by simp [sizeB, placeB]), if_neg (by rw [h]; decide)]
  rfl
theorem numberOf_any (l : List UInt8) (h : l.length = 4) (A : Option Addr) (c : Nat) (hc : 4 ≤ c) (w : World) (hr : Rd w A l) : Calls Tryz.prog 143 #[.slice A 4 c] w fun e w' =>
    e = .returned (.int .u32 (num4 l)) ∧ Below w.heap.size w w' := by
  have hg := Get_any l A c 0 4 w (by rw [h]; decide) (by omega) hr
  rw [getV4 l h, h] at hg
  obtain ⟨h0, h1⟩ := num4_bd l
  have hw : IntKind.u32.wrap (num4 l) = num4 l := by rw [IntKind.wrap_u32]; omega
  generalize num4 l = n at *
  clear hr h
  go_enter Tryz.func143, Tryz.ntmps143
  go_wp2_with fail
  refine hg.mono ?_
  clear hg
  rintro e w1 ⟨rfl, hb⟩
  go_wp2_with fail
  go_ret
  exact ⟨rfl, hb⟩
theorem bytesOf_any (n : Int) (h0 : 0 ≤ n) (h1 : n < 4294967296) (w : World) : Calls Tryz.prog 146 #[.int .u32 n] w fun e w' =>
    ∃ g, e = .returned (.slice (some ⟨g, 0, none⟩) 4 4) ∧ Rd w' (some ⟨g, 0, none⟩) (beL n 4) ∧ Below w.heap.size w w' := by
  have hp := Put_ok n 4 (by decide) h0 (by omega) w (by simp [fitsB, lim]; omega)
  have h1' : n ≤ 4294967295 := by omega
  clear h1
  go_enter Tryz.func146, Tryz.ntmps146
  go_wp2_with fail
  refine hp.mono ?_
  clear hp
  rintro e w1 ⟨rfl, hb, hr⟩
  have HR := hid hr
  clear hr
  go_wp2_with fail
  go_ret
  exact ⟨_, rfl, HR.out, hb⟩
theorem sumOf_any (n : Int) (h0 : 0 ≤ n) (h1 : n < 4294967296) (l : List UInt8) (A : Option Addr) (c : Nat) (hl : l.length ≤ 281474976710656) (w : World) (hr : Rd w A l) : Calls Tryz.prog 148 #[.int .u32 n, .slice A l.length c] w fun e w' =>
    e = .returned (.int .u32 (sumN n l : Nat)) ∧ Below w.heap.size w w' := by
  have hbs := bytesOf_any n h0 h1
  have hof := fun g W h => Of_any (beL n 4) (some ⟨g, 0, none⟩) 4 W (by rw [beL_length]; decide) h
  rw [beL_length] at hof
  have hmo := fun W h => More_any (ofN (beL n 4)) (moreN_lt _ _ (by decide)) l A c W hl h
  have hs : sumN n l = moreN (ofN (beL n 4)) l := rfl
  rw [hs]
  clear hs
  generalize ofN (beL n 4) = s at *
  have HR := hid hr
  clear hr h0 h1
  go_enter Tryz.func148, Tryz.ntmps148
  go_wp2_with fail
  refine (hbs _).mono ?_
  rintro e w1 ⟨g, rfl, hr1, hb⟩
  go_wp2_with fail
  refine (hof g _ hr1).mono ?_
  rintro e _ ⟨rfl, rfl⟩
  clear hr1 hof hbs
  have HB := hid hb
  clear hb
  go_wp2_with fail
  refine (hmo _ (HR.out.below HB.out)).mono ?_
  clear hmo
  rintro e _ ⟨rfl, rfl⟩
  go_wp2_with fail
  go_ret
  exact ⟨rfl, HB.out⟩
end Go.Proofs.YtfgbpinfplllgaaGreatDoor
namespace Go.Proofs.YtfgbpinfplllgaaGreatDoor
open Go.RowKit Go.Shelf
set_option maxRecDepth 100000
theorem rd_at' {w : World} {g f : Nat} {l : List UInt8} (h : At w g f (cellsOf l)) : Rd w (some ⟨g, f, none⟩) l :=
  .inr ⟨g, f, rfl, fun j hj => h j _ (by simp [cellsOf, List.getElem?_eq_getElem hj])⟩
theorem rd_part {w : World} {g : Nat} {t : TypeId} {l : List UInt8} (h : Cs w g t (cellsOf l).toArray) (f n : Nat) : Rd w (some ⟨g, f, none⟩) ((l.drop f).take n) := rd_at' (At.part h f n)
theorem part4_len (x : Blk) (h : x.length = 64) (q : Nat) (hq : q < 4) : ((x.drop (16 * q)).take 4).length = 4 := by simp; omega
def BlkI (w : World) (g : Nat) (x : Blk) (wr : World) : Prop := Cs wr g 112 (cellsOf x).toArray ∧ Below w.heap.size w wr
theorem BlkI.below {w wr w' : World} {g : Nat} {x : Blk} (h : BlkI w g x wr) (hb : Below wr.heap.size wr w') : BlkI w g x w' := ⟨h.1.below hb h.1.lt, below_chain h.2 hb⟩
theorem tag_any (g q : Nat) (x : Blk) (hx : x.length = 64) (hq : q < 4) (w w0 : World) (hI : BlkI w0 g x w) : Calls Tryz.prog 143 #[.slice (some ⟨g, 16 * q, none⟩) 4 4] w fun e w' =>
    e = .returned (.int .u32 (tag x q)) ∧ BlkI w0 g x w' :=
  (numberOf_any _ (part4_len x hx q hq) (some ⟨g, 16 * q, none⟩) 4 (Nat.le_refl _) w (rd_part hI.1 (16 * q) 4)).mono fun e w' ⟨he, hb⟩ => ⟨he, hI.below hb⟩
theorem cutI_any (g q : Nat) (x : Blk) (hq : q < 4) (w w0 : World) (hI : BlkI w0 g x w) : Calls Tryz.prog 142 #[.pointer (some ⟨g, 0, none⟩), .int .i64 (q : Int)] w fun e w' =>
    e = .returned (.tuple #[.slice (some ⟨g, 16 * q, none⟩) 4 4, .slice (some ⟨g, 16 * q + 4, none⟩) 12 12]) ∧ BlkI w0 g x w' :=
  (cut_any g q hq w).mono fun e w' ⟨he, hb⟩ => ⟨he, hI.below hb⟩
def gTo (x : Blk) : Nat → Int
  | 0 => 0
  | k + 1 => max (gTo x k) (tag x k)
theorem gTo_succ (x : Blk) (k : Nat) : gTo x (k + 1) = max (gTo x k) (tag x k) := rfl
theorem gTo_4 (x : Blk) : gTo x 4 = greatest x := by
  have h0 := tag_bd x 0
  unfold greatest
  simp only [gTo]
  rw [Int.max_def (0 : Int), if_pos h0.1]
set_option maxHeartbeats 1000000 in
theorem Greatest_any (x : Blk) (hx : x.length = 64) (w : World) : Calls Tryz.prog 104 #[bv x] w fun e w' => e = .returned (.int .u32 (greatest x)) ∧ Below w.heap.size w w' := by
  rw [← gTo_4]
  have HX := hid hx
  clear hx
  go_enter Tryz.func104, Tryz.ntmps104
  go_wp2_with (first | (refine wpList_box_blk rfl (.tmp 0) rfl x rfl ?_; intro g w1 hk hb hg; go_frame; have K1 := hid hk; have B1 := hid hb; clear hk hb hg))
  go_loopw [3, 7] (fun m c wr => ∃ k : Nat, k ≤ 4 ∧ c = .int .i64 k ∧ m = .int .u32 (gTo x k) ∧ BlkI w g x wr) (fun _ c _ => 4 - (intOf c).toNat)
  case atStart => exact ⟨0, by decide, rfl, rfl, K1.out, B1.out⟩
  case round =>
    obtain ⟨k, hk, rfl, rfl, hI⟩ := hrel
    have HI := hid hI
    clear hI K1 B1
    by_cases hlt : k < 4
    · have hlt' : (k : Int) < 4 := by omega
      have hbd := tag_bd x k
      have hs := hid (gTo_succ x k)
      have hc := cutI_any g k x hlt _ _ HI.out
      have ht := fun W h => tag_any g k x HX.out hlt W w h
      have hmx := hid (Int.max_def (gTo x k) (tag x k))
      have hL := hid hlt
      generalize tag x k = t at *
      generalize 16 * k = f at *
      generalize gTo x k = m at *
      clear hlt
      go_wp2_with fail
      refine hc.mono ?_
      clear hc
      rintro e w2 ⟨rfl, hI2⟩
      go_wp2_with fail
      refine (ht _ hI2).mono ?_
      clear ht hI2
      rintro e w3 ⟨rfl, hI3⟩
      have HI3 := hid hI3
      clear hI3
      go_wp2_with fail
      go_roundw
      case rel => exact ⟨k + 1, by have := hL.out; omega, rfl, by rw [hs.out, hmx.out], HI3.out⟩
      case measure => simp [intOf]; omega
    · obtain rfl : k = 4 := by omega
      rw [show ((4 : Nat) : Int) = 4 from rfl]
      go_wp2
      go_ret
      exact ⟨rfl, HI.out.2⟩
theorem isOf_all (x : Blk) (n : Int) (h : ∀ q, q < 4 → tag x q = n) : isOfB x n = true := by
  simp [isOfB, h 0 (by decide), h 1 (by decide), h 2 (by decide), h 3 (by decide)]
theorem isOf_not (x : Blk) (n : Int) (q : Nat) (hq : q < 4) (h : tag x q ≠ n) : isOfB x n = false := by
  rcases hb : isOfB x n with _ | _
  · rfl
  · simp only [isOfB, Bool.and_eq_true, beq_iff_eq] at hb
    rcases (show q = 0 ∨ q = 1 ∨ q = 2 ∨ q = 3 by omega) with rfl | rfl | rfl | rfl <;> simp_all
set_option maxHeartbeats 1000000 in
theorem isOf_any (x : Blk) (hx : x.length = 64) (n : Int) (w : World) : Calls Tryz.prog 211 #[bv x, .int .u32 n] w fun e w' => e = .returned (.bool (isOfB x n)) ∧ Below w.heap.size w w' := by
  have HX := hid hx
  clear hx
  go_enter Tryz.func211, Tryz.ntmps211
  go_wp2_with (first | (refine wpList_box_blk rfl (.tmp 0) rfl x rfl ?_; intro g w1 hk hb hg; go_frame; have K1 := hid hk; have B1 := hid hb; clear hk hb hg))
  go_loopw [8] (fun c wr => ∃ k : Nat, k ≤ 4 ∧ c = .int .i64 k ∧ Hid (∀ q, q < k → tag x q = n) ∧ BlkI w g x wr) (fun c _ => 4 - (intOf c).toNat)
  case atStart => exact ⟨0, by decide, rfl, hid (fun q h => by omega), K1.out, B1.out⟩
  case round =>
    obtain ⟨k, hk, rfl, HQ, hI⟩ := hrel
    have HI := hid hI
    clear hI K1 B1
    by_cases hlt : k < 4
    · have hlt' : (k : Int) < 4 := by omega
      have hc := cutI_any g k x hlt _ _ HI.out
      have ht := fun W h => tag_any g k x HX.out hlt W w h
      have hL := hid hlt
      have hE := hid (rfl : tag x k = tag x k)
      have hF := hid (isOf_not x n k hlt)
      have hS : Hid (tag x k = n → ∀ q, q < k + 1 → tag x q = n) := hid fun h q hq => by
        rcases Nat.lt_or_ge q k with h1 | h1
        · exact HQ.out q h1
        · rw [show q = k by omega]; exact h
      generalize tag x k = t at *
      generalize 16 * k = f at *
      clear hlt hE
      go_wp2_with fail
      refine hc.mono ?_
      clear hc
      rintro e w2 ⟨rfl, hI2⟩
      go_wp2_with fail
      refine (ht _ hI2).mono ?_
      clear ht hI2
      rintro e w3 ⟨rfl, hI3⟩
      have HI3 := hid hI3
      clear hI3
      by_cases he : t = n
      · subst he
        go_wp2_with fail
        go_roundw
        case rel => exact ⟨k + 1, by have := hL.out; omega, rfl, hid (hS.out (by trivial)), HI3.out⟩
        case measure => simp [intOf]; omega
      · have he' : (t == n) = false := by simpa using he
        have HF := hid (hF.out he)
        clear he
        go_wp2_with fail
        go_ret
        exact ⟨congrArg (fun b => Ending.returned (.bool b)) HF.out.symm, HI3.out.2⟩
    · obtain rfl : k = 4 := by omega
      rw [show ((4 : Nat) : Int) = 4 from rfl]
      go_wp2
      go_ret
      exact ⟨congrArg (fun b => Ending.returned (.bool b)) (isOf_all x n HQ.out).symm, HI.out.2⟩
end Go.Proofs.YtfgbpinfplllgaaGreatDoor
namespace Go.Proofs.YtfgbpinfplllgaaGreatDoor
open Go.RowKit Go.Shelf
set_option maxRecDepth 100000
section
variable {w : World} {ops : Array Oper} {rest : List Oper} {o : Oper} {a : Act} {Q : Exit → Act → World → Prop}
end
end Go.Proofs.YtfgbpinfplllgaaGreatDoor
namespace Go.Proofs.YtfgbpinfplllgaaGreatDoor
open Go.RowKit Go.Shelf
set_option maxRecDepth 100000
theorem zeros_run (n : Nat) (h0 : 0 < n) (hn : n ≤ 281474976710656) (w : World) : ∃ cap Z, n ≤ cap ∧ cap ≤ maxLen ∧ Z.size = cap ∧
    (Builtin.append_ #[60, 3] 60 #[.slice none 0 0, .int .i64 (n : Int)]).run Tryz.prog w = .ok (.slice (some ⟨w.heap.size, 0, none⟩) n cap) (w.drew.alloc (.cells Z 5)) := by
  obtain ⟨i0, hi, hz0, hz1, hz2⟩ := info_parts Try_info5
  have h := Lib.run_append_nil_zeros (P := Tryz.prog) w 60 3 60 5 i0 (.int .u8 0) .i64 .i64 Tryz.underlying60 Tryz.underlying3 hi hz0 n h0 (by rw [hz1]; decide) (by omega) (by rw [hz2]; omega)
  have hge := grownCap_ge w n 0 5
  exact ⟨_, _, hge, grownCap_le_maxLen w n 0 5 (by unfold maxLen; omega), by simp [size_zeroCells, Value.cells]; omega, h⟩
theorem Grow_nil (n : Nat) (h0 : 0 < n) (hn : n ≤ 281474976710656) (w : World) : Calls Tryz.prog 169 #[.slice none 0 0, .int .i64 (n : Int)] w fun e w' =>
    ∃ v, e = .returned v ∧ w'.ownsRow w.heap.size 5 1 v 0 [] ∧ Below w.heap.size w w' := by
  obtain ⟨cap, Z, hc, hm, hZ, hrun⟩ := zeros_run n h0 hn w
  have hp : (0 : Int) < (n : Int) := by omega
  have hm' : cap ≤ 9223372036854775807 := by unfold maxLen at hm; omega
  have HC := hid hc
  have HN := hid hn
  have HM := hid hm
  clear hc h0 hm
  have hn' : (n : Int) ≤ 281474976710656 := by omega
  clear hn
  go_enter Tryz.func169, Tryz.ntmps169
  go_wp2_with (at_builtin; refine Lib.wpList_append_run _ rfl (.tmp 20) (.tmp 21) _ _ rfl (.slice none 0 0) (.int .i64 (n : Int)) rfl rfl _ _ hrun ?_)
  go_ret
  refine ⟨_, rfl, ⟨rfl, .inr ⟨w.heap.size, cap, Z, rfl, Nat.le_refl _, ?_, Nat.zero_le _, HM.out, by omega, by simp⟩⟩, (Below.refl _ _).drew.alloc (Nat.le_refl _) _⟩
  exact Cs.new w.drew 5 Z
def preC (p q : List UInt8) (k : Nat) : List UInt8 := if k = 0 then [] else if k = 1 then p else p ++ q
theorem preC_len (p q : List UInt8) (hp : p.length = 44) (hq : q.length = 4) (k : Nat) (hk : k ≤ 2) : (preC p q k).length = if k = 0 then 0 else if k = 1 then 44 else 48 := by
  unfold preC
  rcases (show k = 0 ∨ k = 1 ∨ k = 2 by omega) with rfl | rfl | rfl <;> simp [hp, hq]
set_option maxHeartbeats 1000000 in
theorem Concat_any (S : Nat) (p q : List UInt8) (pg qg : Nat) (pc qc : Nat) (hp : p.length = 44) (hq : q.length = 4) (w : World) (h0 : w.cell? ⟨S, 0, none⟩ = some (.slice (some ⟨pg, 0, none⟩) 44 pc)) (h1 : w.cell? ⟨S, 1, none⟩ = some (.slice (some ⟨qg, 0, none⟩) 4 qc))
    (hrp : Rd w (some ⟨pg, 0, none⟩) p) (hrq : Rd w (some ⟨qg, 0, none⟩) q) : Calls Tryz.prog 147 #[.slice (some ⟨S, 0, none⟩) 2 2] w fun e w' =>
    ∃ v, e = .returned v ∧ w'.ownsRow w.heap.size 5 1 v 48 (cellsOf (p ++ q)) ∧ Below w.heap.size w w' := by
  have HP := hid hp
  have HQ := hid hq
  have RP := hid hrp
  have RQ := hid hrq
  have H0 := hid h0
  have H1 := hid h1
  have hgrow := Grow_nil 48 (by decide) (by decide)
  rw [show ((48 : Nat) : Int) = 48 from rfl] at hgrow
  clear hp hq hrp hrq h0 h1
  go_enter Tryz.func147, Tryz.ntmps147
  go_wp2_with fail
  go_loop [3, 11] (fun s c => (s = .int .i64 0 ∧ c = .int .i64 0) ∨ (s = .int .i64 44 ∧ c = .int .i64 1) ∨ (s = .int .i64 48 ∧ c = .int .i64 2)) (fun _ c => 2 - (intOf c).toNat)
  case atStart => exact .inl ⟨rfl, rfl⟩
  case round =>
    rcases hrel with ⟨rfl, rfl⟩ | ⟨rfl, rfl⟩ | ⟨rfl, rfl⟩
    · have h0 := H0.out
      go_wp2_with fail
      go_round
      case rel => exact .inr (.inl ⟨rfl, rfl⟩)
      case measure => simp [intOf]
    · have h1 := H1.out
      go_wp2_with fail
      go_round
      case rel => exact .inr (.inr ⟨rfl, rfl⟩)
      case measure => simp [intOf]
    · go_wp2_with fail
      refine (hgrow _).mono ?_
      clear hgrow
      rintro e w1 ⟨v, rfl, hown, hb⟩
      have HO := hid hown
      have HB := hid hb
      clear hown hb
      go_wp2_with fail
      go_loopw [6, 27] (fun v c wr => ∃ k : Nat, k ≤ 2 ∧ c = .int .i64 k ∧ wr.ownsRow w.heap.size 5 1 v (preC p q k).length (cellsOf (preC p q k)) ∧ Below w.heap.size w wr) (fun _ c _ => 2 - (intOf c).toNat)
      case atStart => exact ⟨0, by decide, rfl, HO.out, HB.out⟩
      case round =>
        obtain ⟨k, hk, rfl, hown, hb⟩ := hrel
        have HOW := hid hown
        have HBW := hid hb
        clear hown hb
        rcases (show k = 0 ∨ k = 1 ∨ k = 2 by omega) with rfl | rfl | rfl
        · have h0 := (HBW.out.cell (lt_of_cell H0.out)).trans H0.out
          go_wp2_with (at_builtin; refine append_rd rfl (.tmp 31) (.tmp 32) rfl w.heap.size _ _ _ rfl HOW.out _ p 44 pc HP.out.symm rfl (RP.out.below HBW.out) (by intro h; cases h) (by simp [preC]) HBW.out.size ?_; intro v2 w2 hown2 hgr2)
          go_roundw
          case rel => exact ⟨1, by decide, rfl, by rw [show (preC p q 1).length = (preC p q 0).length + 44 by simp [preC, HP.out]]; exact hown2, HBW.out.grown hgr2 HBW.out.size (own_base HOW.out)⟩
          case measure => simp [intOf]
        · have h1 := (HBW.out.cell (lt_of_cell H1.out)).trans H1.out
          go_wp2_with (at_builtin; refine append_rd rfl (.tmp 31) (.tmp 32) rfl w.heap.size _ _ _ rfl HOW.out _ q 4 qc HQ.out.symm rfl (RQ.out.below HBW.out) (by intro h; cases h) (by simp [preC, HP.out]) HBW.out.size ?_; intro v2 w2 hown2 hgr2)
          go_roundw
          case rel => exact ⟨2, by decide, rfl, by rw [show (preC p q 2).length = (preC p q 1).length + 4 by simp [preC, HQ.out]]; exact hown2, HBW.out.grown hgr2 HBW.out.size (own_base HOW.out)⟩
          case measure => simp [intOf]
        · have hown := HOW.out
          rw [preC_len p q HP.out HQ.out 2 (by decide)] at hown
          have HOW2 := hid hown
          clear hown
          rw [show ((2 : Nat) : Int) = 2 from rfl]
          go_wp2_with fail
          go_ret
          exact ⟨_, rfl, HOW2.out, HBW.out⟩
end Go.Proofs.YtfgbpinfplllgaaGreatDoor
namespace Go.Proofs.YtfgbpinfplllgaaGreatDoor
open Go.RowKit Go.Shelf
set_option maxRecDepth 100000
theorem layAt_nil (b : List UInt8) (o : Nat) : layAt b o [] = b := by simp [layAt]
theorem run_copy_rd (w : World) (g f n dc m sc : Nat) (A : Option Addr) (t : TypeId) (b l : List UInt8) (hm : l.length = m) (hr : Rd w A l) (hg : Cs w g t (cellsOf b).toArray) (hfit : f + min n m ≤ b.length) (ty : TypeId) :
    ∃ w', (Builtin.copy_ #[60, 60] ty #[.slice (some ⟨g, f, none⟩) n dc, .slice A m sc]).run Tryz.prog w = .ok (.int .i64 (min n m : Nat)) w' ∧ Cs w' g t (cellsOf (layAt b f (l.take n))).toArray ∧ w.grownBy w' (some g) := by
  subst hm
  by_cases h0 : min n l.length = 0
  · refine ⟨w, ?_, ?_, World.grownBy.refl w _⟩
    · have := run_copy_none (P := Tryz.prog) w 60 60 ty 5 (some ⟨g, f, none⟩) A n dc l.length sc Tryz.underlying60 (by kernel_rfl) (by rw [Nat.min_comm] at h0; exact h0)
      rw [this, h0]
      rfl
    · have e : l.take n = [] := by
        rcases Nat.eq_zero_or_pos n with h | h
        · rw [h]; rfl
        · have : l.length = 0 := by omega
          rw [List.eq_nil_of_length_eq_zero this]; simp
      rw [e, layAt_nil]
      exact hg
  · rcases hr with rfl | ⟨sb, so, rfl, hc⟩
    · simp at h0
    · have hlen : (cellsOf (l.take n)).length = min n l.length := by rw [cellsOf_length, List.length_take]
      have hrun := run_copy_row (P := Tryz.prog) w 60 60 ty 5 g f n dc ⟨sb, so, none⟩ l.length sc (cellsOf b).toArray t (cellsOf (l.take n)) Tryz.underlying60 (by kernel_rfl) hg (by rw [hlen]; exact Nat.min_comm _ _)
        (fun j v hv => by
          have hj : j < l.length := by
            have := (List.getElem?_eq_some_iff.1 hv).1
            rw [hlen] at this
            omega
          have hjn : j < n := by
            have := (List.getElem?_eq_some_iff.1 hv).1
            rw [hlen] at this
            omega
          rw [addr_add, hc j hj]
          simp only [cellsOf, List.getElem?_map, List.getElem?_take_of_lt hjn, List.getElem?_eq_getElem hj, Option.map_some] at hv
          exact hv) (by rw [hlen]; simpa [cellsOf_length] using hfit) (cellsOf_one _)
      rw [hlen] at hrun
      refine ⟨_, hrun, ?_, grown_row _ _ _⟩
      have h1 := hg.row (over (cellsOf b).toArray f (cellsOf (l.take n)))
      have e : over (cellsOf b).toArray f (cellsOf (l.take n)) = ((cellsOf b).take f ++ cellsOf (l.take n) ++ (cellsOf b).drop (f + min n l.length)).toArray := by
        unfold over
        rw [hlen]
      rw [← e]
      rw [over_cells] at h1 ⊢
      exact h1
section
variable {w : World} {ops : Array Oper} {rest : List Oper} {o : Oper} {a : Act} {Q : Exit → Act → World → Prop}
theorem wpList_copy_rd (hgd : o.guard = none) (d s : Operand) (ho : o.op = Op.call { callee := Callee.builtin Builtin.copy, args := #[d, s], argTypes := #[60, 60] }) (g f n dc m sc : Nat) (A : Option Addr) (t : TypeId) (b l : List UInt8)
    (hd : a.eval d = .slice (some ⟨g, f, none⟩) n dc) (hs : a.eval s = .slice A m sc) (hm : l.length = m) (hr : Rd w A l) (hg : Cs w g t (cellsOf b).toArray) (hfit : f + min n m ≤ b.length) (k : Nat) (hk : min n m = k)
    (hK : ∀ w', Cs w' g t (cellsOf (layAt b f (l.take n))).toArray → w.grownBy w' (some g) → wpList Tryz.prog ops Q rest (a.put o.dst (.int .i64 (k : Int))) w') : wpList Tryz.prog ops Q (o :: rest) a w := by
  obtain ⟨w', hrun, h1, h2⟩ := run_copy_rd w g f n dc m sc A t b l hm hr hg hfit o.type
  refine wpList_plain hgd fun _ hh => ?_
  unfold Oper.wp execOp
  simp only [ho, resolve, invoke, builtin, Sem.run_bind, Sem.run_pure, Result.andThen_ok, List.map_toArray, List.map_cons, List.map_nil, hd, hs, hrun]
  rw [hk]
  exact hh _ _ (hK _ h1 h2)
end
def z44 : List UInt8 := List.replicate 44 0
theorem z44_len : z44.length = 44 := by simp [z44]
theorem zero44 (w : World) : (zeroValue 221).run Tryz.prog w = .ok (.agg (cellsOf z44).toArray) w := by kernel_rfl
theorem wpList_alloc_44 {w : World} {ops : Array Oper} {rest : List Oper} {o : Oper} {a : Act} {Q : Exit → Act → World → Prop} (hgd : o.guard = none) (ho : o.op = .alloc 221)
    (hK : ∀ g w', Cs w' g 221 (cellsOf z44).toArray → Below w.heap.size w w' → w.heap.size ≤ g → wpList Tryz.prog ops Q rest (a.put o.dst (.pointer (some ⟨g, 0, none⟩))) w') : wpList Tryz.prog ops Q (o :: rest) a w :=
  wpList_alloc_agg hgd 221 ho (cellsOf z44) zero44 (hK _ _ (Cs.new _ _ _) ((Below.refl _ _).alloc (Nat.le_refl _) _) (Nat.le_refl _))
theorem full_lay (b : List UInt8) (h : b.length ≤ 44) : layAt z44 0 (b.take 44) = fullOf b := by
  unfold layAt fullOf z44
  rw [List.take_of_length_le h, List.take_zero, List.nil_append, Nat.zero_add, List.drop_replicate]
end Go.Proofs.YtfgbpinfplllgaaGreatDoor
namespace Go.Proofs.YtfgbpinfplllgaaGreatDoor
open Go.RowKit Go.Shelf
set_option maxRecDepth 100000
theorem Put_long (n : Int) (b : List UInt8) (A : Option Addr) (c : Nat) (w : World) (h : 44 < b.length) (hl : b.length ≤ 281474976710656) : Calls Tryz.prog 111 #[.int .u32 n, .slice A b.length c] w fun e w' =>
    e = .returned (.tuple #[bv zb, .int .i64 3]) ∧ Below w.heap.size w w' := by
  have h' : (44 : Int) < (b.length : Int) := by omega
  clear h
  go_enter Tryz.func111, Tryz.ntmps111
  go_wp2_with (first
    | (refine wpList_alloc_blk rfl rfl ?_; intro g4 w1 hk hb hg; go_frame; have K4 := hid hk; have B4 := hid hb; have G4 := hid hg; clear hk hb hg)
    | (refine wpList_build_zero rfl rfl ?_; go_frame)
    | (refine wpList_fill_blk rfl (.tmp 4) _ rfl g4 rfl zb rfl zb_len K4.out ?_; intro w2 hk2 hr2; go_frame))
  refine bodyPost_ret (v := .tuple #[bv zb, .int .i64 3]) ?_ rfl ⟨rfl, keep_own B4.out hr2 G4.out⟩
  exact end_blk (p := 4) (u := 5) rfl _ _ g4 0 _ _ rfl rfl (At.whole hk2) zb_len
theorem Put_zero (b : List UInt8) (A : Option Addr) (c : Nat) (w : World) (h : b.length ≤ 44) : Calls Tryz.prog 111 #[.int .u32 0, .slice A b.length c] w fun e w' =>
    e = .returned (.tuple #[bv zb, .int .i64 2]) ∧ Below w.heap.size w w' := by
  have h' : decide ((44 : Int) < (b.length : Int)) = false := by simp; omega
  clear h
  go_enter Tryz.func111, Tryz.ntmps111
  go_wp2_with (first
    | (refine wpList_alloc_blk rfl rfl ?_; intro g4 w1 hk hb hg; go_frame; have K4 := hid hk; have B4 := hid hb; have G4 := hid hg; clear hk hb hg)
    | (refine wpList_build_zero rfl rfl ?_; go_frame)
    | (refine wpList_fill_blk rfl (.tmp 4) _ rfl g4 rfl zb rfl zb_len K4.out ?_; intro w2 hk2 hr2; go_frame))
  refine bodyPost_ret (v := .tuple #[bv zb, .int .i64 2]) ?_ rfl ⟨rfl, keep_own B4.out hr2 G4.out⟩
  exact end_blk (p := 4) (u := 5) rfl _ _ g4 0 _ _ rfl rfl (At.whole hk2) zb_len
theorem rd_drop {w : World} {g f : Nat} {l : List UInt8} (h : Rd w (some ⟨g, f, none⟩) l) (k : Nat) : Rd w (some ⟨g, f + k, none⟩) (l.drop k) := by
  rcases h with rfl | ⟨b, off, e, hc⟩
  · exact .inl (by simp)
  · cases e
    refine .inr ⟨g, f + k, rfl, fun j hj => ?_⟩
    have hj' : k + j < l.length := by simp at hj; omega
    have := hc (k + j) hj'
    rw [← Nat.add_assoc] at this
    rw [this]
    simp
def PutL (wB : World) (g9 : Nat) (h all : List UInt8) (k : Nat) (wr : World) : Prop := Cs wr g9 112 (cellsOf (putTo h all k)).toArray ∧ Below wB.heap.size wB wr
theorem putL_next {wB wr w1 w2 w3 : World} {g9 : Nat} {h all : List UInt8} {k : Nat} (hB : wB.heap.size ≤ g9) (hI : Below wB.heap.size wB wr) (hb : Below wr.heap.size wr w1) (h1 : w1.grownBy w2 (some g9)) (h2 : w2.grownBy w3 (some g9))
    (hc : Cs w3 g9 112 (cellsOf (layAt (layAt (putTo h all k) (16 * k) h) (16 * k + 4) ((all.drop (12 * k)).take 12))).toArray) : PutL wB g9 h all (k + 1) w3 :=
  ⟨by rw [putTo_succ]; exact hc, keep_own (keep_own (below_chain hI hb) h1 hB) h2 hB⟩
set_option maxHeartbeats 2000000 in
theorem Put_main (n : Int) (b : List UInt8) (A : Option Addr) (c : Nat) (w : World) (hb : b.length ≤ 44) (h0 : 0 < n) (h1 : n < 4294967296) (hr : Rd w A b) : Calls Tryz.prog 111 #[.int .u32 n, .slice A b.length c] w fun e w' =>
    e = .returned (.tuple #[bv (putN n b), .int .i64 0]) ∧ Below w.heap.size w w' := by
  have hmix : Tryz.prog.follows .mixedOrders = true := by kernel_rfl
  have h' : decide ((44 : Int) < (b.length : Int)) = false := by simp; omega
  have h0' : (n == 0) = false := by simp; omega
  have hbs := bytesOf_any n (by omega) h1
  have HBL := hid hb
  have HR := hid hr
  have HN0 := hid h0
  have HN1 := hid h1
  have hsum := fun W g h => sumOf_any n (by omega) h1 (fullOf b) (some ⟨g, 0, none⟩) 44 (by rw [fullOf_len b hb]; decide) W h
  rw [fullOf_len b hb] at hsum
  have hbs2 := bytesOf_any (sumN n (fullOf b)) (by omega) (by have := sumN_lt n (fullOf b); omega)
  have HS : Hid (allOf n b = fullOf b ++ beL (sumN n (fullOf b)) 4) := hid rfl
  generalize hall : allOf n b = all at *
  have HALL := hid hall
  clear hall
  generalize hsn : sumN n (fullOf b) = sn at *
  clear hsn h0 h1 hr hb
  go_enter Tryz.func111, Tryz.ntmps111
  go_wp2_with (first
    | (refine wpList_alloc_blk rfl rfl ?_; intro g4 w1 hk hb hg; go_frame; have K4 := hid hk; have B4 := hid hb; have G4 := hid hg; clear hk hb hg)
    | (refine wpList_alloc_44 rfl rfl ?_; intro g6 w2 hk hb hg; go_frame; have K6 := hid hk; have B6 := hid hb; have G6 := hid hg; clear hk hb hg)
    | (refine wpList_copy_rd rfl (.tmp 20) (.tmp 21) rfl g6 0 44 44 b.length c A 221 z44 b rfl rfl rfl (HR.out.below (below_chain B4.out B6.out)) K6.out (by rw [z44_len]; omega) b.length (by have := HBL.out; omega) ?_; intro w3 hk hr; rw [full_lay b HBL.out] at hk; go_frame; have K6b := hid hk; have B6b := hid (keep_own B6.out hr G6.out); clear hk hr))
  --GEN
  refine (hbs _).mono ?_
  clear hbs
  rintro e w4 ⟨g7, rfl, hr7, hb7⟩
  have R7 := hid hr7
  have B7 := hid (below_chain B6b.out hb7)
  have K6c := hid (K6b.out.below hb7 K6b.out.lt)
  clear hr7 hb7 K6 K6b B6
  go_wp2_with fail
  have hdr := (Below.refl w4.heap.size w4).drew
  refine wp_region_held (S := fun w9 => Below w4.heap.size w4 w9) hmix ?_
  change wpAnyH _ _ _ _ _ _ _ _ (World.drew w4)
  have S0 := hid hdr
  clear hdr
  refine wpAnyH_take (i := 0) (v := .slice (some ⟨g6, 0, none⟩) 44 44) rfl (by kernel_rfl) (by kernel_rfl) (by kernel_rfl) (fun _ _ _ h => h) (Or.inl ⟨by rfl, by intro w9 hS; go_simp⟩) S0.out ?_
  try simp only [getElem_toArray, getElem_cons_succ, getElem_cons_zero, Act.put, setIfInBounds_toArray, set_cons_succ, set_cons_zero]
  refine wpAnyH_take (i := 1) (v := .int .u32 n) rfl (by kernel_rfl) (by kernel_rfl) (by kernel_rfl) (fun _ _ _ h => h) (Or.inl ⟨by rfl, by intro w9 hS; go_simp⟩) S0.out ?_
  try simp only [getElem_toArray, getElem_cons_succ, getElem_cons_zero, Act.put, setIfInBounds_toArray, set_cons_succ, set_cons_zero]
  refine wpAnyH_take (i := 2) (v := .slice (some ⟨g6, 0, none⟩) 44 44) rfl (by kernel_rfl) (by kernel_rfl) (by kernel_rfl) (fun _ _ _ h => h) (Or.inl ⟨by rfl, by intro w9 hS; go_simp⟩) S0.out ?_
  try simp only [getElem_toArray, getElem_cons_succ, getElem_cons_zero, Act.put, setIfInBounds_toArray, set_cons_succ, set_cons_zero]
  have hsum0 := hsum _ g6 (by have := rd_part (K6c.out.below S0.out K6c.out.lt) 0 44; rw [List.drop_zero, List.take_of_length_le (by rw [fullOf_len b HBL.out]; exact Nat.le_refl _)] at this; exact this)
  clear hsum
  generalize World.drew w4 = w5 at *
  refine wpAnyH_ready (rs := [3]) (by kernel_rfl) (by simp) ?_
  refine AllReadyH.cons rfl (fun K hK => ?_) AllReadyH.nil
  dsimp only [getElem_toArray, getElem_cons_succ, getElem_cons_zero]
  go_simp
  refine hsum0.mono ?_
  clear hsum0
  rintro e w6 ⟨rfl, hb6⟩
  have S1 := hid (S0.out.trans (hb6.mono S0.out.size))
  clear hb6
  refine hK.out _ _ S1.out (fun _ => ?_)
  clear hK K
  try simp only [getElem_toArray, getElem_cons_succ, getElem_cons_zero, Act.put, setIfInBounds_toArray, set_cons_succ, set_cons_zero]
  refine wpAnyH_ready (rs := [4]) (by kernel_rfl) (by simp) ?_
  refine AllReadyH.cons rfl (fun K hK => ?_) AllReadyH.nil
  dsimp only [getElem_toArray, getElem_cons_succ, getElem_cons_zero]
  go_simp
  refine (hbs2 _).mono ?_
  clear hbs2
  rintro e w7 ⟨gs, rfl, hrs, hb7⟩
  have S2 := hid (S1.out.trans (hb7.mono S1.out.size))
  have RS := hid hrs
  clear hb7 hrs
  refine hK.out _ _ S2.out (fun _ => ?_)
  clear hK K
  try simp only [getElem_toArray, getElem_cons_succ, getElem_cons_zero, Act.put, setIfInBounds_toArray, set_cons_succ, set_cons_zero]
  refine wpAnyH_ready (rs := [5]) (by kernel_rfl) (by simp) ?_
  refine AllReadyH.cons rfl (fun K hK => ?_) AllReadyH.nil
  dsimp only [getElem_toArray, getElem_cons_succ, getElem_cons_zero]
  go_simp
  have c8 := Cs.new w7 60 #[.slice (some ⟨g6, 0, none⟩) 44 44, .slice (some ⟨gs, 0, none⟩) 4 4]
  have b8 := (Below.refl w7.heap.size w7).alloc (Nat.le_refl _) (.cells #[.slice (some ⟨g6, 0, none⟩) 44 44, .slice (some ⟨gs, 0, none⟩) 4 4] 60)
  have C8 := hid c8
  have B8 := hid b8
  clear c8 b8
  generalize w7.alloc (.cells #[.slice (some ⟨g6, 0, none⟩) 44 44, .slice (some ⟨gs, 0, none⟩) 4 4] 60) = w8 at *
  have S3 := hid (S2.out.trans (B8.out.mono S2.out.size))
  refine hK.out _ _ S3.out (fun _ => ?_)
  clear hK K
  try simp only [getElem_toArray, getElem_cons_succ, getElem_cons_zero, Act.put, setIfInBounds_toArray, set_cons_succ, set_cons_zero]
  refine wpAnyH_ready (rs := [6]) (by kernel_rfl) (by simp) ?_
  refine AllReadyH.cons rfl (fun K hK => ?_) AllReadyH.nil
  dsimp only [getElem_toArray, getElem_cons_succ, getElem_cons_zero]
  go_simp
  have hK6 := K6c.out.below (Below.trans ((Below.refl w4.heap.size w4)) S3.out) K6c.out.lt
  have hcon := Concat_any w7.heap.size (fullOf b) (beL sn 4) g6 gs 44 4 (fullOf_len b HBL.out) (beL_length _ _) w8 (C8.out.cell 0 rfl) (C8.out.cell 1 rfl) (by have := rd_part hK6 0 44; rw [List.drop_zero, List.take_of_length_le (by rw [fullOf_len b HBL.out]; exact Nat.le_refl _)] at this; exact this) (RS.out.below B8.out)
  refine hcon.mono ?_
  clear hcon hK6
  rintro e w9 ⟨v, rfl, hown, hb9⟩
  rw [← HS.out] at hown
  obtain ⟨ag, cap, rfl, hcap, hcm⟩ := own_form hown (by decide)
  have RA := hid (own_rd hown)
  have S4 := hid (S3.out.trans (hb9.mono S3.out.size))
  have HCM := hid hcm
  have HC := hid hcap
  clear hown hb9 hcm hcap
  refine hK.out _ _ S4.out (fun _ => ?_)
  clear hK K
  try simp only [getElem_toArray, getElem_cons_succ, getElem_cons_zero, Act.put, setIfInBounds_toArray, set_cons_succ, set_cons_zero]
  refine wpAnyH_take (i := 7) (v := .slice (some ⟨ag, 0, none⟩) 48 cap) rfl (by kernel_rfl) (by kernel_rfl) (by kernel_rfl) (fun _ _ _ h => h) (Or.inl ⟨by rfl, by intro w9 hS; go_simp⟩) S4.out ?_
  try simp only [getElem_toArray, getElem_cons_succ, getElem_cons_zero, Act.put, setIfInBounds_toArray, set_cons_succ, set_cons_zero]
  refine wpAnyH_done (by kernel_rfl) ?_ _
  have K4b := hid (K4.out.below (below_chain B7.out S4.out) K4.out.lt)
  have R7b := hid (R7.out.below S4.out)
  have BB := hid (below_chain (below_chain B4.out B7.out) S4.out)
  have hall48 : all.length = 48 := by rw [← HALL.out]; exact allOf_len n b HBL.out
  have HA48 := hid hall48
  clear hall48
  have hput : putN n b = putTo (beL n 4) all 4 := by unfold putN; rw [HALL.out]
  have HPUT := hid hput
  clear hput
  have hhl := hid (beL_length n 4)
  generalize beL n 4 = h at *
  have hlen := hid (putTo_len h all hhl.out HA48.out)
  clear K4 R7 B7 S4 S3 S2 S1 S0 C8 B8 RS K6c B6b HR HBL HS HALL HN0 HN1 G6 h0'
  go_wp2_with (first | (refine wpList_alloc_blk rfl rfl ?_; intro g9 w10 hk hb hg; go_frame; have K9 := hid hk; have B9 := hid hb; have G9 := hid hg; clear hk hb hg))
  go_loopw [8, 32] (fun lv c wr => ∃ (k : Nat) (A9 : Option Addr), k ≤ 4 ∧ c = .int .i64 k ∧ lv = .slice A9 (48 - 12 * k) (cap - 12 * k) ∧ Hid (k < 4 → A9 = some ⟨ag, 12 * k, none⟩) ∧ PutL w9 g9 h all k wr) (fun _ c _ => 4 - (intOf c).toNat)
  case atStart => exact ⟨0, _, by decide, rfl, rfl, hid fun _ => rfl, K9.out, B9.out⟩
  case round =>
    obtain ⟨k, A9, hk, rfl, rfl, HA9, hI⟩ := hrel
    have HI := hid hI
    clear hI K9 B9
    by_cases hk4 : k < 4
    · have hlt : (k : Int) < 4 := by omega
      obtain rfl := HA9.out hk4
      clear HA9
      have HE4 := hid (show cap - 12 * k = 12 → ¬ (k + 1 < 4) by have := HC.out; omega)
      have hc := cut_any g9 k hk4 wr
      have HL := hid hk4
      have HP := hid (hlen.out k (by omega))
      have HF := hid (show 16 * k + 16 ≤ 64 by omega)
      have hlo : 12 ≤ 48 - 12 * k := by omega
      have hlc : 48 - 12 * k ≤ cap - 12 * k := by have := HC.out; omega
      have hcp : cap - 12 * k ≤ 9223372036854775807 := by have := HCM.out; unfold maxLen at this; omega
      have HD := hid (show (all.drop (12 * k)).length = 48 - 12 * k by rw [List.length_drop, HA48.out])
      have RD := hid (show Rd w9 (some ⟨ag, 12 * k, none⟩) (all.drop (12 * k)) by have := rd_drop RA.out (12 * k); rwa [Nat.zero_add] at this)
      have HE1 := hid (show 12 * k + 12 = 12 * (k + 1) by omega)
      have HE2 := hid (show 48 - 12 * k - 12 = 48 - 12 * (k + 1) by omega)
      have HE3 := hid (show cap - 12 * k - 12 = cap - 12 * (k + 1) by omega)
      have hnx : Hid (∀ w1 w2 w3, Below wr.heap.size wr w1 → w1.grownBy w2 (some g9) → w2.grownBy w3 (some g9) → Cs w3 g9 112 (cellsOf (layAt (layAt (putTo h all k) (16 * k) h) (16 * k + 4) ((all.drop (12 * k)).take 12))).toArray → PutL w9 g9 h all (k + 1) w3) := hid fun w1 w2 w3 a b c d => putL_next G9.out HI.out.2 a b c d
      generalize hlo2 : 12 * k = lo at *
      generalize hf : 16 * k = f at *
      generalize 48 - lo = ln at *
      generalize hcc : cap - lo = cp at *
      generalize hd : all.drop lo = dl at *
      clear hd hf hlo2 hcc hk4
      generalize hpt : putTo h all k = pt at *
      have HI1 := hid (show Cs wr g9 112 (cellsOf pt).toArray by rw [← hpt]; exact HI.out.1)
      have HI2 := hid HI.out.2
      clear hpt HI
      go_wp2_with fail
      refine hc.mono ?_
      clear hc
      rintro e w11 ⟨rfl, hb11⟩
      have B11 := hid hb11
      have K11 := hid (HI1.out.below hb11 HI1.out.lt)
      have BW := hid (below_chain HI2.out hb11)
      clear hb11 HI1 HI2
      go_wp2_with (first
        | (refine wpList_copy_rd rfl (.tmp 40) (.tmp 41) rfl g9 f 4 4 4 4 (some ⟨g7, 0, none⟩) 112 pt h rfl rfl hhl.out (R7b.out.below BW.out) K11.out (by rw [HP.out]; have := HF.out; omega) 4 rfl ?_; intro w12 hk12 hr12; rw [List.take_of_length_le (by rw [hhl.out]; exact Nat.le_refl _)] at hk12; go_frame; have K12 := hid hk12; have R12 := hid hr12; have BW2 := hid (keep_own BW.out hr12 G9.out); clear hk12 hr12)
        | (refine wpList_copy_rd rfl (.tmp 44) (.tmp 45) rfl g9 (f + 4) 12 12 ln cp (some ⟨ag, lo, none⟩) 112 _ dl rfl rfl HD.out (RD.out.below BW2.out) K12.out (by rw [layAt_len _ _ _ (by rw [HP.out, hhl.out]; have := HF.out; omega), HP.out]; have := HF.out; omega) 12 (by omega) ?_; intro w13 hk13 hr13; go_frame; have HN := hid (hnx.out _ _ _ B11.out R12.out hr13 hk13); clear hk13 hr13))
      go_roundw
      case rel => exact ⟨k + 1, _, by have := HL.out; omega, rfl, by rw [HE2.out, HE3.out], hid fun h5 => by rw [if_neg fun e => HE4.out e h5, HE1.out], HN.out⟩
      case measure => simp [intOf]; have := HL.out; omega
    · obtain rfl : k = 4 := by omega
      rw [show ((4 : Nat) : Int) = 4 from rfl]
      have HK := hid HI.out.1
      have HP4 := hid (hlen.out 4 (by decide))
      have K4c := hid (K4b.out.below HI.out.2 K4b.out.lt)
      have BE := hid (below_chain BB.out HI.out.2)
      have G4c := G4.out
      rw [← HPUT.out] at HK HP4
      clear HPUT HI hlen R7b RA HCM HA9 HC
      go_wp2_with (first
        | (refine wpList_load_blk rfl _ rfl g9 0 rfl (putN n b) HP4.out (At.whole HK.out) ?_; go_frame)
        | (refine wpList_fill_blk rfl _ _ rfl g4 rfl (putN n b) rfl HP4.out K4c.out ?_; intro w14 hk14 hr14; go_frame))
      refine bodyPost_ret (v := .tuple #[bv (putN n b), .int .i64 0]) ?_ rfl ⟨rfl, keep_own BE.out hr14 G4c⟩
      exact end_blk (p := 4) (u := 5) rfl _ _ g4 0 _ _ rfl rfl (At.whole hk14) HP4.out
end Go.Proofs.YtfgbpinfplllgaaGreatDoor
namespace Go.Proofs.YtfgbpinfplllgaaGreatDoor
open Go.RowKit Go.Shelf
set_option maxRecDepth 100000
theorem Put_any (n : Int) (b : List UInt8) (A : Option Addr) (c : Nat) (w : World) (hl : b.length ≤ 281474976710656) (h0 : 0 ≤ n) (h1 : n < 4294967296) (hr : Rd w A b) : Calls Tryz.prog 111 #[.int .u32 n, .slice A b.length c] w fun e w' =>
    e = .returned (.tuple #[bv (putB n b), .int .i64 (putE n b)]) ∧ Below w.heap.size w w' := by
  unfold putB putE
  by_cases h : 44 < b.length
  · rw [if_pos h, if_neg (by decide)]
    exact Put_long n b A c w h hl
  · rw [if_neg h]
    by_cases hz : n = 0
    · subst hz
      rw [if_pos rfl, if_neg (by decide)]
      exact Put_zero b A c w (by omega)
    · rw [if_neg hz, if_pos rfl]
      exact Put_main n b A c w (by omega) (by omega) h1 hr
theorem own_block {W : World} {base g n cap : Nat} {xs : List Value} (h : W.ownsRow base 5 1 (.slice (some ⟨g, 0, none⟩) n cap) n xs) : base ≤ g ∧ ∃ cur, Cs W g 5 cur ∧ cur.toList.take n = xs := by
  rcases h.2 with ⟨h0, _⟩ | ⟨g', cap', cur, hv, hb, hc, _, _, _, ht⟩
  · cases h0
  · cases hv; exact ⟨hb, cur, hc, by rw [Nat.mul_one] at ht; exact ht⟩
theorem rd_cur {W : World} {g : Nat} {cur : Array Value} {l : List UInt8} {n : Nat} (h : Cs W g 5 cur) (ht : cur.toList.take n = cellsOf l) (hn : l.length = n) : Rd W (some ⟨g, 0, none⟩) l :=
  .inr ⟨g, 0, rfl, fun j hj => by
    rw [Nat.zero_add]
    refine h.cell j ?_
    have h1 : (cur.toList.take n)[j]? = some (.int .u8 (l[j].toNat : Int)) := by
      rw [ht]
      simp [cellsOf, List.getElem?_eq_getElem hj]
    rw [List.getElem?_take_of_lt (by omega)] at h1
    simpa using h1⟩
def OwnCur (W : World) (B g : Nat) (l : List UInt8) : Prop := B ≤ g ∧ ∃ cur, Cs W g 5 cur ∧ cur.toList.take l.length = cellsOf l
theorem OwnCur.rd {W : World} {B g : Nat} {l : List UInt8} (h : OwnCur W B g l) : Rd W (some ⟨g, 0, none⟩) l := by
  obtain ⟨_, cur, hc, ht⟩ := h
  exact rd_cur hc ht rfl
theorem OwnCur.take {W : World} {B g n : Nat} {l : List UInt8} (h : OwnCur W B g l) (hn : n ≤ l.length) : OwnCur W B g (l.take n) := by
  obtain ⟨hb, cur, hc, ht⟩ := h
  refine ⟨hb, cur, hc, ?_⟩
  have := congrArg (List.take n) ht
  rw [List.take_take, Nat.min_eq_left hn] at this
  rw [List.length_take, Nat.min_eq_left hn, this]
  simp [cellsOf]
theorem OwnCur.below {W W' : World} {B g : Nat} {l : List UInt8} (h : OwnCur W B g l) (hb : Below W.heap.size W W') : OwnCur W' B g l := by
  obtain ⟨h1, cur, hc, ht⟩ := h
  exact ⟨h1, cur, hc.below hb hc.lt, ht⟩
theorem own_cur {W : World} {base g cap : Nat} {l : List UInt8} (h : W.ownsRow base 5 1 (.slice (some ⟨g, 0, none⟩) l.length cap) l.length (cellsOf l)) : OwnCur W base g l := by
  obtain ⟨hb, cur, hc, ht⟩ := own_block h
  exact ⟨hb, cur, hc, ht⟩
def GetRet (x : Blk) (w : World) (e : Ending) (w' : World) : Prop :=
  Below w.heap.size w w' ∧ ((getE x ≠ 0 ∧ e = .returned (.tuple #[.int .u32 0, .slice none 0 0, .int .i64 (getE x)])) ∨
    (getE x = 0 ∧ ∃ g, e = .returned (.tuple #[.int .u32 (tag x 0), .slice (some ⟨g, 0, none⟩) 44 44, .int .i64 0]) ∧ OwnCur w' w.heap.size g (bodyOf x)))
theorem mk48 (W : World) : (Instr.makeSlice 60 (.int .i64 0) (.int .i64 48)).run Tryz.prog W = .ok (.slice (some ⟨W.heap.size, 0, none⟩) 0 48) (W.alloc (.cells (zeros 48) 5)) := by
  obtain ⟨i0, hi, hz0, hz1, hz2⟩ := info_parts Try_info5
  have h := run_make (P := Tryz.prog) W 60 5 i0 (.int .u8 0) Tryz.underlying60 hi hz0 .i64 .i64 0 48 (by omega) (by omega) (by rw [hz2]; omega) (by omega)
  rw [h, hz1]
  rw [show Int.toNat 48 * 1 = 48 from rfl]
  congr 3
  apply Array.ext
  · simp [zeros, size_madeCells]
  · intro j h1 h2
    simp [madeCells, zeros, Value.cells, Nat.mod_one]
def innerTo (x : Blk) : Nat → List UInt8
  | 0 => []
  | k + 1 => innerTo x k ++ cutOf x k
theorem innerTo_succ (x : Blk) (k : Nat) : innerTo x (k + 1) = innerTo x k ++ cutOf x k := rfl
theorem innerTo_4 (x : Blk) : innerTo x 4 = inner x := by simp [innerTo, inner]
theorem cutOf_len (x : Blk) (h : x.length = 64) (k : Nat) (hk : k < 4) : (cutOf x k).length = 12 := by simp [cutOf]; omega
theorem innerTo_len (x : Blk) (h : x.length = 64) : ∀ k, k ≤ 4 → (innerTo x k).length = 12 * k
  | 0, _ => rfl
  | k + 1, hk => by rw [innerTo_succ, List.length_append, innerTo_len x h k (by omega), cutOf_len x h k (by omega)]; omega
theorem getE_bad {x : Blk} (h : formed x = false) : getE x = 5 := by unfold getE; rw [h]; rfl
theorem getE_good {x : Blk} (h : formed x = true) : getE x = if lastOf x = (sumN (tag x 0) (bodyOf x) : Int) then 0 else 6 := by unfold getE; rw [if_pos h]
set_option maxHeartbeats 1000000 in
theorem Get_zero (x : Blk) (hx : x.length = 64) (h0 : greatest x = 0) (w : World) : Calls Tryz.prog 197 #[bv x] w fun e w' => e = .returned (.tuple #[.int .u32 0, .slice none 0 0, .int .i64 5]) ∧ Below w.heap.size w w' := by
  have hg := Greatest_any x hx
  rw [h0] at hg
  have HX := hid hx
  clear hx h0
  go_enter Tryz.func197, Tryz.ntmps197
  go_wp2_with (first
    | (refine wpList_box_blk rfl (.tmp 0) rfl x rfl ?_; intro g1 w1 hk hb hg; go_frame; have K1 := hid hk; have B1 := hid hb; clear hk hb hg)
    | (refine wpList_load_blk rfl _ rfl g1 0 rfl x HX.out (At.whole K1.out) ?_; go_frame))
  refine (hg _).mono ?_
  clear hg
  rintro e w2 ⟨rfl, hb2⟩
  have B2 := hid (below_chain B1.out hb2)
  clear hb2
  go_wp2_with fail
  go_ret3
  exact ⟨rfl, B2.out⟩
set_option maxHeartbeats 1000000 in
theorem Get_form (x : Blk) (hx : x.length = 64) (h0 : greatest x ≠ 0) (hi : isOfB x (greatest x) = false) (w : World) : Calls Tryz.prog 197 #[bv x] w fun e w' => e = .returned (.tuple #[.int .u32 0, .slice none 0 0, .int .i64 5]) ∧ Below w.heap.size w w' := by
  have hg := Greatest_any x hx
  have his := isOf_any x hx (greatest x)
  rw [hi] at his
  have h0' : (greatest x == 0) = false := by simpa using h0
  have HX := hid hx
  generalize greatest x = n at *
  clear hx h0 hi
  go_enter Tryz.func197, Tryz.ntmps197
  go_wp2_with (first
    | (refine wpList_box_blk rfl (.tmp 0) rfl x rfl ?_; intro g1 w1 hk hb hg; go_frame; have K1 := hid hk; have B1 := hid hb; clear hk hb hg)
    | (refine wpList_load_blk rfl _ rfl g1 0 rfl x HX.out (At.whole K1.out) ?_; go_frame))
  refine (hg _).mono ?_
  clear hg
  rintro e w2 ⟨rfl, hb2⟩
  have B2 := hid (below_chain B1.out hb2)
  have K2 := hid (K1.out.below hb2 K1.out.lt)
  clear hb2
  go_wp2_with (first
    | (refine wpList_load_blk_g (by kernel_rfl) _ rfl g1 0 rfl x HX.out (At.whole K2.out) ?_; go_frame))
  refine (his _).mono ?_
  clear his
  rintro e w3 ⟨rfl, hb3⟩
  have B3 := hid (below_chain B2.out hb3)
  clear hb3
  go_wp2_with fail
  go_ret3
  exact ⟨rfl, B3.out⟩
theorem own_below {w w' : World} {base n size : Nat} {e : TypeId} {v : Value} {xs : List Value} (h : w.ownsRow base e size v n xs) (hb : Below w.heap.size w w') : w'.ownsRow base e size v n xs := ownsRow_turn h (Turn.of_below hb fun _ => False) fun _ _ h => h
theorem BlkI.grown {w wr w' : World} {g B : Nat} {x : Blk} {r : Option Nat} (h : BlkI w g x wr) (hg : wr.grownBy w' r) (hn : ∀ k, r = some k → w.heap.size ≤ k) (hne : r ≠ some g) : BlkI w g x w' :=
  ⟨h.1.turn (Turn.of_grown hg) (fun e => hne e), h.2.grown hg h.2.size hn⟩
theorem own_ne_blk {w : World} {base n g : Nat} {v : Value} {xs : List Value} {cs : Array Value} (h : w.ownsRow base 5 1 v n xs) (hc : Cs w g 112 cs) : v.ownBlock ≠ some g := by
  rcases h.2 with ⟨rfl, _⟩ | ⟨g', cap, cur, rfl, hb, hg, _⟩
  · simp [Value.ownBlock]
  · simp only [Value.ownBlock, ne_eq, Option.some.injEq]
    rintro rfl
    unfold Cs at hc
    rw [hg] at hc
    cases hc
theorem rd_inner {w : World} {g : Nat} {x : Blk} {t : TypeId} (h : Cs w g t (cellsOf x).toArray) (k : Nat) : Rd w (some ⟨g, 16 * k + 4, none⟩) (cutOf x k) := rd_part h (16 * k + 4) 12
set_option maxHeartbeats 2000000 in
theorem Get_main (x : Blk) (hx : x.length = 64) (h0 : greatest x ≠ 0) (hi : isOfB x (greatest x) = true) (w : World) : Calls Tryz.prog 197 #[bv x] w fun e w' =>
    Below w.heap.size w w' ∧ ((lastOf x ≠ (sumN (greatest x) (bodyOf x) : Int) ∧ e = .returned (.tuple #[.int .u32 0, .slice none 0 0, .int .i64 6])) ∨
      (lastOf x = (sumN (greatest x) (bodyOf x) : Int) ∧ ∃ g, e = .returned (.tuple #[.int .u32 (greatest x), .slice (some ⟨g, 0, none⟩) 44 44, .int .i64 0]) ∧ OwnCur w' w.heap.size g (bodyOf x))) := by
  have hg := Greatest_any x hx
  have his := isOf_any x hx (greatest x)
  rw [hi] at his
  have hbd := greatest_bd x
  have hsum := fun W g h => sumOf_any (greatest x) hbd.1 hbd.2 (bodyOf x) (some ⟨g, 0, none⟩) 44 (by rw [bodyOf_len x hx]; decide) W h
  rw [bodyOf_len x hx] at hsum
  have hlast := fun W g c hc h => numberOf_any ((inner x).drop 44) (by rw [List.length_drop, inner_len x hx]) (some ⟨g, 44, none⟩) c hc W h
  have hll : num4 ((inner x).drop 44) = lastOf x := rfl
  rw [hll] at hlast
  have h0' : (greatest x == 0) = false := by simpa using h0
  have HX := hid hx
  have hmk := mk48
  have hil := hid (innerTo_len x hx)
  have hcl := hid (cutOf_len x hx)
  generalize greatest x = n at *
  generalize sumN n (bodyOf x) = sn at *
  generalize lastOf x = ln at *
  clear hx h0 hi hll hbd
  go_enter Tryz.func197, Tryz.ntmps197
  go_wp2_with (first
    | (refine wpList_box_blk rfl (.tmp 0) rfl x rfl ?_; intro g1 w1 hk hb hg; go_frame; have K1 := hid hk; have B1 := hid hb; clear hk hb hg)
    | (refine wpList_load_blk rfl _ rfl g1 0 rfl x HX.out (At.whole K1.out) ?_; go_frame))
  refine (hg _).mono ?_
  clear hg
  rintro e w2 ⟨rfl, hb2⟩
  have B2 := hid (below_chain B1.out hb2)
  have K2 := hid (K1.out.below hb2 K1.out.lt)
  clear hb2
  go_wp2_with (first
    | (refine wpList_load_blk_g (by kernel_rfl) _ rfl g1 0 rfl x HX.out (At.whole K2.out) ?_; go_frame))
  refine (his _).mono ?_
  clear his
  rintro e w3 ⟨rfl, hb3⟩
  have B3 := hid (below_chain B2.out hb3)
  have K3 := hid (K2.out.below hb3 K2.out.lt)
  clear hb3 B1 K1 B2 K2
  go_wp2_with fail
  have c4 := Cs.new w3 5 (zeros 48)
  have b4 := (Below.refl w3.heap.size w3).alloc (Nat.le_refl _) (.cells (zeros 48) 5)
  have O4 := hid (show (w3.alloc (.cells (zeros 48) 5)).ownsRow w.heap.size 5 1 (.slice (some ⟨w3.heap.size, 0, none⟩) 0 48) 0 (cellsOf (innerTo x 0)) from
    ⟨rfl, .inr ⟨w3.heap.size, 48, zeros 48, rfl, B3.out.size, c4, by decide, by decide, by simp [zeros], rfl⟩⟩)
  have K4 := hid (K3.out.below b4 K3.out.lt)
  have B4 := hid (below_chain B3.out b4)
  clear c4 b4 K3 hmk
  generalize w3.alloc (.cells (zeros 48) 5) = w4 at *
  generalize w3.heap.size = z3 at *
  clear B3
  go_loopw [6, 21] (fun v c wr => ∃ k : Nat, k ≤ 4 ∧ c = .int .i64 k ∧ wr.ownsRow w.heap.size 5 1 v (12 * k) (cellsOf (innerTo x k)) ∧ BlkI w g1 x wr) (fun _ c _ => 4 - (intOf c).toNat)
  case atStart => exact ⟨0, by decide, rfl, O4.out, K4.out, B4.out⟩
  case round =>
    obtain ⟨k, hk, rfl, hown, hI⟩ := hrel
    have HI := hid hI
    have HO := hid hown
    clear hI hown O4 K4 B4
    by_cases hk4 : k < 4
    · have hlt : (k : Int) < 4 := by omega
      have hc := cut_any g1 k hk4 wr
      have HL := hid hk4
      have hcl' := hid (hcl.out k hk4)
      have RI := hid (fun (W : World) (h : Cs W g1 112 (cellsOf x).toArray) => rd_inner h k)
      have HS := hid (innerTo_succ x k)
      have HM := hid (show 12 * k + 12 = 12 * (k + 1) by omega)
      have hbig : 12 * k + 12 ≤ 140737488355328 := by omega
      generalize 16 * k = f at *
      generalize hit : innerTo x k = it at *
      generalize cutOf x k = ct at *
      generalize h12 : 12 * k = m at *
      clear hk4 hit h12
      go_wp2_with fail
      refine hc.mono ?_
      clear hc
      rintro e w5 ⟨rfl, hb5⟩
      have HI5 := hid (HI.out.below hb5)
      have HO5 := hid (own_below HO.out hb5)
      clear hb5 HI HO
      go_wp2_with (at_builtin; refine append_rd rfl (.tmp 29) (.tmp 30) rfl w.heap.size _ _ _ rfl HO5.out _ ct 12 12 hcl'.out.symm rfl (RI.out _ HI5.out.1) (by intro h; cases h) hbig HI5.out.2.size ?_; intro v2 w6 hown6 hgr6)
      go_roundw
      case rel => exact ⟨k + 1, by have := HL.out; omega, rfl, by rw [← HM.out, HS.out]; exact hown6, BlkI.grown (B := 0) HI5.out hgr6 (own_base HO5.out) (own_ne_blk HO5.out HI5.out.1)⟩
      case measure => simp [intOf]; have := HL.out; omega
    · obtain rfl : k = 4 := by omega
      rw [show ((4 : Nat) : Int) = 4 from rfl]
      have hown := HO.out
      rw [show 12 * 4 = 48 from rfl, innerTo_4] at hown
      obtain ⟨ag, cap, rfl, hcap, hcm⟩ := own_form hown (by decide)
      have hoc := own_cur (l := inner x) (by rw [inner_len x HX.out]; exact hown)
      have OC := hid hoc
      have hcm' : cap ≤ 9223372036854775807 := by unfold maxLen at hcm; omega
      have h44 : 44 ≤ cap := by omega
      have RL := hid (show Rd wr (some ⟨ag, 44, none⟩) ((inner x).drop 44) by have := rd_drop hoc.rd 44; rwa [Nat.zero_add] at this)
      have HBW := hid HI.out.2
      have HCC := hid (show 4 ≤ cap - 44 by omega)
      clear hown hcm HI HO hoc hil hcl
      have OT := hid (show OwnCur wr w.heap.size ag (bodyOf x) from OC.out.take (by rw [inner_len x HX.out]; decide))
      clear OC
      go_wp2_with fail
      refine (hlast _ _ _ HCC.out RL.out).mono ?_
      clear hlast
      rintro e w5 ⟨rfl, hb5⟩
      have OT5 := hid (OT.out.below hb5)
      have BW5 := hid (below_chain HBW.out hb5)
      clear hb5 RL HBW OT
      go_wp2_with fail
      refine (hsum _ _ OT5.out.rd).mono ?_
      clear hsum
      rintro e w6 ⟨rfl, hb6⟩
      have OT6 := hid (OT5.out.below hb6)
      have BW6 := hid (below_chain BW5.out hb6)
      clear hb6 OT5 BW5
      by_cases he : ln = (sn : Int)
      · subst he
        go_wp2_with fail
        go_ret3
        exact ⟨BW6.out, ag, rfl, OT6.out⟩
      · have he' : (ln == (sn : Int)) = false := by simpa using he
        have HE := hid he
        clear he
        go_wp2_with fail
        go_ret3
        exact ⟨BW6.out, .inl ⟨HE.out, rfl⟩⟩
theorem SGet_any (x : Blk) (hx : x.length = 64) (w : World) : Calls Tryz.prog 197 #[bv x] w fun e w' => GetRet x w e w' := by
  have hf := formed_greatest x
  by_cases h0 : greatest x = 0
  · have hfm : formed x = false := by rw [hf, h0]; rfl
    exact (Get_zero x hx h0 w).mono fun e w' ⟨he, hb⟩ => ⟨hb, .inl ⟨by rw [getE_bad hfm]; decide, by rw [getE_bad hfm]; exact he⟩⟩
  rcases hi : isOfB x (greatest x) with _ | _
  · have hfm : formed x = false := by rw [hf, hi, Bool.and_false]
    exact (Get_form x hx h0 hi w).mono fun e w' ⟨he, hb⟩ => ⟨hb, .inl ⟨by rw [getE_bad hfm]; decide, by rw [getE_bad hfm]; exact he⟩⟩
  · have hfm : formed x = true := by rw [hf, hi]; simpa using h0
    have hg := (formed_of hfm).1
    have hm := Get_main x hx h0 hi w
    rw [hg] at hm
    refine hm.mono fun e w' ⟨hb, h⟩ => ⟨hb, ?_⟩
    rw [getE_good hfm]
    rcases h with ⟨h1, he⟩ | ⟨h1, h2⟩
    · rw [if_neg h1]
      exact .inl ⟨by decide, he⟩
    · rw [if_pos h1]
      exact .inr ⟨rfl, h2⟩
end Go.Proofs.YtfgbpinfplllgaaGreatDoor
