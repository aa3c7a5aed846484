/- isOf, Greatest: what a block says of its number. -/
import Derived.Test.YtlhbipommhljiaaSeal1
namespace Go.Proofs.Ytlhbipommhljiaa
open Go.RowKit Go.Shelf
set_option linter.unusedVariables false

theorem rd_at' {w : World} {g f : Nat} {l : List UInt8} (h : At w g f (cellsOf l)) : Rd w (some ⟨g, f, none⟩) l :=
  .inr ⟨g, f, rfl, fun j hj => h j _ (by simp [cellsOf, List.getElem?_eq_getElem hj])⟩
theorem rd_part {w : World} {g : Nat} {t : TypeId} {l : List UInt8} (h : Cs w g t (cellsOf l).toArray) (f n : Nat) : Rd w (some ⟨g, f, none⟩) ((l.drop f).take n) := rd_at' (At.part h f n)
theorem part4_len (x : Blk) (h : x.length = 64) (q : Nat) (hq : q < 4) : ((x.drop (16 * q)).take 4).length = 4 := by simp; omega
/-- what a round knows: the block's variable -/
def BlkI (w : World) (g : Nat) (x : Blk) (wr : World) : Prop := Cs wr g 25 (cellsOf x).toArray ∧ Below w.heap.size w wr
theorem BlkI.below {w wr w' : World} {g : Nat} {x : Blk} (h : BlkI w g x wr) (hb : Below wr.heap.size wr w') : BlkI w g x w' := ⟨h.1.below hb h.1.lt, below_chain h.2 hb⟩
/-- the number of a quarter, by cut and numberOf -/
theorem tag_any (g q : Nat) (x : Blk) (hx : x.length = 64) (hq : q < 4) (w w0 : World) (hI : BlkI w0 g x w) : Calls Try.prog 27 #[.slice (some ⟨g, 16 * q, none⟩) 4 4] w fun e w' =>
    e = .returned (.int .u32 (tag x q)) ∧ BlkI w0 g x w' :=
  (numberOf_any _ (part4_len x hx q hq) (some ⟨g, 16 * q, none⟩) 4 (Nat.le_refl _) w (rd_part hI.1 (16 * q) 4)).mono fun e w' ⟨he, hb⟩ => ⟨he, hI.below hb⟩
theorem cutI_any (g q : Nat) (x : Blk) (hq : q < 4) (w w0 : World) (hI : BlkI w0 g x w) : Calls Try.prog 23 #[.pointer (some ⟨g, 0, none⟩), .int .i64 (q : Int)] w fun e w' =>
    e = .returned (.tuple #[.slice (some ⟨g, 16 * q, none⟩) 4 4, .slice (some ⟨g, 16 * q + 4, none⟩) 12 12]) ∧ BlkI w0 g x w' :=
  (cut_any g q hq w).mono fun e w' ⟨he, hb⟩ => ⟨he, hI.below hb⟩
def gTo (x : Blk) : Nat → Int
  | 0 => 0
  | k + 1 => max (gTo x k) (tag x k)
theorem gTo_succ (x : Blk) (k : Nat) : gTo x (k + 1) = max (gTo x k) (tag x k) := rfl
theorem gTo_4 (x : Blk) : gTo x 4 = greatest x := by
  have h0 := tag_bd x 0
  unfold greatest
  simp only [gTo]
  rw [Int.max_def (0 : Int), if_pos h0.1]
theorem gTo_bd (x : Blk) : ∀ k, 0 ≤ gTo x k ∧ gTo x k < 4294967296
  | 0 => by simp [gTo]
  | k + 1 => by
    have ih := gTo_bd x k
    have h := tag_bd x k
    rw [gTo_succ, Int.max_def]
    split <;> omega

set_option maxHeartbeats 1000000 in
theorem Greatest_any (x : Blk) (hx : x.length = 64) (w : World) : Calls Try.prog 14 #[bv x] w fun e w' => e = .returned (.int .u32 (greatest x)) ∧ Below w.heap.size w w' := by
  rw [← gTo_4]
  have HX := Lib.hid hx
  clear hx
  go_enter Try.func14, Try.ntmps14
  go_wp2_with (first | (refine wpList_box_blk rfl (.tmp 0) rfl x rfl ?_; intro g w1 hk hb hg; go_frame; have K1 := Lib.hid hk; have B1 := Lib.hid hb; clear hk hb hg))
  go_loopw [3, 7] (fun m c wr => ∃ k : Nat, k ≤ 4 ∧ c = .int .i64 k ∧ m = .int .u32 (gTo x k) ∧ BlkI w g x wr) (fun _ c _ => 4 - (intOf c).toNat)
  case atStart => exact ⟨0, by decide, rfl, rfl, K1.out, B1.out⟩
  case round =>
    obtain ⟨k, hk, rfl, rfl, hI⟩ := hrel
    have HI := Lib.hid hI
    clear hI K1 B1
    by_cases hlt : k < 4
    · have hlt' : (k : Int) < 4 := by omega
      have hbd := tag_bd x k
      have hs := Lib.hid (gTo_succ x k)
      have hc := cutI_any g k x hlt _ _ HI.out
      have ht := fun W h => tag_any g k x HX.out hlt W w h
      have hmx := Lib.hid (Int.max_def (gTo x k) (tag x k))
      have hL := Lib.hid hlt
      generalize tag x k = t at *
      generalize 16 * k = f at *
      generalize gTo x k = m at *
      clear hlt
      go_wp2_with fail
      refine hc.mono ?_
      clear hc
      rintro e w2 ⟨rfl, hI2⟩
      go_wp2_with fail
      refine (ht _ hI2).mono ?_
      clear ht hI2
      rintro e w3 ⟨rfl, hI3⟩
      have HI3 := Lib.hid hI3
      clear hI3
      go_wp2_with fail
      go_roundw
      case rel => exact ⟨k + 1, by have := hL.out; omega, rfl, by rw [hs.out, hmx.out], HI3.out⟩
      case measure => simp [intOf]; omega
    · obtain rfl : k = 4 := by omega
      rw [show ((4 : Nat) : Int) = 4 from rfl]
      go_wp2
      go_ret
      exact ⟨rfl, HI.out.2⟩
theorem isOf_all (x : Blk) (n : Int) (h : ∀ q, q < 4 → tag x q = n) : isOfB x n = true := by
  simp [isOfB, h 0 (by decide), h 1 (by decide), h 2 (by decide), h 3 (by decide)]
theorem isOf_not (x : Blk) (n : Int) (q : Nat) (hq : q < 4) (h : tag x q ≠ n) : isOfB x n = false := by
  rcases hb : isOfB x n with _ | _
  · rfl
  · simp only [isOfB, Bool.and_eq_true, beq_iff_eq] at hb
    rcases (show q = 0 ∨ q = 1 ∨ q = 2 ∨ q = 3 by omega) with rfl | rfl | rfl | rfl <;> simp_all
set_option maxHeartbeats 1000000 in
theorem isOf_any (x : Blk) (hx : x.length = 64) (n : Int) (w : World) : Calls Try.prog 26 #[bv x, .int .u32 n] w fun e w' => e = .returned (.bool (isOfB x n)) ∧ Below w.heap.size w w' := by
  have HX := Lib.hid hx
  clear hx
  go_enter Try.func26, Try.ntmps26
  go_wp2_with (first | (refine wpList_box_blk rfl (.tmp 0) rfl x rfl ?_; intro g w1 hk hb hg; go_frame; have K1 := Lib.hid hk; have B1 := Lib.hid hb; clear hk hb hg))
  go_loopw [8] (fun c wr => ∃ k : Nat, k ≤ 4 ∧ c = .int .i64 k ∧ Hid (∀ q, q < k → tag x q = n) ∧ BlkI w g x wr) (fun c _ => 4 - (intOf c).toNat)
  case atStart => exact ⟨0, by decide, rfl, Lib.hid (fun q h => by omega), K1.out, B1.out⟩
  case round =>
    obtain ⟨k, hk, rfl, HQ, hI⟩ := hrel
    have HI := Lib.hid hI
    clear hI K1 B1
    by_cases hlt : k < 4
    · have hlt' : (k : Int) < 4 := by omega
      have hc := cutI_any g k x hlt _ _ HI.out
      have ht := fun W h => tag_any g k x HX.out hlt W w h
      have hL := Lib.hid hlt
      have hE := Lib.hid (rfl : tag x k = tag x k)
      have hF := Lib.hid (isOf_not x n k hlt)
      have hS : Hid (tag x k = n → ∀ q, q < k + 1 → tag x q = n) := Lib.hid fun h q hq => by
        rcases Nat.lt_or_ge q k with h1 | h1
        · exact HQ.out q h1
        · rw [show q = k by omega]; exact h
      generalize tag x k = t at *
      generalize 16 * k = f at *
      clear hlt hE
      go_wp2_with fail
      refine hc.mono ?_
      clear hc
      rintro e w2 ⟨rfl, hI2⟩
      go_wp2_with fail
      refine (ht _ hI2).mono ?_
      clear ht hI2
      rintro e w3 ⟨rfl, hI3⟩
      have HI3 := Lib.hid hI3
      clear hI3
      by_cases he : t = n
      · subst he
        go_wp2_with fail
        go_roundw
        case rel => exact ⟨k + 1, by have := hL.out; omega, rfl, Lib.hid (hS.out (by trivial)), HI3.out⟩
        case measure => simp [intOf]; omega
      · have he' : (t == n) = false := by simpa using he
        have HF := Lib.hid (hF.out he)
        clear he
        go_wp2_with fail
        go_ret
        exact ⟨congrArg (fun b => Ending.returned (.bool b)) HF.out.symm, HI3.out.2⟩
    · obtain rfl : k = 4 := by omega
      rw [show ((4 : Nat) : Int) = 4 from rfl]
      go_wp2
      go_ret
      exact ⟨congrArg (fun b => Ending.returned (.bool b)) (isOf_all x n HQ.out).symm, HI.out.2⟩

end Go.Proofs.Ytlhbipommhljiaa
