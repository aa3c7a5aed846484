/- SWEPT -/
import Derived.Lib.AppendStr
import Derived.Sort.Walk0
import Derived.Test.YtfgbpinfplllgaaGreatDoorZNPutRef
import Derived.Test.YtfgbpinfplllgaaGreatDoorZTblK
import Derived.Test.YtfgbpinfplllgaaGreatDoorZWordsK
set_option linter.unusedVariables false
set_option linter.unusedSimpArgs false
open List (getElem_toArray getElem_cons_succ getElem_cons_zero setIfInBounds_toArray set_cons_succ set_cons_zero)
open Go.Lib (hid)
namespace Go.Proofs.YtfgbpinfplllgaaGreatDoor
open Go.RowKit Go.Shelf
set_option maxRecDepth 100000
theorem less_bytes (a b : Key) : Op.bytesLess a b = lessK a b := bytesLess_eq a b
theorem fitB_any (last k v : List UInt8) (A : Option Addr) (c : Nat) (w : World) (hk : k.length ≤ 9223372036854775807) (hv : v.length ≤ 9223372036854775807) :
    Calls Tryz.prog 98 #[.string ⟨last.toArray⟩, .string ⟨k.toArray⟩, .slice A v.length c] w fun e w' => e = .returned (.bool (fitsK last k v)) ∧ w = w' := by
  unfold fitsK
  have h1 : (k.length : Int) ≤ 9223372036854775807 := by omega
  have h2 : (v.length : Int) ≤ 9223372036854775807 := by omega
  have hlb := less_bytes
  by_cases e1 : k = []
  · have f1 : (k == []) = true := by simpa using e1
    go_enter Tryz.func98, Tryz.ntmps98
    go_wp2
    go_ret
    exact ⟨by first | rfl | (rw [f1]; rfl), rfl⟩
  · have f1 : (k == []) = false := by simpa using e1
    by_cases e2 : k.length ≤ 16
    · have f2 : (k.length : Int) ≤ 16 := by omega
      have f2' : decide (k.length ≤ 16) = true := by simpa using e2
      cases e3 : lessK last k
      · have f3 : (!(lessK k last || k == last)) = false := by
          cases h4 : lessK k last
          · rw [lessK_total h4 e3]; simp
          · simp
        go_enter Tryz.func98, Tryz.ntmps98
        go_wp2
        go_ret
        exact ⟨by first | rfl | (rw [f1, f2']; rfl), rfl⟩
      · have f3 : (!(lessK k last || k == last)) = true := by
          rw [lessK_asymm e3]
          simpa using (lessK_ne e3).symm
        by_cases e4 : v.length ≤ 8192
        · have f4 : (v.length : Int) ≤ 8192 := by omega
          go_enter Tryz.func98, Tryz.ntmps98
          go_wp2
          go_ret
          exact ⟨by first | rfl | (rw [f1, f2']; simp [e4]), rfl⟩
        · have f4 : ¬ (v.length : Int) ≤ 8192 := by omega
          go_enter Tryz.func98, Tryz.ntmps98
          go_wp2
          go_ret
          exact ⟨by first | rfl | (rw [f1, f2']; simp [e4]), rfl⟩
    · have f2 : ¬ (k.length : Int) ≤ 16 := by omega
      have f2' : decide (k.length ≤ 16) = false := by simpa using e2
      go_enter Tryz.func98, Tryz.ntmps98
      go_wp2
      go_ret
      exact ⟨by first | rfl | (rw [f1, f2']; rfl), rfl⟩
def MayI (t : List Rw) (k : Nat) : Prop := k ≤ t.length ∧ mayP (t.take k) = true
def endR : Key → List Rw → Key
  | last, [] => last
  | _, x :: r => endR x.1 r
def endC : Key → List Ch → Key
  | last, [] => last
  | _, x :: r => endC x.1 r
theorem endR_snoc : ∀ (t : List Rw) (last : Key) (x : Rw), endR last (t ++ [x]) = x.1
  | [], _, _ => rfl
  | y :: t, last, x => endR_snoc t y.1 x
theorem endC_snoc : ∀ (t : List Ch) (last : Key) (x : Ch), endC last (t ++ [x]) = x.1
  | [], _, _ => rfl
  | y :: t, last, x => endC_snoc t y.1 x
theorem mayFrom_snoc : ∀ (t : List Rw) (last : Key) (x : Rw), mayFrom last (t ++ [x]) = (mayFrom last t && fitsK (endR last t) x.1 x.2)
  | [], last, x => by simp [mayFrom, endR]
  | y :: t, last, x => by simp only [List.cons_append, mayFrom, mayFrom_snoc t y.1 x, Bool.and_assoc, endR]
theorem mayCFrom_snoc : ∀ (t : List Ch) (last : Key) (x : Ch), mayCFrom last (t ++ [x]) = (mayCFrom last t && okC (endC last t) x)
  | [], last, x => by simp [mayCFrom, endC]
  | y :: t, last, x => by simp only [List.cons_append, mayCFrom, mayCFrom_snoc t y.1 x, Bool.and_assoc, endC]
def aheadR (t : List Rw) (k : Nat) : Key := endR [] (t.take k)
def aheadC (t : List Ch) (k : Nat) : Key := endC [] (t.take k)
theorem aheadR_succ {t : List Rw} {k : Nat} (h : k < t.length) : aheadR t (k + 1) = t[k].1 := by
  unfold aheadR
  rw [List.take_succ_eq_append_getElem h, endR_snoc]
theorem aheadC_succ {t : List Ch} {k : Nat} (h : k < t.length) : aheadC t (k + 1) = t[k].1 := by
  unfold aheadC
  rw [List.take_succ_eq_append_getElem h, endC_snoc]
theorem aheadR_zero (t : List Rw) : aheadR t 0 = [] := rfl
theorem aheadC_zero (t : List Ch) : aheadC t 0 = [] := rfl
theorem may_take {t : List Rw} {k : Nat} (h : k < t.length) : mayP (t.take (k + 1)) = (mayP (t.take k) && fitsK (aheadR t k) t[k].1 t[k].2) := by
  unfold mayP
  rw [List.take_succ_eq_append_getElem h, mayFrom_snoc]
  rfl
theorem mayC_take {t : List Ch} {k : Nat} (h : k < t.length) : mayCP (t.take (k + 1)) = (mayCP (t.take k) && okC (aheadC t k) t[k]) := by
  unfold mayCP
  rw [List.take_succ_eq_append_getElem h, mayCFrom_snoc]
  rfl
theorem mayFrom_take : ∀ (t : List Rw) (last : Key) (k : Nat), mayFrom last t = true → mayFrom last (t.take k) = true
  | [], last, k, h => by simpa using h
  | x :: t, last, 0, h => rfl
  | x :: t, last, k + 1, h => by
    simp only [mayFrom, Bool.and_eq_true, List.take_succ_cons] at h ⊢
    exact ⟨h.1, mayFrom_take t x.1 k h.2⟩
theorem mayCFrom_take : ∀ (t : List Ch) (last : Key) (k : Nat), mayCFrom last t = true → mayCFrom last (t.take k) = true
  | [], last, k, h => by simpa using h
  | x :: t, last, 0, h => rfl
  | x :: t, last, k + 1, h => by
    simp only [mayCFrom, Bool.and_eq_true, List.take_succ_cons] at h ⊢
    exact ⟨h.1, mayCFrom_take t x.1 k h.2⟩
theorem may_no {t : List Rw} {k : Nat} (h : k < t.length) (hf : fitsK (aheadR t k) t[k].1 t[k].2 = false) : mayP t = false := by
  cases hm : mayP t
  · rfl
  · have := mayFrom_take t [] (k + 1) hm
    rw [show mayFrom [] (t.take (k + 1)) = mayP (t.take (k + 1)) from rfl, may_take h, hf, Bool.and_false] at this
    cases this
theorem mayC_no {t : List Ch} {k : Nat} (h : k < t.length) (hf : okC (aheadC t k) t[k] = false) : mayCP t = false := by
  cases hm : mayCP t
  · rfl
  · have := mayCFrom_take t [] (k + 1) hm
    rw [show mayCFrom [] (t.take (k + 1)) = mayCP (t.take (k + 1)) from rfl, mayC_take h, hf, Bool.and_false] at this
    cases this
def SmallR (t : List Rw) : Prop := t.length ≤ 140737488355328 ∧ ∀ x ∈ t, x.1.length ≤ 9223372036854775807
def SmallC (t : List Ch) : Prop := t.length ≤ 140737488355328 ∧ ∀ x ∈ t, x.1.length ≤ 9223372036854775807
set_option maxHeartbeats 2000000 in
theorem MayRef_any (t : List Rw) (A : Option Addr) (c : Nat) (F : Nat → Prop) (w : World) (hs : SmallR t) (hr : RdX rowE w F A t) :
    Calls Tryz.prog 82 #[.slice A t.length c] w fun e w' => e = .returned (.bool (mayP t)) ∧ Below w.heap.size w w' := by
  have hl := hs.1
  have hl' : (t.length : Int) ≤ 9223372036854775807 := by omega
  have HS := hid hs.2
  have HR := hid hr
  clear hs hr hl
  go_enter Tryz.func82, Tryz.ntmps82
  go_wp2_with fail
  go_loopw [3] (fun j wr => ∃ k : Nat, j = .int .i64 k ∧ MayI t k ∧ Below w.heap.size w wr) (fun j _ => t.length - (RowKit.intOf j).toNat)
  case atStart => exact ⟨0, rfl, ⟨Nat.zero_le _, by simp [mayP, mayFrom]⟩, Below.refl _ _⟩
  case round =>
    obtain ⟨k, rfl, hI, hB⟩ := hrel
    have hk0 := hI.1
    have HI := hid hI.2
    have HB := hid hB
    clear hI hB
    by_cases hk : k < t.length
    · obtain ⟨b, off, A1, c1, rfl, hc1, hd1, hr1, -, hx1, hx2⟩ := row_at (HR.out.below HB.out) k hk
      have hsz := HS.out _ (List.getElem_mem hk)
      have T1 := hid (may_take hk)
      have T2 := hid (fun h => may_no hk h)
      have hfit := fun u => fitB_any (aheadR t k) t[k].1 t[k].2 A1 c1 u hsz (by unfold maxLen at hx2; omega)
      have HF := hid hfit
      have hk' : (k : Int) < (t.length : Int) := by omega
      obtain ⟨t', hft⟩ : ∃ t', fitsK (aheadR t k) t[k].1 t[k].2 = t' := ⟨_, rfl⟩
      rw [hft] at T1 T2 HF
      cases k with
      | zero =>
        rw [aheadR_zero] at HF
        generalize t[0] = x at *
        obtain ⟨x1, x2⟩ := x
        dsimp only at *
        rw [Nat.zero_mul, Nat.add_zero] at hc1 hd1
        clear hft hr1
        cases t'
        · go_wp2_with fail
          go_quiet (exact Calls.quiet_of_same ((HF.out _).mono fun _ _ h => ⟨h.1, h.2.symm⟩))
          go_wp2_with fail
          go_ret
          exact ⟨by rw [T2.out (by first | trivial | rfl)]; first | done | rfl, below_drewN HB.out _⟩
        · go_wp2_with fail
          go_quiet (exact Calls.quiet_of_same ((HF.out _).mono fun _ _ h => ⟨h.1, h.2.symm⟩))
          go_wp2_with fail
          go_roundw
          case rel => exact ⟨1, by go_num, ⟨hk, by rw [T1.out, HI.out]; rfl⟩, below_drewN HB.out _⟩
          case measure => simp [RowKit.intOf]; omega
      | succ k =>
        have hk2 : k < t.length := by omega
        obtain ⟨b', off', A2, c2, e2, hc2, -⟩ := row_at (HR.out.below HB.out) k hk2
        cases e2
        rw [aheadR_succ hk2] at HF
        generalize t[k + 1] = x at *
        generalize t[k] = y at *
        obtain ⟨x1, x2⟩ := x
        obtain ⟨y1, y2⟩ := y
        dsimp only at *
        clear hft hr1
        cases t'
        · go_wp2_with fail
          go_quiet (exact Calls.quiet_of_same ((HF.out _).mono fun _ _ h => ⟨h.1, h.2.symm⟩))
          go_wp2_with fail
          go_ret
          exact ⟨by rw [T2.out (by first | trivial | rfl)]; first | done | rfl, below_drewN HB.out _⟩
        · go_wp2_with fail
          go_quiet (exact Calls.quiet_of_same ((HF.out _).mono fun _ _ h => ⟨h.1, h.2.symm⟩))
          go_wp2_with fail
          go_roundw
          case rel => exact ⟨k + 2, by go_num, ⟨hk, by rw [T1.out, HI.out]; rfl⟩, below_drewN HB.out _⟩
          case measure => simp [RowKit.intOf]; omega
    · have hv := hid (show mayP t = true by have := HI.out; rwa [List.take_of_length_le (by omega)] at this)
      go_wp2_with fail
      go_ret
      exact ⟨by rw [hv.out]; first | done | rfl, HB.out⟩
def MayCI (t : List Ch) (k : Nat) : Prop := k ≤ t.length ∧ mayCP (t.take k) = true
theorem len_pos (v : List UInt8) : decide (0 < (v.length : Int)) = !(v == []) := by
  cases v with
  | nil => rfl
  | cons x v => simp
set_option maxHeartbeats 4000000 in
theorem MayCRef_any (t : List Ch) (A : Option Addr) (c : Nat) (F : Nat → Prop) (w : World) (hs : SmallC t) (hr : RdX chgE w F A t) :
    Calls Tryz.prog 50 #[.slice A t.length c] w fun e w' => e = .returned (.bool (mayCP t)) ∧ Below w.heap.size w w' := by
  have hl := hs.1
  have hl' : (t.length : Int) ≤ 9223372036854775807 := by omega
  have HS := hid hs.2
  have HR := hid hr
  clear hs hr hl
  go_enter Tryz.func50, Tryz.ntmps50
  go_wp2_with fail
  go_loopw [3] (fun j wr => ∃ k : Nat, j = .int .i64 k ∧ MayCI t k ∧ Below w.heap.size w wr) (fun j _ => t.length - (RowKit.intOf j).toNat)
  case atStart => exact ⟨0, rfl, ⟨Nat.zero_le _, by simp [mayCP, mayCFrom]⟩, Below.refl _ _⟩
  case round =>
    obtain ⟨k, rfl, hI, hB⟩ := hrel
    have hk0 := hI.1
    have HI := hid hI.2
    have HB := hid hB
    clear hI hB
    by_cases hk : k < t.length
    · obtain ⟨b, off, A1, c1, rfl, hc1, hd1, hg1, hr1, -, hx1, hx2⟩ := chg_at (HR.out.below HB.out) k hk
      have hsz := HS.out _ (List.getElem_mem hk)
      have T1 := hid (mayC_take hk)
      have T2 := hid (fun h => mayC_no hk h)
      unfold okC at T1 T2
      have hv1 : t[k].2.1.length ≤ 9223372036854775807 := by unfold maxLen at hx2; omega
      have hfit := fun u => fitB_any (aheadC t k) t[k].1 t[k].2.1 A1 c1 u hsz hv1
      have HF := hid hfit
      have hk' : (k : Int) < (t.length : Int) := by omega
      obtain ⟨t', hft⟩ : ∃ t', fitsK (aheadC t k) t[k].1 t[k].2.1 = t' := ⟨_, rfl⟩
      obtain ⟨g', hg⟩ : ∃ g', t[k].2.2 = g' := ⟨_, rfl⟩
      obtain ⟨n', hn⟩ : ∃ n', (t[k].2.1 == []) = n' := ⟨_, rfl⟩
      have hpos : decide (0 < (t[k].2.1.length : Int)) = !n' := by rw [← hn, len_pos]
      rw [hft, hg, hn] at T1 T2
      rw [hft] at HF
      rw [hg] at hg1
      cases k with
      | zero =>
        rw [aheadC_zero] at HF
        generalize t[0] = x at *
        obtain ⟨x1, x2, x3⟩ := x
        dsimp only at *
        rw [Nat.zero_mul, Nat.add_zero] at hc1 hd1 hg1
        clear hft hg hn hr1 hfit
        cases t'
        · go_wp2_with fail
          go_quiet (exact Calls.quiet_of_same ((HF.out _).mono fun _ _ h => ⟨h.1, h.2.symm⟩))
          go_wp2_with fail
          go_ret
          exact ⟨by rw [T2.out (by first | trivial | rfl)]; first | done | rfl, below_drewN HB.out _⟩
        · cases g'
          · go_wp2_with fail
            go_quiet (exact Calls.quiet_of_same ((HF.out _).mono fun _ _ h => ⟨h.1, h.2.symm⟩))
            go_wp2_with fail
            go_roundw
            case rel => exact ⟨1, by go_num, ⟨hk, by rw [T1.out, HI.out]; rfl⟩, below_drewN HB.out _⟩
            case measure => simp [RowKit.intOf]; omega
          · cases n'
            · have hp1 : (0 : Int) < (x2.length : Int) := by simpa using hpos
              have hp2 : 0 < x2.length := by omega
              go_wp2_with fail
              go_quiet (exact Calls.quiet_of_same ((HF.out _).mono fun _ _ h => ⟨h.1, h.2.symm⟩))
              go_wp2_with fail
              go_ret
              exact ⟨by rw [T2.out (by first | trivial | rfl)]; first | done | rfl, below_drewN HB.out _⟩
            · have hp0 : ¬ (0 : Int) < (x2.length : Int) := by simpa using hpos
              have hp1 : (x2.length : Int) = 0 := by omega
              have hp2 : ¬ 0 < x2.length := by omega
              have hp3 : decide ((0 : Int) < (x2.length : Int)) = false := decide_eq_false hp0
              go_wp2_with fail
              go_quiet (exact Calls.quiet_of_same ((HF.out _).mono fun _ _ h => ⟨h.1, h.2.symm⟩))
              go_wp2_with fail
              go_roundw
              case rel => exact ⟨1, by go_num, ⟨hk, by rw [T1.out, HI.out]; rfl⟩, below_drewN HB.out _⟩
              case measure => simp [RowKit.intOf]; omega
      | succ k =>
        have hk2 : k < t.length := by omega
        obtain ⟨b', off', A2, c2, e2, hc2, -⟩ := chg_at (HR.out.below HB.out) k hk2
        cases e2
        rw [aheadC_succ hk2] at HF
        generalize t[k + 1] = x at *
        generalize t[k] = y at *
        obtain ⟨x1, x2, x3⟩ := x
        obtain ⟨y1, y2, y3⟩ := y
        dsimp only at *
        clear hft hg hn hr1 hfit
        cases t'
        · go_wp2_with fail
          go_quiet (exact Calls.quiet_of_same ((HF.out _).mono fun _ _ h => ⟨h.1, h.2.symm⟩))
          go_wp2_with fail
          go_ret
          exact ⟨by rw [T2.out (by first | trivial | rfl)]; first | done | rfl, below_drewN HB.out _⟩
        · cases g'
          · go_wp2_with fail
            go_quiet (exact Calls.quiet_of_same ((HF.out _).mono fun _ _ h => ⟨h.1, h.2.symm⟩))
            go_wp2_with fail
            go_roundw
            case rel => exact ⟨k + 2, by go_num, ⟨hk, by rw [T1.out, HI.out]; rfl⟩, below_drewN HB.out _⟩
            case measure => simp [RowKit.intOf]; omega
          · cases n'
            · have hp1 : (0 : Int) < (x2.length : Int) := by simpa using hpos
              have hp2 : 0 < x2.length := by omega
              go_wp2_with fail
              go_quiet (exact Calls.quiet_of_same ((HF.out _).mono fun _ _ h => ⟨h.1, h.2.symm⟩))
              go_wp2_with fail
              go_ret
              exact ⟨by rw [T2.out (by first | trivial | rfl)]; first | done | rfl, below_drewN HB.out _⟩
            · have hp0 : ¬ (0 : Int) < (x2.length : Int) := by simpa using hpos
              have hp1 : (x2.length : Int) = 0 := by omega
              have hp2 : ¬ 0 < x2.length := by omega
              have hp3 : decide ((0 : Int) < (x2.length : Int)) = false := decide_eq_false hp0
              go_wp2_with fail
              go_quiet (exact Calls.quiet_of_same ((HF.out _).mono fun _ _ h => ⟨h.1, h.2.symm⟩))
              go_wp2_with fail
              go_roundw
              case rel => exact ⟨k + 2, by go_num, ⟨hk, by rw [T1.out, HI.out]; rfl⟩, below_drewN HB.out _⟩
              case measure => simp [RowKit.intOf]; omega
    · have hv := hid (show mayCP t = true by have := HI.out; rwa [List.take_of_length_le (by omega)] at this)
      go_wp2_with fail
      go_ret
      exact ⟨by rw [hv.out]; first | done | rfl, HB.out⟩
end Go.Proofs.YtfgbpinfplllgaaGreatDoor
namespace Go.Proofs.YtfgbpinfplllgaaGreatDoor
open Go.RowKit Go.Shelf
set_option maxRecDepth 100000
theorem take_next {a b : Key} {n : Nat} (h : a.take n = b.take n) (h1 : n < a.length) (h2 : n < b.length) (e : a[n] = b[n]) : a.take (n + 1) = b.take (n + 1) := by
  rw [List.take_succ_eq_append_getElem h1, List.take_succ_eq_append_getElem h2, h, e]
theorem sv_lt {a : Key} {n : Nat} (h : n < a.length) : n < (⟨a.toArray⟩ : ByteArray).size := by rw [ba_size]; exact h
theorem sv_get {a : Key} {n : Nat} (h : n < a.length) : (⟨a.toArray⟩ : ByteArray)[n]'(sv_lt h) = a[n] := by
  show a.toArray[n]'(by simpa using h) = a[n]
  simp
theorem str_cells (s : ByteArray) : Lib.strCells s = cellsOf s.data.toList := rfl
theorem append_str {w : World} {ops : Array Oper} {rest : List Oper} {o : Oper} {a : Act} {Q : Exit → Act → World → Prop} (hgd : o.guard = none) (sl x : Operand)
    (ho : o.op = .call { callee := .builtin .append, args := #[sl, x], argTypes := #[60, 9] })
    (base : Nat) (v : Value) (n : Nat) (xs : List UInt8) (hs : a.eval sl = v) (hown : w.ownsRow base 5 1 v n (cellsOf xs))
    (s : ByteArray) (l : List UInt8) (hl : s.data.toList = l) (hx : a.eval x = .string s) (hb : n + l.length ≤ 140737488355328) (hbase : base ≤ w.heap.size)
    (h : ∀ v' w', w'.ownsRow base 5 1 v' (n + l.length) (cellsOf (xs ++ l)) → w.grownBy w' v.ownBlock → wpList Tryz.prog ops Q rest (a.put o.dst v') w') : wpList Tryz.prog ops Q (o :: rest) a w := by
  obtain ⟨i0, hi, hz0, hz1, hz2⟩ := info_parts Try_info5
  have hsz : s.size = l.length := by rw [← hl]; exact (Array.length_toList (xs := s.data)).symm
  refine Lib.wpList_append_own_string w hgd sl x 60 9 ho base 5 i0 Tryz.underlying60 Tryz.underlying9 hi hz0 hz1 hz2 v n (cellsOf xs) hs hown s hx (by simp only [maxLen]; omega) (by omega) hbase ?_
  intro v' w' h1 h2 _
  rw [hsz, str_cells, hl, ← cellsOf_append] at h1
  exact h v' w' h1 h2
theorem sv_drop (k : Key) (n : Nat) : ((⟨k.toArray⟩ : ByteArray).extract n k.length).data.toList = k.drop n := by
  simp [ByteArray.data_extract]
  exact List.take_of_length_le (by simp)
theorem ch_c0 {w : World} {g : Nat} {k v : List UInt8} {A : Option Addr} {c : Nat} {b : Bool} (h : Cs w g 73 #[.string ⟨k.toArray⟩, .slice A v.length c, .bool b]) : w.cell? ⟨g, 0, none⟩ = some (.string ⟨k.toArray⟩) := h.cell 0 rfl
theorem own_ne {w : World} {base n size g : Nat} {e t : TypeId} {v : Value} {xs : List Value} {cs : Array Value} (ho : w.ownsRow base e size v n xs) (hc : Cs w g t cs) (ht : t ≠ e) (he : v.ownBlock = some g) : False := by
  rcases ho.2 with ⟨rfl, _⟩ | ⟨g', cap', cur, rfl, _, hg', _⟩
  · cases he
  · cases he
    exact Cs.ne hc (show Cs w g' e cur from hg') ht rfl
theorem own_as {w : World} {B n : Nat} {v : Value} {xs l : List UInt8} (h : w.ownsRow B 5 1 v n (cellsOf xs)) (e : xs = l) (hn : n = l.length) : w.ownsRow B 5 1 v l.length (cellsOf l) := by
  subst e hn
  exact h
def chCells (x : Ch) (A : Option Addr) (c : Nat) : List Value := [.string ⟨x.1.toArray⟩, .slice A x.2.1.length c, .bool x.2.2]
theorem infoCh (x : Ch) (A : Option Addr) (c : Nat) : (Tryz.prog.info? 73).map (·.size) = some (chCells x A c).length := by kernel_rfl
end Go.Proofs.YtfgbpinfplllgaaGreatDoor
namespace Go.Proofs.YtfgbpinfplllgaaGreatDoor
open Go.RowKit Go.Shelf
set_option maxRecDepth 100000
theorem putFrom_snoc : ∀ (t : List Ch) (last : Key) (x : Ch), putFrom last (t ++ [x]) = putFrom last t ++ oneP (endC last t) x
  | [], last, x => by simp [putFrom, endC]
  | y :: t, last, x => by simp only [List.cons_append, putFrom, putFrom_snoc t y.1 x, List.append_assoc, endC]
theorem put_take {t : List Ch} {k : Nat} (h : k < t.length) : putFrom [] (t.take (k + 1)) = putFrom [] (t.take k) ++ oneP (aheadC t k) t[k] := by
  rw [List.take_succ_eq_append_getElem h, putFrom_snoc]
  rfl
theorem one_most {last : Key} {x : Ch} (h : okC last x = true) : (oneP last x).length ≤ 8300 := by
  obtain ⟨⟨h1, h2, h3, h4⟩, h5⟩ := okC_iff.1 h
  unfold oneP
  simp [beL_length]
  omega
theorem put_most : ∀ (t : List Ch) (last : Key), mayCFrom last t = true → (putFrom last t).length ≤ 8300 * t.length
  | [], last, _ => by simp [putFrom]
  | x :: t, last, h => by
    simp only [mayCFrom, Bool.and_eq_true] at h
    have h1 := one_most h.1
    have h2 := put_most t x.1 h.2
    simp only [putFrom, List.length_append, List.length_cons]
    omega
theorem chg_rd {w : World} {F : Nat → Prop} {A : Option Addr} {ls : List Ch} (h : RdX chgE w F A ls) (j : Nat) (hj : j < ls.length) : ∃ b off A' c, A = some ⟨b, off, none⟩ ∧ At w b (off + j * 3) (chCells ls[j] A' c) ∧ RdF w F A' ls[j].2.1 ∧ (A' = none → ls[j].2.1 = [] ∧ c = 0) ∧ ls[j].2.1.length ≤ c ∧ c ≤ maxLen := by
  obtain ⟨b, off, cs, e, ⟨v, rfl, A', c, rfl, h1⟩, hat⟩ := h.get j hj
  exact ⟨b, off, A', c, e, hat, h1⟩
theorem mayC_ok {t : List Ch} (h : mayCP t = true) {k : Nat} (hk : k < t.length) : okC (aheadC t k) t[k] = true := by
  cases e : okC (aheadC t k) t[k]
  · rw [mayC_no hk e] at h; cases h
  · rfl
theorem ahead_len {t : List Ch} (h : mayCP t = true) {k : Nat} (hk : k ≤ t.length) : (aheadC t k).length ≤ 16 := by
  cases k with
  | zero => simp [aheadC_zero]
  | succ k =>
    rw [aheadC_succ (by omega)]
    exact okC_len (mayC_ok h (k := k) (by omega))
end Go.Proofs.YtfgbpinfplllgaaGreatDoor
namespace Go.Proofs.YtfgbpinfplllgaaGreatDoor
open Go.RowKit Go.Shelf
set_option maxRecDepth 100000
theorem rd_off {w : World} {g o : Nat} {b : List UInt8} (h : Rd w (some ⟨g, o, none⟩) b) (n : Nat) : Rd w (some ⟨g, o + n, none⟩) (b.drop n) := by
  rcases h with h | ⟨g', o', e, hc⟩
  · left; rw [h]; simp
  · cases e
    refine .inr ⟨g, o + n, rfl, fun j hj => ?_⟩
    rw [List.length_drop] at hj
    have := hc (n + j) (by omega)
    rw [← Nat.add_assoc] at this
    rw [this, List.getElem_drop]
end Go.Proofs.YtfgbpinfplllgaaGreatDoor
namespace Go.Proofs.YtfgbpinfplllgaaGreatDoor
open Go.RowKit Go.Shelf
set_option maxRecDepth 100000
def chZero : List Value := [.string ⟨#[]⟩, .slice none 0 0, .bool false]
theorem zeroCh (w : World) : (zeroValue 73).run Tryz.prog w = .ok (.agg chZero.toArray) w := by kernel_rfl
theorem infoCh3 (a b c : Value) : (Tryz.prog.info? 73).map (·.size) = some [a, b, c].length := by kernel_rfl
theorem one3c {a b c : Value} (h1 : a.oneCell' = true) (h2 : b.oneCell' = true) (h3 : c.oneCell' = true) : ∀ v ∈ [a, b, c], v.oneCell' = true := by
  intro v hv
  simp at hv
  rcases hv with rfl | rfl | rfl <;> assumption
theorem ch_d0 {w : World} {g : Nat} {k : List UInt8} {v : Value} {b : Bool} (h : Cs w g 73 [.string ⟨k.toArray⟩, v, .bool b].toArray) : w.cell? ⟨g, 0, none⟩ = some (.string ⟨k.toArray⟩) := h.cell 0 rfl
theorem next_e1 {last : Key} {s : UInt8} {b : List UInt8} (h : last.length < s.toNat) : nextP last (s :: b) = .error 5 := by simp only [nextP]; rw [if_pos h]
theorem next_e2 {last : Key} {s : UInt8} (h : ¬ last.length < s.toNat) : nextP last [s] = .error 4 := by simp only [nextP]; rw [if_neg h]
theorem next_e3 {last : Key} {s m : UInt8} {b : List UInt8} (h : ¬ last.length < s.toNat) (h2 : b.length < m.toNat) : nextP last (s :: m :: b) = .error 4 := by simp only [nextP]; rw [if_neg h, if_pos h2]
theorem next_e4 {last : Key} {s m : UInt8} {b : List UInt8} (h : ¬ last.length < s.toNat) (h2 : ¬ b.length < m.toNat) (h3 : (b.drop m.toNat).length < 2) : nextP last (s :: m :: b) = .error 4 := by simp only [nextP]; rw [if_neg h, if_neg h2, if_pos h3]
theorem next_rest {last : Key} {s m x y : UInt8} {b r : List UInt8} (h : ¬ last.length < s.toNat) (h2 : ¬ b.length < m.toNat) (h3 : b.drop m.toNat = x :: y :: r) : nextP last (s :: m :: b) =
    if r.length < 256 * x.toNat + y.toNat - 1 then .error 4 else
    if !fitsK last (last.take s.toNat ++ b.take m.toNat) (r.take (256 * x.toNat + y.toNat - 1)) || decide (s.toNat < sharedP last (last.take s.toNat ++ b.take m.toNat)) then .error 5 else .ok ((last.take s.toNat ++ b.take m.toNat, r.take (256 * x.toNat + y.toNat - 1), decide (256 * x.toNat + y.toNat = 0)), r.drop (256 * x.toNat + y.toNat - 1)) := by
  simp only [nextP]
  rw [if_neg h, if_neg h2, if_neg (by rw [h3]; simp), h3]
  rfl
theorem sv_take (k : Key) (n : Nat) : (⟨k.toArray⟩ : ByteArray).extract 0 n = ⟨(k.take n).toArray⟩ := by
  apply ByteArray.ext
  simp [ByteArray.data_extract]
theorem sv_add (a b : Key) : (⟨a.toArray⟩ : ByteArray) ++ ⟨b.toArray⟩ = ⟨(a ++ b).toArray⟩ := by
  apply ByteArray.ext
  simp [ByteArray.data_append]
end Go.Proofs.YtfgbpinfplllgaaGreatDoor
namespace Go.Proofs.YtfgbpinfplllgaaGreatDoor
open Go.RowKit Go.Shelf
set_option maxRecDepth 100000
def glue (acc : List Ch) : Except Int (List Ch) → Except Int (List Ch)
  | .error e => .error e
  | .ok l => .ok (acc ++ l)
theorem glue_nil (x : Except Int (List Ch)) : glue [] x = x := by cases x <;> rfl
def GotI (b0 : List UInt8) (acc : List Ch) (last : Key) (b : List UInt8) : Prop := getC b0 = glue acc (getF (b.length + 1) last b) ∧ last.length ≤ 16
theorem GotI.start (b : List UInt8) : GotI b [] [] b := ⟨(glue_nil _).symm, by simp⟩
theorem GotI.over {b0 : List UInt8} {acc : List Ch} {last : Key} (h : GotI b0 acc last []) : getC b0 = .ok acc := by
  have := h.1
  simpa [getF, glue] using this
theorem GotI.err {b0 : List UInt8} {acc : List Ch} {last : Key} {s : UInt8} {b : List UInt8} {er : Int} (h : GotI b0 acc last (s :: b)) (hn : nextP last (s :: b) = .error er) : getC b0 = .error er := by
  have := h.1
  simpa [getF, glue, hn] using this
theorem GotI.next {b0 : List UInt8} {acc : List Ch} {last : Key} {s : UInt8} {b r : List UInt8} {c : Ch} (h : GotI b0 acc last (s :: b)) (hn : nextP last (s :: b) = .ok (c, r)) : GotI b0 (acc ++ [c]) c.1 r := by
  have h1 := h.1
  have hl := nextP_short hn
  refine ⟨?_, okC_len (next_back hn).1⟩
  rw [h1]
  have e1 : getF ((s :: b).length + 1) last (s :: b) = glue [c] (getF (r.length + 1) c.1 r) := by
    rw [show getF ((s :: b).length + 1) last (s :: b) = _ from by unfold getF; rfl, hn]
    simp only
    rw [getF_more (s :: b).length (r.length + 1) c.1 r hl (by omega)]
    cases getF (r.length + 1) c.1 r <;> rfl
  rw [e1]
  cases getF (r.length + 1) c.1 r <;> simp [glue]
theorem next_some {last : Key} {b : List UInt8} {er : Int} (h : nextP last b = .error er) : er = 4 ∨ er = 5 := by
  unfold nextP at h
  split at h
  · cases h; exact .inl rfl
  · split at h
    · cases h; exact .inr rfl
    · split at h
      · cases h; exact .inl rfl
      · split at h
        · cases h; exact .inl rfl
        · split at h
          · cases h; exact .inl rfl
          · dsimp only at h
            split at h
            · cases h; exact .inl rfl
            · split at h
              · cases h; exact .inr rfl
              · cases h
theorem rd_old {w : World} {A : Option Addr} {b : List UInt8} (h : Rd w A b) : b = [] ∨ ∃ g o, A = some ⟨g, o, none⟩ ∧ g < w.heap.size := by
  by_cases h0 : b = []
  · exact .inl h0
  rcases h with h | ⟨g, o, e, hc⟩
  · exact absurd h h0
  · exact .inr ⟨g, o, e, lt_of_cell (hc 0 (List.length_pos_iff.2 h0))⟩
end Go.Proofs.YtfgbpinfplllgaaGreatDoor
namespace Go.Proofs.YtfgbpinfplllgaaGreatDoor
open Go.RowKit Go.Shelf
set_option maxRecDepth 100000
def rwCells (x : Rw) (A : Option Addr) (c : Nat) : List Value := [.string ⟨x.1.toArray⟩, .slice A x.2.length c]
theorem infoRw (x : Rw) (A : Option Addr) (c : Nat) : (Tryz.prog.info? 78).map (·.size) = some (rwCells x A c).length := by kernel_rfl
theorem rwCells_one (x : Rw) (A : Option Addr) (c : Nat) : ∀ v ∈ rwCells x A c, v.oneCell' = true := by
  intro v hv
  simp [rwCells] at hv
  rcases hv with rfl | rfl <;> rfl
theorem wp_buildRow {w : World} {o : Oper} {a : Act} {Q : Exit → Act → World → Prop} {K : Act → World → Prop} (x : Operand) (ho : o.op = .buildSlice 64 1 #[(0, x)]) (r : Rw) (A : Option Addr) (c : Nat) (hx : a.eval x = .agg (rwCells r A c).toArray)
    (hK : ∀ g w', Cs w' g 78 (rwCells r A c).toArray → Below w.heap.size w w' → w.heap.size ≤ g → K (a.put o.dst (.slice (some ⟨g, 0, none⟩) 1 1)) w') : o.wp Tryz.prog a w K Q := by
  refine wp_of_run2 (v := .slice (some ⟨w.heap.size, 0, none⟩) 1 1) (w' := w.alloc (.cells (rwCells r A c).toArray 78)) ?_ (hK _ _ (Cs.new _ _ _) ((Below.refl _ _).alloc (Nat.le_refl _) _) (Nat.le_refl _))
  unfold execOp
  simp only [ho, hx, List.map_toArray, List.map_cons, List.map_nil, rwCells]
  go_simp
theorem kept_bsv (F : Nat → Prop) (v : Value) (l : List UInt8) : Kept (fun u => BsV u F v l) := fun u u' h hb => h.below hb
theorem kept_ownX {α : Type} {E : Elem α} (B : Nat) (F : Nat → Prop) (v : Value) (ls : List α) : Kept (fun u => OwnX E u B F v ls) := fun u u' h hb => h.below hb
theorem without_take {t : List Rw} {k : Nat} {key : Key} (h : k < t.length) : withoutP (t.take (k + 1)) key = if t[k].1 = key then withoutP (t.take k) key else withoutP (t.take k) key ++ [t[k]] := by
  unfold withoutP
  rw [List.take_succ_eq_append_getElem h, List.filter_append]
  by_cases e : t[k].1 = key
  · have : (!(t[k].1 == key)) = false := by simpa using e
    simp [e]
  · have : (t[k].1 == key) = false := by simpa using e
    simp [e, this]
theorem without_len (t : List Rw) (key : Key) : (withoutP t key).length ≤ t.length := List.length_filter_le _ _
def WithoutRet (t : List Rw) (key : Key) (w : World) (e : Ending) (w' : World) : Prop := ∃ v, e = .returned v ∧ OwnX rowE w' w.heap.size (w.heap.size ≤ ·) v (withoutP t key) ∧ Below w.heap.size w w'
set_option maxHeartbeats 8000000 in
theorem WithoutRef_any (t : List Rw) (key : Key) (A : Option Addr) (c : Nat) (F : Nat → Prop) (w : World) (hl : t.length ≤ 10000000) (hv : ∀ x ∈ t, x.2.length ≤ 10000000) (hr : RdX rowE w F A t) :
    Calls Tryz.prog 83 #[.slice A t.length c, .string ⟨key.toArray⟩] w fun e w' => WithoutRet t key w e w' := by
  have hmix : Tryz.prog.follows .mixedOrders = true := by kernel_rfl
  have hl' : (t.length : Int) ≤ 9223372036854775807 := by omega
  have HR := hid hr
  have HV := hid hv
  clear hr hv
  go_enter Tryz.func83, Tryz.ntmps83
  go_wp2_with fail
  go_loopw [5, 6] (fun v j wr => ∃ k : Nat, j = .int .i64 k ∧ k ≤ t.length ∧ OwnX rowE wr w.heap.size (w.heap.size ≤ ·) v (withoutP (t.take k) key) ∧ Below w.heap.size w wr) (fun _ j _ => t.length - (RowKit.intOf j).toNat)
  case atStart => exact ⟨0, rfl, Nat.zero_le _, OwnX.nil _ _ _, Below.refl _ _⟩
  case round =>
    obtain ⟨k, rfl, hk, ho, hb⟩ := hrel
    have HO := hid ho
    have HB := hid hb
    clear ho hb
    by_cases hlt : k < t.length
    · have hlt' : (k : Int) < (t.length : Int) := by omega
      obtain ⟨b, off, A1, c1, rfl, hc1, hd1, hr1, hn1, hx1, hx2⟩ := row_at HR.out k hlt
      have hval := HV.out _ (List.getElem_mem hlt)
      have HWT := hid (without_take (key := key) hlt)
      have hwl := without_len (t.take k) key
      rw [List.length_take] at hwl
      generalize t[k] = x at *
      obtain ⟨x1, x2⟩ := x
      dsimp only at *
      have q1 : wr.cell? ⟨b, off + k * 2, none⟩ = some (.string ⟨x1.toArray⟩) := (HB.out.cell (lt_of_cell hc1)).trans hc1
      have HC1 := hid hc1
      have HD1 := hid hd1
      by_cases hkey : x1 = key
      · have hke : (x1 == key) = true := by simpa using hkey
        have HN := hid (HWT.out.trans (if_pos hkey))
        clear hkey HWT hr1 hn1 hc1 hd1
        go_wp2_with fail
        go_roundw
        case rel => exact ⟨k + 1, by go_num, hlt, by rw [HN.out]; exact HO.out, HB.out⟩
        case measure => simp [intOf]; omega
      · have hke : (x1 == key) = false := by simpa using hkey
        have HN := hid (HWT.out.trans (if_neg hkey))
        have hcp := fun u (hu : Below w.heap.size w u) => Copy_any x2 A1 c1 u (by omega) (hr1.rd.below hu) hn1
        have HCP := hid hcp
        clear hkey HWT hr1 hn1 hcp hc1 hd1
        go_wp2_with fail
        refine wp_region_V [14] (fun y => Below w.heap.size w y ∧ OwnX rowE y w.heap.size (w.heap.size ≤ ·) u5 (withoutP (t.take k) key)) hmix (⟨HB.out.drew, HO.out.below (Below.refl _ _).drew⟩) ?_
        change wpAnyV _ _ _ _ _ _ _ _ _
        refine wpW (i := 0) (v := u5) (kept_and (kept_below w) (kept_ownX _ _ _ _)) rfl (DR fun w9 hS => by go_simp) ?_
        try simp only [getElem_toArray, getElem_cons_succ, getElem_cons_zero, Act.put, setIfInBounds_toArray, set_cons_succ, set_cons_zero]
        refine wpW (i := 1) (v := .slice (some ⟨b, off, none⟩) t.length c) (kept_and (kept_below w) (kept_ownX _ _ _ _)) rfl (DR fun w9 hS => by go_simp) ?_
        try simp only [getElem_toArray, getElem_cons_succ, getElem_cons_zero, Act.put, setIfInBounds_toArray, set_cons_succ, set_cons_zero]
        refine wpW (i := 2) (v := .int .i64 (k : Int)) (kept_and (kept_below w) (kept_ownX _ _ _ _)) rfl (DR fun w9 hS => by go_simp) ?_
        try simp only [getElem_toArray, getElem_cons_succ, getElem_cons_zero, Act.put, setIfInBounds_toArray, set_cons_succ, set_cons_zero]
        refine wpW (i := 3) (v := .pointer (some ⟨b, off + k * 2, none⟩)) (kept_and (kept_below w) (kept_ownX _ _ _ _)) rfl (DR fun w9 hS => by go_simp) ?_
        try simp only [getElem_toArray, getElem_cons_succ, getElem_cons_zero, Act.put, setIfInBounds_toArray, set_cons_succ, set_cons_zero]
        refine wpW (i := 4) (v := .pointer (some ⟨b, off + k * 2, none⟩)) (kept_and (kept_below w) (kept_ownX _ _ _ _)) rfl (DR fun w9 hS => by go_simp) ?_
        try simp only [getElem_toArray, getElem_cons_succ, getElem_cons_zero, Act.put, setIfInBounds_toArray, set_cons_succ, set_cons_zero]
        refine wpW (i := 5) (v := .string ⟨x1.toArray⟩) (kept_and (kept_below w) (kept_ownX _ _ _ _)) rfl (DR fun w9 hS => by have q9 := (hS.1.cell (lt_of_cell HC1.out)).trans HC1.out; go_simp) ?_
        try simp only [getElem_toArray, getElem_cons_succ, getElem_cons_zero, Act.put, setIfInBounds_toArray, set_cons_succ, set_cons_zero]
        refine wpW (i := 6) (v := .slice (some ⟨b, off, none⟩) t.length c) (kept_and (kept_below w) (kept_ownX _ _ _ _)) rfl (DR fun w9 hS => by go_simp) ?_
        try simp only [getElem_toArray, getElem_cons_succ, getElem_cons_zero, Act.put, setIfInBounds_toArray, set_cons_succ, set_cons_zero]
        refine wpW (i := 7) (v := .int .i64 (k : Int)) (kept_and (kept_below w) (kept_ownX _ _ _ _)) rfl (DR fun w9 hS => by go_simp) ?_
        try simp only [getElem_toArray, getElem_cons_succ, getElem_cons_zero, Act.put, setIfInBounds_toArray, set_cons_succ, set_cons_zero]
        refine wpW (i := 8) (v := .pointer (some ⟨b, off + k * 2, none⟩)) (kept_and (kept_below w) (kept_ownX _ _ _ _)) rfl (DR fun w9 hS => by go_simp) ?_
        try simp only [getElem_toArray, getElem_cons_succ, getElem_cons_zero, Act.put, setIfInBounds_toArray, set_cons_succ, set_cons_zero]
        refine wpW (i := 9) (v := .pointer (some ⟨b, off + k * 2 + 1, none⟩)) (kept_and (kept_below w) (kept_ownX _ _ _ _)) rfl (DR fun w9 hS => by go_simp) ?_
        try simp only [getElem_toArray, getElem_cons_succ, getElem_cons_zero, Act.put, setIfInBounds_toArray, set_cons_succ, set_cons_zero]
        refine wpW (i := 10) (v := .slice A1 x2.length c1) (kept_and (kept_below w) (kept_ownX _ _ _ _)) rfl (DR fun w9 hS => by have q9 := (hS.1.cell (lt_of_cell HD1.out)).trans HD1.out; go_simp) ?_
        try simp only [getElem_toArray, getElem_cons_succ, getElem_cons_zero, Act.put, setIfInBounds_toArray, set_cons_succ, set_cons_zero]
        refine wpAnyV_only (i := 11) rfl (by kernel_rfl) rfl (fun u hS => wp_of_call (by go_simp) (HCP.out u hS.1) fun e u' ⟨v1, he, ho1, hb1⟩ => ⟨v1, he, (fun y => (Below w.heap.size w y ∧ OwnX rowE y w.heap.size (w.heap.size ≤ ·) u5 (withoutP (t.take k) key)) ∧ BsV y (u.heap.size ≤ ·) v1 x2), ⟨⟨below_chain hS.1 hb1, hS.2.below hb1⟩, BsV.own ho1⟩, (kept_and (kept_and (kept_below w) (kept_ownX _ _ _ _)) (kept_bsv _ _ _)), fun _ y h => h.1, ?_⟩)
        try simp only [getElem_toArray, getElem_cons_succ, getElem_cons_zero, Act.put, setIfInBounds_toArray, set_cons_succ, set_cons_zero]
        have hbv := BsV.own ho1
        obtain ⟨A2, c2, hv2, -⟩ := id hbv
        subst hv2
        have hown := fun q e => (hS.2.lt q e).2
        have hwu := hS.1.size
        refine wpAnyV_pure (i := 12) (v := .agg #[.string ⟨x1.toArray⟩, .slice A2 x2.length c2]) (kept_and (kept_and (kept_below w) (kept_ownX _ _ _ _)) (kept_bsv _ _ _)) rfl (by kernel_rfl) (by kernel_rfl) (fun _ _ _ h => h) (DR fun w9 hS => by go_simp) ?_
        try simp only [getElem_toArray, getElem_cons_succ, getElem_cons_zero, Act.put, setIfInBounds_toArray, set_cons_succ, set_cons_zero]
        refine wpAnyV_only (i := 13) rfl (by kernel_rfl) rfl (fun y hy => wp_buildRow _ rfl (x1, x2) A2 c2 rfl fun g8 y' hk hb hg => ⟨(fun y => ((Below w.heap.size w y ∧ OwnX rowE y w.heap.size (w.heap.size ≤ ·) u5 (withoutP (t.take k) key)) ∧ BsV y (u.heap.size ≤ ·) (.slice A2 x2.length c2) x2) ∧ Cs y g8 78 (rwCells (x1, x2) A2 c2).toArray), ⟨⟨⟨below_chain hy.1.1 hb, hy.1.2.below hb⟩, hy.2.below hb⟩, hk⟩, kept_and (kept_and (kept_and (kept_below w) (kept_ownX _ _ _ _)) (kept_bsv _ _ _)) (kept_cs _ _ _), fun _ y h => h.1, ?_⟩)
        try simp only [getElem_toArray, getElem_cons_succ, getElem_cons_zero, Act.put, setIfInBounds_toArray, set_cons_succ, set_cons_zero]
        refine wpAnyV_only (i := 14) rfl (by kernel_rfl) rfl (fun y hy => wp_append_x1 (E := rowE) _ _ rfl w.heap.size (w.heap.size ≤ ·) u5 (withoutP (t.take k) key) rfl hy.1.1.2 g8 1 rfl (rwCells (x1, x2) A2 c2) (x1, x2) ⟨_, rfl, hy.1.2.mono fun q _ hq => ⟨Nat.le_trans hwu hq, fun e => absurd hq (Nat.not_le.2 (hown q e))⟩⟩ 78 hy.2 (by omega) hy.1.1.1.size hy.1.1.1.size fun v3 y' ho3 hg3 => ⟨(fun y => Below w.heap.size w y ∧ OwnX rowE y w.heap.size (w.heap.size ≤ ·) v3 (withoutP (t.take k) key ++ [(x1, x2)])), ⟨hy.1.1.1.grown hg3 hy.1.1.1.size (fun q e => (hy.1.1.2.lt q e).1), ho3⟩, kept_and (kept_below w) (kept_ownX _ _ _ _), fun h => absurd (by simp) h, ?_⟩)
        try simp only [getElem_toArray, getElem_cons_succ, getElem_cons_zero, Act.put, setIfInBounds_toArray, set_cons_succ, set_cons_zero]
        refine wpAnyV_pure (i := 15) (v := v3) (kept_and (kept_below w) (kept_ownX _ _ _ _)) rfl (by kernel_rfl) (by kernel_rfl) (fun _ _ _ h => h) (DR fun w9 hS => by go_simp) ?_
        try simp only [getElem_toArray, getElem_cons_succ, getElem_cons_zero, Act.put, setIfInBounds_toArray, set_cons_succ, set_cons_zero]
        refine wpAnyV_done (by kernel_rfl) (fun y1 hu => ?_) _
        have HU := hid hu
        clear hu
        go_wp2_with fail
        go_roundw
        case rel => exact ⟨k + 1, by go_num, hlt, by rw [HN.out]; exact HU.out.2, HU.out.1⟩
        case measure => simp [intOf]; omega
    · go_wp2_with fail
      go_ret
      have ho := HO.out
      rw [List.take_of_length_le (by omega)] at ho
      exact ⟨_, rfl, ho, HB.out⟩
end Go.Proofs.YtfgbpinfplllgaaGreatDoor
namespace Go.Proofs.YtfgbpinfplllgaaGreatDoor
open Go.RowKit Go.Shelf
set_option maxRecDepth 100000
section
variable {α : Type} {E : Elem α}
structure OwnO (E : Elem α) (w : World) (B : Nat) (F : Nat → Prop) (v : Value) (ls : List α) : Prop where
  row : ∃ xs, w.ownsRow B E.ety E.n v ls.length xs ∧ RowX E w F xs ls
  old : ∀ k, F k → k < B
theorem OwnO.nil (w : World) (B : Nat) (F : Nat → Prop) (hF : ∀ k, F k → k < B) : OwnO E w B F (.slice none 0 0) [] := ⟨⟨[], World.ownsRow_nil _ _ _ _, RowX.nil _ _⟩, hF⟩
theorem OwnO.lt {w : World} {B : Nat} {F : Nat → Prop} {v : Value} {ls : List α} (h : OwnO E w B F v ls) : ∀ k, v.ownBlock = some k → B ≤ k ∧ k < w.heap.size := by
  obtain ⟨⟨vs, h1, h2⟩, h3⟩ := h
  exact h1.lt
theorem OwnO.turn {w w' : World} {B : Nat} {F G : Nat → Prop} {v : Value} {ls : List α} (h : OwnO E w B F v ls) (ht : Turn w w' G) (h1 : ∀ k, F k → ¬ G k) (h2 : ∀ k, v.ownBlock = some k → ¬ G k) : OwnO E w' B F v ls := by
  obtain ⟨⟨vs, hr, hx⟩, h3⟩ := h
  exact ⟨⟨vs, ownsRow_turn' hr ht h2, hx.turn ht h1⟩, h3⟩
theorem OwnO.below {w w' : World} {B : Nat} {F : Nat → Prop} {v : Value} {ls : List α} (h : OwnO E w B F v ls) (hb : Below w.heap.size w w') : OwnO E w' B F v ls := h.turn (Turn.of_below hb fun _ => False) (fun _ _ h => h) fun _ _ h => h
theorem OwnO.x {w : World} {B : Nat} {F : Nat → Prop} {v : Value} {ls : List α} (h : OwnO E w B F v ls) : OwnX E w B (fun q => F q ∨ B ≤ q) v ls := by
  obtain ⟨⟨vs, hr, hx⟩, h3⟩ := id h
  exact ⟨⟨vs, hr, hx.mono fun k _ hk => ⟨.inl hk, fun e => by have := (h.lt k e).1; have := h3 k hk; omega⟩⟩, fun k hk => .inr (h.lt k hk).1⟩
theorem run_append_o {w : World} (ty : TypeId) (B : Nat) (F : Nat → Prop) (v : Value) (ls : List α) (hown : OwnO E w B F v ls) (b off m c : Nat) (ys : List Value) (ms : List α) (hm : m = ms.length) (hy : RowX E w F ys ms)
    (hc : ∀ j u, ys[j]? = some u → w.cell? ⟨b, off + j, none⟩ = some u) (hb : ls.length + m ≤ 1099511627776) (hbase : B ≤ w.heap.size) :
    ∃ v' w', (Builtin.append_ #[E.sty, E.sty] ty #[v, .slice (some ⟨b, off, none⟩) m c]).run Tryz.prog w = .ok v' w' ∧ OwnO E w' B F v' (ls ++ ms) ∧ w.grownBy w' v.ownBlock ∧ (v'.ownBlock = v.ownBlock ∨ v'.ownBlock = some w.heap.size) := by
  obtain ⟨i0, z, hi, hz0, hz1, hz2, hz3⟩ := E.info
  obtain ⟨⟨vs, h1, h2⟩, h3⟩ := id hown
  have hby := E.byt
  obtain ⟨v', w', hrun, r1, r2, r3, r4⟩ := run_append_own_at (P := Tryz.prog) w B E.sty ty E.ety i0 z E.n E.bytes E.und hi hz0 hz1 hz2 hz3 E.pos v ls.length vs h1 ⟨b, off, none⟩ m c ys (by rw [hy.1, hm])
    (fun j u hu => by
      have e1 : (⟨b, off, none⟩ : Addr).add j = ⟨b, off + j, none⟩ := by
        unfold Addr.add
        split <;> simp_all
      rw [e1]
      exact hc j u hu) hy.one (by simp only [maxLen]; omega) (Nat.le_trans (Nat.mul_le_mul hb hby) (by decide)) hbase
  exact ⟨v', w', hrun, ⟨⟨vs ++ ys, by rw [List.length_append, ← hm]; exact r1, (h2.append hy).turn (Turn.of_grown r2) fun k hk e => by have := (hown.lt k e).1; have := h3 k hk; omega⟩, h3⟩, r2, r4⟩
variable {w : World} {ops : Array Oper} {rest : List Oper} {o : Oper} {a : Act} {Q : Exit → Act → World → Prop} {K : Act → World → Prop}
theorem wpList_append_o1 (hgd : o.guard = none) (s x : Operand) (ho : o.op = .call { callee := .builtin .append, args := #[s, x], argTypes := #[E.sty, E.sty] }) (B : Nat) (F : Nat → Prop) (v : Value) (ls : List α) (hs : a.eval s = v) (hown : OwnO E w B F v ls)
    (g c : Nat) (hx : a.eval x = .slice (some ⟨g, 0, none⟩) 1 c) (cs : List Value) (y : α) (hy : E.rd w F cs y) (t : TypeId) (hg : Cs w g t cs.toArray) (hb : ls.length + 1 ≤ 1099511627776) (hbase : B ≤ w.heap.size)
    (h : ∀ v' w', OwnO E w' B F v' (ls ++ [y]) → w.grownBy w' v.ownBlock → (v'.ownBlock = v.ownBlock ∨ v'.ownBlock = some w.heap.size) → wpList Tryz.prog ops Q rest (a.put o.dst v') w') : wpList Tryz.prog ops Q (o :: rest) a w := by
  refine wpList_plain hgd fun K hK => ?_
  obtain ⟨v', w', hr, h2, h3, h4⟩ := run_append_o (E := E) o.type B F v ls hown g 0 1 c cs [y] rfl (RowX.single hy) (fun j u hu => by rw [Nat.zero_add]; exact hg.cell j (by simpa using hu)) hb hbase
  unfold Oper.wp execOp
  simp only [ho, resolve, invoke, builtin, Sem.run_bind, Sem.run_pure, Result.andThen_ok, List.map_toArray, List.map_cons, List.map_nil, hs, hx, hr]
  exact hK _ _ (h v' w' h2 h3 h4)
theorem wpList_append_o (hgd : o.guard = none) (s x : Operand) (ho : o.op = .call { callee := .builtin .append, args := #[s, x], argTypes := #[E.sty, E.sty] }) (B : Nat) (F : Nat → Prop) (v u : Value) (ls ms : List α) (hs : a.eval s = v) (hown : OwnO E w B F v ls) (hx : a.eval x = u) (hu : OwnO E w B F u ms) (hb : ls.length + ms.length ≤ 1099511627776) (hbase : B ≤ w.heap.size)
    (h : ∀ v' w', OwnO E w' B F v' (ls ++ ms) → w.grownBy w' v.ownBlock → wpList Tryz.prog ops Q rest (a.put o.dst v') w') : wpList Tryz.prog ops Q (o :: rest) a w := by
  obtain ⟨⟨ys, h1, h2⟩, _⟩ := id hu
  rcases h1.2 with ⟨rfl, h0⟩ | ⟨g, cap, cur, rfl, hg, hh, hl, hm, hsz, htk⟩
  · have : ms = [] := List.eq_nil_of_length_eq_zero h0
    subst this
    obtain ⟨i0, z, hi, hz0, hz1, hz2, hz3⟩ := E.info
    obtain ⟨⟨vs, k1, k2⟩, k3⟩ := id hown
    refine wpList_append_own_none hgd s x E.sty ho B E.ety i0 E.n E.und hi v ls.length vs hs k1 hx ?_
    refine h v w ?_ (World.grownBy.refl w _)
    rw [List.append_nil]
    exact hown
  · refine wpList_plain hgd fun K hK => ?_
    obtain ⟨v', w', hr, h2, h3, h4⟩ := run_append_o (E := E) o.type B F v ls hown g 0 ms.length cap ys ms rfl h2 (fun j q hq => by
      have := h1.cells (g := g) rfl j q hq
      have e1 : (⟨g, 0, none⟩ : Addr).add j = ⟨g, 0 + j, none⟩ := by
        unfold Addr.add
        split <;> simp_all
      rwa [e1] at this) hb hbase
    unfold Oper.wp execOp
    simp only [ho, resolve, invoke, builtin, Sem.run_bind, Sem.run_pure, Result.andThen_ok, List.map_toArray, List.map_cons, List.map_nil, hs, hx, hr]
    exact hK _ _ (h v' w' h2 h3)
end
def aheadP (t : List Rw) (k : Key) : List Rw := t.filter fun y => lessK y.1 k
def behindP (t : List Rw) (k : Key) : List Rw := t.filter fun y => !lessK y.1 k
theorem withP_parts (t : List Rw) (x : Rw) : withP t x = aheadP t x.1 ++ [x] ++ behindP t x.1 := by simp [withP, aheadP, behindP]
theorem parts_take {t : List Rw} {k : Nat} {key : Key} (h : k < t.length) : aheadP (t.take (k + 1)) key = (if lessK t[k].1 key then aheadP (t.take k) key ++ [t[k]] else aheadP (t.take k) key) ∧ behindP (t.take (k + 1)) key = if lessK t[k].1 key then behindP (t.take k) key else behindP (t.take k) key ++ [t[k]] := by
  unfold aheadP behindP
  rw [List.take_succ_eq_append_getElem h, List.filter_append, List.filter_append]
  cases e : lessK t[k].1 key <;> simp [e]
theorem ab_len (t : List Rw) (key : Key) : (aheadP t key).length ≤ t.length ∧ (behindP t key).length ≤ t.length := ⟨List.length_filter_le _ _, List.length_filter_le _ _⟩
theorem row_rd {w : World} {F : Nat → Prop} {A : Option Addr} {ls : List Rw} (h : RdX rowE w F A ls) (j : Nat) (hj : j < ls.length) : ∃ b off A' c, A = some ⟨b, off, none⟩ ∧ At w b (off + j * 2) (rwCells ls[j] A' c) ∧ BsV w F (.slice A' ls[j].2.length c) ls[j].2 := by
  obtain ⟨b, off, cs, e, ⟨v, rfl, A', c, rfl, h1⟩, hat⟩ := h.get j hj
  exact ⟨b, off, A', c, e, hat, A', c, rfl, h1⟩
theorem rw_c0 {w : World} {g : Nat} {x : Rw} {A : Option Addr} {c : Nat} (h : Cs w g 78 (rwCells x A c).toArray) : w.cell? ⟨g, 0, none⟩ = some (.string ⟨x.1.toArray⟩) := h.cell 0 rfl
def WithRet (t : List Rw) (x : Rw) (F : Nat → Prop) (w : World) (e : Ending) (w' : World) : Prop := ∃ v, e = .returned v ∧ OwnX rowE w' w.heap.size (fun q => F q ∨ w.heap.size ≤ q) v (withP t x) ∧ Below w.heap.size w w'
theorem wpList_buildRow {w : World} {ops : Array Oper} {rest : List Oper} {o : Oper} {a : Act} {Q : Exit → Act → World → Prop} (hgd : o.guard = none) (x : Operand) (ho : o.op = .buildSlice 64 1 #[(0, x)]) (r : Rw) (A : Option Addr) (c : Nat) (hx : a.eval x = .agg (rwCells r A c).toArray)
    (hK : ∀ g w', Cs w' g 78 (rwCells r A c).toArray → Below w.heap.size w w' → w.heap.size ≤ g → wpList Tryz.prog ops Q rest (a.put o.dst (.slice (some ⟨g, 0, none⟩) 1 1)) w') : wpList Tryz.prog ops Q (o :: rest) a w :=
  wpList_plain hgd fun _ hh => wp_buildRow x ho r A c hx fun g w' h1 h2 h3 => hh _ _ (hK g w' h1 h2 h3)
set_option maxHeartbeats 8000000 in
theorem WithRef_any (t : List Rw) (x : Rw) (A A' : Option Addr) (c c' : Nat) (F : Nat → Prop) (w : World) (hl : t.length ≤ 10000000) (hF : ∀ k, F k → k < w.heap.size) (hr : RdX rowE w F A t) (hx : BsV w F (.slice A' x.2.length c') x.2) :
    Calls Tryz.prog 84 #[.slice A t.length c, .agg (rwCells x A' c').toArray] w fun e w' => WithRet t x F w e w' := by
  have hl' : (t.length : Int) ≤ 9223372036854775807 := by omega
  have HR := hid hr
  have HX := hid hx
  have HF := hid hF
  have hlb := less_bytes
  clear hr hx hF
  go_enter Tryz.func84, Tryz.ntmps84
  go_wp2_with (first | ((with_reducible show wpList _ _ _ _ _ w); refine wpList_boxS rfl 78 _ rfl (rwCells x A' c') rfl ?_; intro g3 w1 hk1 hb1 hg1; go_frame; have K1 := hid hk1; have B1 := hid hb1; have G3 := hid hg1; clear hk1 hb1 hg1))
  go_loopw [5, 6, 7] (fun va vb j wr => ∃ k : Nat, j = .int .i64 k ∧ k ≤ t.length ∧ OwnO rowE wr w1.heap.size F va (aheadP (t.take k) x.1) ∧ OwnO rowE wr w1.heap.size F vb (behindP (t.take k) x.1) ∧ (∀ q, va.ownBlock = some q → vb.ownBlock ≠ some q) ∧ Cs wr g3 78 (rwCells x A' c').toArray ∧ Below w.heap.size w wr ∧ w1.heap.size ≤ wr.heap.size) (fun _ _ j _ => t.length - (RowKit.intOf j).toNat)
  case atStart => exact ⟨0, rfl, Nat.zero_le _, OwnO.nil _ _ _ fun k hk => Nat.lt_of_lt_of_le (HF.out k hk) B1.out.size, OwnO.nil _ _ _ fun k hk => Nat.lt_of_lt_of_le (HF.out k hk) B1.out.size, (fun q h => by cases h), K1.out, B1.out, Nat.le_refl _⟩
  case round =>
    obtain ⟨k, rfl, hk, hoa, hob, hap, hk3, hb, hw1⟩ := hrel
    have HA := hid hoa
    have HB := hid hob
    have HAP := hid hap
    have K3 := hid hk3
    have BW := hid hb
    have HG := hid K1.out.lt
    clear hoa hob hap hk3 hb
    have la := (ab_len (t.take k) x.1).1
    have lb := (ab_len (t.take k) x.1).2
    rw [List.length_take] at la lb
    by_cases hlt : k < t.length
    · have hlt' : (k : Int) < (t.length : Int) := by omega
      obtain ⟨b, off, A1, c1, rfl, hat, hbv⟩ := row_rd HR.out k hlt
      have HP1 := hid (parts_take (key := x.1) hlt).1
      have HP2 := hid (parts_take (key := x.1) hlt).2
      generalize t[k] = y at *
      have HAT := hid (show At wr b (off + k * 2) (rwCells y A1 c1) from fun j v hv => (BW.out.cell (lt_of_cell (hat j v hv))).trans (hat j v hv))
      have HBV := hid (show BsV wr F (.slice A1 y.2.length c1) y.2 from hbv.turn (Turn.of_below (BW.out.mono (Nat.le_refl _)) fun _ => False) fun _ _ h => h)
      have q1 : wr.cell? ⟨b, off + k * 2, none⟩ = some (.string ⟨y.1.toArray⟩) := HAT.out 0 _ rfl
      have q2 := rw_c0 K3.out
      clear hat hbv
      obtain ⟨y1, y2⟩ := y
      dsimp only at *
      cases hls : lessK y1 x.1
      · skip
        rw [hls] at HP1 HP2
        have HN1 := hid HP1.out
        have HN2 := hid HP2.out
        simp only [if_true, Bool.false_eq_true, if_false] at HN1 HN2
        clear HP1 HP2
        go_wp2_with fail
        go_quiet (fail)
        clear q1 q2
        have HA2 := hid (HA.out.below (below_drewN (Below.refl _ _) nq))
        have HB2 := hid (HB.out.below (below_drewN (Below.refl _ _) nq))
        have K4 := hid (K3.out.below (below_drewN (Below.refl _ _) nq) K3.out.lt)
        have BW2 := hid (below_drewN BW.out nq)
        have HAT2 := hid (show At (wr.drewN nq) b (off + k * 2) (rwCells (y1, y2) A1 c1) from HAT.out)
        have HBV2 := hid (HBV.out.below (below_drewN (Below.refl _ _) nq))
        have hw2 : w1.heap.size ≤ (wr.drewN nq).heap.size := hw1
        clear HAT HBV K3 BW
        generalize wr.drewN nq = w2 at *
        have HTA := HA
        have HTB := HB
        clear HA HB
        go_wp2_with (first
          | ((with_reducible show wpList _ _ _ _ _ w2); refine wpList_load_agg rfl 78 _ rfl b (off + k * 2) rfl (rwCells (y1, y2) A1 c1) HAT2.out _ Tryz.underlying78 rfl (infoRw (y1, y2) A1 c1) ?_; go_frame)
          | ((with_reducible show wpList _ _ _ _ _ w2); refine wpList_buildRow rfl _ rfl (y1, y2) A1 c1 rfl ?_; intro g9 u3 hk hb hg; go_frame; have K9 := hid hk; have B9 := hid hb; clear hk hb hg)
          | (at_builtin; go_loud (refine wpList_append_o1 (E := rowE) rfl _ _ rfl w1.heap.size F _ (behindP (t.take k) x.1) rfl (HB2.out.below B9.out) g9 1 rfl (rwCells (y1, y2) A1 c1) (y1, y2) ⟨_, rfl, HBV2.out.below B9.out⟩ 78 K9.out (by omega) (Nat.le_trans hw2 B9.out.size) ?_; intro v5 u5 ho5 hg5 h5; go_frame; have O5 := hid ho5; have G5 := hid hg5; have H5 := hid h5; clear ho5 hg5 h5)))
        have OT := hid ((HA2.out.below B9.out).turn (Turn.of_grown G5.out) (fun q hq e => by have := (HB2.out.lt q e).1; have := HB2.out.old q hq; omega) (fun q e1 e2 => HAP.out q e1 e2))
        have K5 := hid ((K4.out.below B9.out K4.out.lt).turn (Turn.of_grown G5.out) (fun e => by have := (HB2.out.lt _ e).1; have := HG.out; omega))
        have B5 := hid ((BW2.out.trans (B9.out.mono BW2.out.size)).grown G5.out (Nat.le_trans BW2.out.size B9.out.size) (fun q e => by have := (HB2.out.lt q e).1; have := B1.out.size; omega))
        have S5 := hid (show w1.heap.size ≤ u5.heap.size from Nat.le_trans hw2 (Nat.le_trans B9.out.size G5.out.size))
        have D5 := hid (show ∀ q, v5.ownBlock = some q → ¬ (Value.ownBlock _) = some q from fun q e1 e2 => by
          rcases H5.out with h | h
          · rw [h] at e1; exact HAP.out q e2 e1
          · rw [h] at e1; cases e1; have := (HA2.out.lt _ e2).2; have := B9.out.size; omega)
        go_roundw
        case rel => exact ⟨k + 1, by go_num, hlt, by rw [HN1.out]; exact OT.out, by rw [HN2.out]; exact O5.out, fun q e1 e2 => D5.out q e2 e1, K5.out, B5.out, S5.out⟩
        case measure => simp [intOf]; omega
      · skip
        rw [hls] at HP1 HP2
        have HN1 := hid HP1.out
        have HN2 := hid HP2.out
        simp only [if_true, Bool.false_eq_true, if_false] at HN1 HN2
        clear HP1 HP2
        go_wp2_with fail
        go_quiet (fail)
        clear q1 q2
        have HA2 := hid (HA.out.below (below_drewN (Below.refl _ _) nq))
        have HB2 := hid (HB.out.below (below_drewN (Below.refl _ _) nq))
        have K4 := hid (K3.out.below (below_drewN (Below.refl _ _) nq) K3.out.lt)
        have BW2 := hid (below_drewN BW.out nq)
        have HAT2 := hid (show At (wr.drewN nq) b (off + k * 2) (rwCells (y1, y2) A1 c1) from HAT.out)
        have HBV2 := hid (HBV.out.below (below_drewN (Below.refl _ _) nq))
        have hw2 : w1.heap.size ≤ (wr.drewN nq).heap.size := hw1
        clear HAT HBV K3 BW
        generalize wr.drewN nq = w2 at *
        have HTA := HA
        have HTB := HB
        clear HA HB
        go_wp2_with (first
          | ((with_reducible show wpList _ _ _ _ _ w2); refine wpList_load_agg rfl 78 _ rfl b (off + k * 2) rfl (rwCells (y1, y2) A1 c1) HAT2.out _ Tryz.underlying78 rfl (infoRw (y1, y2) A1 c1) ?_; go_frame)
          | ((with_reducible show wpList _ _ _ _ _ w2); refine wpList_buildRow rfl _ rfl (y1, y2) A1 c1 rfl ?_; intro g9 u3 hk hb hg; go_frame; have K9 := hid hk; have B9 := hid hb; clear hk hb hg)
          | (at_builtin; go_loud (refine wpList_append_o1 (E := rowE) rfl _ _ rfl w1.heap.size F _ (aheadP (t.take k) x.1) rfl (HA2.out.below B9.out) g9 1 rfl (rwCells (y1, y2) A1 c1) (y1, y2) ⟨_, rfl, HBV2.out.below B9.out⟩ 78 K9.out (by omega) (Nat.le_trans hw2 B9.out.size) ?_; intro v5 u5 ho5 hg5 h5; go_frame; have O5 := hid ho5; have G5 := hid hg5; have H5 := hid h5; clear ho5 hg5 h5)))
        have OT := hid ((HB2.out.below B9.out).turn (Turn.of_grown G5.out) (fun q hq e => by have := (HA2.out.lt q e).1; have := HA2.out.old q hq; omega) (fun q e1 e2 => HAP.out q e2 e1))
        have K5 := hid ((K4.out.below B9.out K4.out.lt).turn (Turn.of_grown G5.out) (fun e => by have := (HA2.out.lt _ e).1; have := HG.out; omega))
        have B5 := hid ((BW2.out.trans (B9.out.mono BW2.out.size)).grown G5.out (Nat.le_trans BW2.out.size B9.out.size) (fun q e => by have := (HA2.out.lt q e).1; have := B1.out.size; omega))
        have S5 := hid (show w1.heap.size ≤ u5.heap.size from Nat.le_trans hw2 (Nat.le_trans B9.out.size G5.out.size))
        have D5 := hid (show ∀ q, v5.ownBlock = some q → ¬ (Value.ownBlock _) = some q from fun q e1 e2 => by
          rcases H5.out with h | h
          · rw [h] at e1; exact HAP.out q e1 e2
          · rw [h] at e1; cases e1; have := (HB2.out.lt _ e2).2; have := B9.out.size; omega)
        go_roundw
        case rel => exact ⟨k + 1, by go_num, hlt, by rw [HN1.out]; exact O5.out, by rw [HN2.out]; exact OT.out, fun q e1 e2 => D5.out q e1 e2, K5.out, B5.out, S5.out⟩
        case measure => simp [intOf]; omega
    · have hk' : t.take k = t := List.take_of_length_le (by omega)
      rw [hk'] at HA HB la lb
      have hm : min k t.length = t.length := by omega
      go_wp2_with (first
        | ((with_reducible show wpList _ _ _ _ _ wr); refine wpList_loadS rfl 78 _ rfl g3 rfl (rwCells x A' c') K3.out _ Tryz.underlying78 rfl (infoRw x A' c') ?_; go_frame)
        | ((with_reducible show wpList _ _ _ _ _ wr); refine wpList_buildRow rfl _ rfl x A' c' rfl ?_; intro g9 u3 hk hb hg; go_frame; have K9 := hid hk; have B9 := hid hb; clear hk hb hg)
        | ((with_reducible show wpList _ _ _ _ _ u3); at_builtin; go_loud (refine wpList_append_o1 (E := rowE) rfl _ _ rfl w1.heap.size F _ (aheadP t x.1) rfl (HA.out.below B9.out) g9 1 rfl (rwCells x A' c') x ⟨_, rfl, (HX.out.turn (Turn.of_below BW.out fun _ => False) fun _ _ h => h).below B9.out⟩ 78 K9.out (by omega) (Nat.le_trans hw1 B9.out.size) ?_; intro v5 u5 ho5 hg5 h5; go_frame; have O5 := hid ho5; have G5 := hid hg5; have H5 := hid h5; have OT := hid ((HB.out.below B9.out).turn (Turn.of_grown hg5) (fun q hq e => by have := (HA.out.lt q e).1; have := HA.out.old q hq; omega) (fun q e1 e2 => HAP.out q e2 e1)); have B5 := hid ((BW.out.trans (B9.out.mono BW.out.size)).grown hg5 (Nat.le_trans BW.out.size B9.out.size) (fun q e => by have := (HA.out.lt q e).1; have := B1.out.size; omega)); have S5 := hid (Nat.le_trans hw1 (Nat.le_trans B9.out.size hg5.size)); clear ho5 hg5 h5))
        | ((with_reducible show wpList _ _ _ _ _ u5); at_builtin; go_loud (refine wpList_append_o (E := rowE) rfl _ _ rfl w1.heap.size F _ _ (aheadP t x.1 ++ [x]) (behindP t x.1) rfl O5.out rfl OT.out (by simp; omega) S5.out ?_; intro v6 u6 ho6 hg6; go_frame; have O6 := hid ho6; have B6 := hid (B5.out.grown hg6 B5.out.size (fun q e => by have := (O5.out.lt q e).1; have := B1.out.size; omega)); clear ho6 hg6)))
      go_ret
      refine ⟨_, rfl, ?_, B6.out⟩
      rw [withP_parts]
      exact (O6.out.x.base B1.out.size).mono fun q _ hq => hq.imp id fun h => Nat.le_trans B1.out.size h
end Go.Proofs.YtfgbpinfplllgaaGreatDoor
namespace Go.Proofs.YtfgbpinfplllgaaGreatDoor
open Go.RowKit Go.Shelf
set_option maxRecDepth 100000
theorem apply_take {t : List Rw} {l : List Ch} {k : Nat} (h : k < l.length) : applyP t (l.take (k + 1)) = stepP (applyP t (l.take k)) l[k] := by
  rw [List.take_succ_eq_append_getElem h]
  unfold applyP
  rw [List.foldl_append]
  rfl
theorem step_len (t : List Rw) (c : Ch) : (stepP t c).length ≤ t.length + 1 := by
  unfold stepP
  have h1 := without_len t c.1
  split
  · omega
  · rw [withP_parts]
    have h2 : (aheadP (withoutP t c.1) c.1).length + (behindP (withoutP t c.1) c.1).length = (withoutP t c.1).length := by
      unfold aheadP behindP
      generalize withoutP t c.1 = u
      induction u with
      | nil => rfl
      | cons y u ih => cases e : lessK y.1 c.1 <;> simp [e] <;> omega
    simp
    omega
theorem apply_len : ∀ (l : List Ch) (t : List Rw), (applyP t l).length ≤ t.length + l.length
  | [], t => by simp [applyP]
  | c :: l, t => by
    have h1 := apply_len l (stepP t c)
    have h2 := step_len t c
    show (applyP (stepP t c) l).length ≤ _
    simp only [List.length_cons]
    omega
def ApplyRet (t : List Rw) (l : List Ch) (w : World) (e : Ending) (w' : World) : Prop := Below w.heap.size w w' ∧
  if mayP t && mayCP l then ∃ v, e = .returned (.tuple #[v, .int .i64 0]) ∧ OwnX rowE w' w.heap.size (w.heap.size ≤ ·) v (applyP t l) else e = .returned (.tuple #[.slice none 0 0, .int .i64 2])
theorem ApplyRet.no {t : List Rw} {l : List Ch} {w w' : World} (h : (mayP t && mayCP l) = false) (hb : Below w.heap.size w w') : ApplyRet t l w (.returned (.tuple #[.slice none 0 0, .int .i64 2])) w' := ⟨hb, by rw [h]; rfl⟩
theorem ApplyRet.yes {t : List Rw} {l : List Ch} {w w' : World} {v : Value} (h : (mayP t && mayCP l) = true) (hb : Below w.heap.size w w') (ho : OwnX rowE w' w.heap.size (w.heap.size ≤ ·) v (applyP t l)) : ApplyRet t l w (.returned (.tuple #[v, .int .i64 0])) w' := ⟨hb, by rw [h, if_pos rfl]; exact ⟨v, rfl, ho⟩⟩
set_option maxHeartbeats 8000000 in
theorem ApplyRef_any (t : List Rw) (l : List Ch) (A B : Option Addr) (ca cb : Nat) (F G : Nat → Prop) (w : World) (hs : SmallR t) (hs' : SmallC l) (ht : t.length ≤ 2000000) (hl : l.length ≤ 2000000) (hr : RdX rowE w F A t) (hr' : RdX chgE w G B l) :
    Calls Tryz.prog 28 #[.slice A t.length ca, .slice B l.length cb] w fun e w' => ApplyRet t l w e w' := by
  have hmix : Tryz.prog.follows .mixedOrders = true := by kernel_rfl
  have hm1 := MayRef_any t A ca F w hs hr
  have hm2 := fun u (hb : Below w.heap.size w u) => MayCRef_any l B cb G u hs' (hr'.below hb)
  have HR := hid hr
  have HR2 := hid hr'
  have hl' : (l.length : Int) ≤ 9223372036854775807 := by omega
  clear hs hs' hr hr'
  cases h1 : mayP t
  · rw [h1] at hm1
    have HN := hid (show (mayP t && mayCP l) = false by rw [h1]; rfl)
    clear h1 hm2
    go_enter Tryz.func28, Tryz.ntmps28
    go_wp2_with fail
    refine hm1.mono ?_
    rintro e w1 ⟨rfl, hb⟩
    go_wp2_with fail
    go_ret2
    exact ApplyRet.no HN.out hb
  cases h2 : mayCP l
  · rw [h1] at hm1
    have HM2 := hid hm2
    have HN := hid (show (mayP t && mayCP l) = false by rw [h1, h2]; rfl)
    have H2 := hid h2
    clear h1 h2 hm2
    go_enter Tryz.func28, Tryz.ntmps28
    go_wp2_with fail
    refine hm1.mono ?_
    rintro e w1 ⟨rfl, hb⟩
    go_wp2_with fail
    have hx := HM2.out w1 hb
    rw [H2.out] at hx
    refine hx.mono ?_
    clear hx
    rintro e w2 ⟨rfl, hb2⟩
    go_wp2_with fail
    go_ret2
    exact ApplyRet.no HN.out (below_chain hb hb2)
  rw [h1] at hm1
  have HM2 := hid hm2
  have HN := hid (show (mayP t && mayCP l) = true by rw [h1, h2]; rfl)
  have H1 := hid h1
  have H2 := hid h2
  have hgood := fun k => good_apply (l.take k) (t := t) ((may_iff t).1 h1).1 fun c hc => ((mayC_iff l).1 h2).1 c (List.mem_of_mem_take hc)
  have hlen := fun k => apply_len (l.take k) t
  have HG := hid hgood
  have HL := hid hlen
  have H0 := hid (show applyP t (l.take 0) = withoutP t [] by rw [without_nil h1]; rfl)
  have HV0 := hid (show ∀ x ∈ t, x.2.length ≤ 10000000 from fun x hx => by have := (((may_iff t).1 h1).1 x hx).2.2; omega)
  clear h1 h2 hm2 hgood hlen
  go_enter Tryz.func28, Tryz.ntmps28
  go_wp2_with fail
  refine hm1.mono ?_
  clear hm1
  rintro e w1 ⟨rfl, hb⟩
  have B1 := hid hb
  clear hb
  go_wp2_with fail
  have hx := HM2.out w1 B1.out
  rw [H2.out] at hx
  refine hx.mono ?_
  clear hx
  rintro e w2 ⟨rfl, hb⟩
  have B2 := hid (below_chain B1.out hb)
  clear hb B1 HM2
  go_wp2_with fail
  refine (WithoutRef_any t [] A ca F w2 (by omega) HV0.out (HR.out.below B2.out)).mono ?_
  rintro e w3 ⟨v3, rfl, ho3, hb⟩
  have O3 := hid (show OwnX rowE w3 w.heap.size (w.heap.size ≤ ·) v3 (applyP t (l.take 0)) from by rw [H0.out]; exact (ho3.base B2.out.size).mono fun q _ hq => Nat.le_trans B2.out.size hq)
  have B3 := hid (below_chain B2.out hb)
  clear ho3 hb B2
  go_wp2_with fail
  go_loopw [6, 7] (fun v j wr => ∃ k : Nat, j = .int .i64 k ∧ k ≤ l.length ∧ OwnX rowE wr w.heap.size (w.heap.size ≤ ·) v (applyP t (l.take k)) ∧ Below w.heap.size w wr) (fun _ j _ => l.length - (RowKit.intOf j).toNat)
  case atStart => exact ⟨0, rfl, Nat.zero_le _, O3.out, B3.out⟩
  case round =>
    obtain ⟨k, rfl, hk, ho, hb⟩ := hrel
    have HO := hid ho
    have HB := hid hb
    clear hb O3 B3
    by_cases hlt : k < l.length
    · have hlt' : (k : Int) < (l.length : Int) := by omega
      obtain ⟨b, off, A1, c1, rfl, hc1, hd1, hg1, hr1, hn1, hx1, hx2⟩ := chg_at HR2.out k hlt
      have HST := hid (apply_take (t := t) hlt)
      have hcl := HL.out k
      rw [List.length_take] at hcl
      have HCG := hid (HG.out k)
      have hcv : l[k].2.1.length ≤ 8192 := (((mayC_iff l).1 H2.out).1 _ (List.getElem_mem hlt)).1.2.2
      generalize l[k] = x at *
      obtain ⟨x1, x2, x3⟩ := x
      dsimp only at *
      obtain ⟨cur, hcur⟩ : ∃ cur, applyP t (l.take k) = cur := ⟨_, rfl⟩
      rw [hcur] at HST HO HCG hcl ho
      unfold stepP at HST
      dsimp only at HST
      clear hcur
      obtain ⟨A5, c5, hv5, hrd5, hl5, hm5, hn5⟩ := ho.form
      subst hv5
      have HRD5 := hid hrd5
      have HC1 := hid hc1
      have HD1 := hid hd1
      have HRV := hid hr1.rd
      have HNV := hid hn1
      have q1 : wr.cell? ⟨b, off + k * 3, none⟩ = some (.string ⟨x1.toArray⟩) := (HB.out.cell (lt_of_cell hc1)).trans hc1
      have hwo := WithoutRef_any cur x1 A5 c5 _ wr (by omega) (fun y hy => by have := (HCG.out y hy).2.2; omega) hrd5
      have HWO := hid hwo
      clear hc1 hd1 hr1 hn1 hrd5 ho hwo
      have HG1 := hid hg1
      clear hg1
      go_wp2_with fail
      refine HWO.out.mono ?_
      clear HWO q1
      rintro e w4 ⟨v4, rfl, ho4, hb4⟩
      have hzz := HB.out.size
      have O4 := hid ((ho4.base hzz).mono (G := (w.heap.size ≤ ·)) fun q _ hq => Nat.le_trans hzz hq)
      have B4 := hid (below_chain HB.out hb4)
      have q2 : w4.cell? ⟨b, off + k * 3 + 2, none⟩ = some (.bool x3) := (B4.out.cell (lt_of_cell HG1.out)).trans HG1.out
      clear ho4 hb4
      cases x3
      · obtain ⟨A6, c6, hv6, hrd6, hl6, hm6, hn6⟩ := O4.out.form
        subst hv6
        have hwl := without_len cur x1
        have HRD6 := hid hrd6
        have HN2 := hid (HST.out.trans (if_neg (by decide)))
        clear hrd6
        have hcp := fun u (hu : Below w.heap.size w u) => Copy_any x2 A1 c1 u (by omega) (HRV.out.below hu) HNV.out
        have HCP := hid hcp
        clear hcp
        go_wp2_with fail
        clear q2
        refine wp_region_V [13] (fun y => Below w.heap.size w y ∧ OwnX rowE y w.heap.size (w.heap.size ≤ ·) (.slice A6 (withoutP cur x1).length c6) (withoutP cur x1)) hmix (⟨B4.out.drew, O4.out.below (Below.refl _ _).drew⟩) ?_
        change wpAnyV _ _ _ _ _ _ _ _ _
        refine wpW (i := 0) (v := .slice A6 (withoutP cur x1).length c6) (kept_and (kept_below w) (kept_ownX _ _ _ _)) rfl (DR fun w9 hS => by go_simp) ?_
        try simp only [getElem_toArray, getElem_cons_succ, getElem_cons_zero, Act.put, setIfInBounds_toArray, set_cons_succ, set_cons_zero]
        refine wpW (i := 1) (v := .slice (some ⟨b, off, none⟩) l.length cb) (kept_and (kept_below w) (kept_ownX _ _ _ _)) rfl (DR fun w9 hS => by go_simp) ?_
        try simp only [getElem_toArray, getElem_cons_succ, getElem_cons_zero, Act.put, setIfInBounds_toArray, set_cons_succ, set_cons_zero]
        refine wpW (i := 2) (v := .int .i64 (k : Int)) (kept_and (kept_below w) (kept_ownX _ _ _ _)) rfl (DR fun w9 hS => by go_simp) ?_
        try simp only [getElem_toArray, getElem_cons_succ, getElem_cons_zero, Act.put, setIfInBounds_toArray, set_cons_succ, set_cons_zero]
        refine wpW (i := 3) (v := .pointer (some ⟨b, off + k * 3, none⟩)) (kept_and (kept_below w) (kept_ownX _ _ _ _)) rfl (DR fun w9 hS => by go_simp) ?_
        try simp only [getElem_toArray, getElem_cons_succ, getElem_cons_zero, Act.put, setIfInBounds_toArray, set_cons_succ, set_cons_zero]
        refine wpW (i := 4) (v := .pointer (some ⟨b, off + k * 3, none⟩)) (kept_and (kept_below w) (kept_ownX _ _ _ _)) rfl (DR fun w9 hS => by go_simp) ?_
        try simp only [getElem_toArray, getElem_cons_succ, getElem_cons_zero, Act.put, setIfInBounds_toArray, set_cons_succ, set_cons_zero]
        refine wpW (i := 5) (v := .string ⟨x1.toArray⟩) (kept_and (kept_below w) (kept_ownX _ _ _ _)) rfl (DR fun w9 hS => by have q9 := (hS.1.cell (lt_of_cell HC1.out)).trans HC1.out; go_simp) ?_
        try simp only [getElem_toArray, getElem_cons_succ, getElem_cons_zero, Act.put, setIfInBounds_toArray, set_cons_succ, set_cons_zero]
        refine wpW (i := 6) (v := .slice (some ⟨b, off, none⟩) l.length cb) (kept_and (kept_below w) (kept_ownX _ _ _ _)) rfl (DR fun w9 hS => by go_simp) ?_
        try simp only [getElem_toArray, getElem_cons_succ, getElem_cons_zero, Act.put, setIfInBounds_toArray, set_cons_succ, set_cons_zero]
        refine wpW (i := 7) (v := .int .i64 (k : Int)) (kept_and (kept_below w) (kept_ownX _ _ _ _)) rfl (DR fun w9 hS => by go_simp) ?_
        try simp only [getElem_toArray, getElem_cons_succ, getElem_cons_zero, Act.put, setIfInBounds_toArray, set_cons_succ, set_cons_zero]
        refine wpW (i := 8) (v := .pointer (some ⟨b, off + k * 3, none⟩)) (kept_and (kept_below w) (kept_ownX _ _ _ _)) rfl (DR fun w9 hS => by go_simp) ?_
        try simp only [getElem_toArray, getElem_cons_succ, getElem_cons_zero, Act.put, setIfInBounds_toArray, set_cons_succ, set_cons_zero]
        refine wpW (i := 9) (v := .pointer (some ⟨b, off + k * 3 + 1, none⟩)) (kept_and (kept_below w) (kept_ownX _ _ _ _)) rfl (DR fun w9 hS => by go_simp) ?_
        try simp only [getElem_toArray, getElem_cons_succ, getElem_cons_zero, Act.put, setIfInBounds_toArray, set_cons_succ, set_cons_zero]
        refine wpW (i := 10) (v := .slice A1 x2.length c1) (kept_and (kept_below w) (kept_ownX _ _ _ _)) rfl (DR fun w9 hS => by have q9 := (hS.1.cell (lt_of_cell HD1.out)).trans HD1.out; go_simp) ?_
        try simp only [getElem_toArray, getElem_cons_succ, getElem_cons_zero, Act.put, setIfInBounds_toArray, set_cons_succ, set_cons_zero]
        refine wpAnyV_only (i := 11) rfl (by kernel_rfl) rfl (fun u hS => wp_of_call (by go_simp) (HCP.out u hS.1) fun e u' ⟨v1, he, ho1, hb1⟩ => ⟨v1, he, (fun y => (Below w.heap.size w y ∧ OwnX rowE y w.heap.size (w.heap.size ≤ ·) (.slice A6 (withoutP cur x1).length c6) (withoutP cur x1)) ∧ BsV y (w.heap.size ≤ ·) v1 x2), ⟨⟨below_chain hS.1 hb1, hS.2.below hb1⟩, (BsV.own ho1).mono fun q _ hq => Nat.le_trans hS.1.size hq⟩, (kept_and (kept_and (kept_below w) (kept_ownX _ _ _ _)) (kept_bsv _ _ _)), fun _ y h => h.1, ?_⟩)
        try simp only [getElem_toArray, getElem_cons_succ, getElem_cons_zero, Act.put, setIfInBounds_toArray, set_cons_succ, set_cons_zero]
        have hbv := BsV.own ho1
        obtain ⟨A2, c2, hv2, -⟩ := id hbv
        subst hv2
        refine wpAnyV_pure (i := 12) (v := .agg #[.string ⟨x1.toArray⟩, .slice A2 x2.length c2]) (kept_and (kept_and (kept_below w) (kept_ownX _ _ _ _)) (kept_bsv _ _ _)) rfl (by kernel_rfl) (by kernel_rfl) (fun _ _ _ h => h) (DR fun w9 hS => by go_simp) ?_
        try simp only [getElem_toArray, getElem_cons_succ, getElem_cons_zero, Act.put, setIfInBounds_toArray, set_cons_succ, set_cons_zero]
        refine wpAnyV_only (i := 13) rfl (by kernel_rfl) rfl (fun y hy => wp_of_call (f := 84) (by simp only [rwCells]; go_simp) (WithRef_any (withoutP cur x1) (x1, x2) A6 A2 c6 c2 (fun q => w.heap.size ≤ q ∧ q < y.heap.size) y (by omega) (fun q hq => hq.2) (by obtain ⟨A7, c7, e7, h7, -⟩ := hy.1.2.form; cases e7; exact h7.mono fun q hq h => ⟨h, hq⟩) (hy.2.mono fun q hq h => ⟨h, hq⟩)) fun e y' ⟨v3', he, ho3, hb3⟩ => ⟨v3', he, (fun y => Below w.heap.size w y ∧ OwnX rowE y w.heap.size (w.heap.size ≤ ·) v3' (withP (withoutP cur x1) (x1, x2))), ⟨below_chain hy.1.1 hb3, (ho3.base hy.1.1.size).mono fun q _ hq => hq.elim (fun h => h.1) fun h => Nat.le_trans hy.1.1.size h⟩, kept_and (kept_below w) (kept_ownX _ _ _ _), fun h => absurd (by simp) h, ?_⟩)
        try simp only [getElem_toArray, getElem_cons_succ, getElem_cons_zero, Act.put, setIfInBounds_toArray, set_cons_succ, set_cons_zero]
        refine wpAnyV_pure (i := 14) (v := v3') (kept_and (kept_below w) (kept_ownX _ _ _ _)) rfl (by kernel_rfl) (by kernel_rfl) (fun _ _ _ h => h) (DR fun w9 hS => by go_simp) ?_
        try simp only [getElem_toArray, getElem_cons_succ, getElem_cons_zero, Act.put, setIfInBounds_toArray, set_cons_succ, set_cons_zero]
        refine wpAnyV_done (by kernel_rfl) (fun y1 hu => ?_) _
        have HU := hid hu
        clear hu
        go_wp2_with fail
        go_roundw
        case rel => exact ⟨k + 1, by go_num, hlt, by rw [HN2.out]; exact HU.out.2, HU.out.1⟩
        case measure => simp [intOf]; omega
      · have HN2 := hid (HST.out.trans (if_pos rfl))
        go_wp2_with fail
        go_roundw
        case rel => exact ⟨k + 1, by go_num, hlt, by rw [HN2.out]; exact O4.out, B4.out⟩
        case measure => simp [intOf]; omega
    · have hk' : l.take k = l := List.take_of_length_le (by omega)
      rw [hk'] at HO
      go_wp2_with fail
      go_ret2
      exact ApplyRet.yes HN.out HB.out HO.out
end Go.Proofs.YtfgbpinfplllgaaGreatDoor
namespace Go.Proofs.YtfgbpinfplllgaaGreatDoor
open Go.RowKit Go.Shelf
set_option maxRecDepth 100000
def rwZero : List Value := [.string ⟨#[]⟩, .slice none 0 0]
theorem zeroRw (w : World) : (zeroValue 78).run Tryz.prog w = .ok (.agg rwZero.toArray) w := by kernel_rfl
end Go.Proofs.YtfgbpinfplllgaaGreatDoor
