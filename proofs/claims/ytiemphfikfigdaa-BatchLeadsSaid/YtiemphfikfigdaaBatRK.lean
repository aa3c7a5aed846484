/- BatRK: BatRef1 BatRef2 BatRef3 BatRef4 BatRef5 BatRef6 BatRef7 BatRef8 BatRef9 BatRef10. -/
import Derived.Test.YtiemphfikfigdaaTblK
import Derived.Sort.Walk0
import Derived.Test.YtiemphfikfigdaaNPutRef
import Derived.Test.YtiemphfikfigdaaWordsK
import Derived.Lib.AppendStr
/- The reference of layer 7: fits, May, MayChange, Shared. -/
namespace Go.Proofs.Ytiemphfikfigdaa
open Go.RowKit Go.Shelf
set_option linter.unusedVariables false
set_option maxRecDepth 100000
set_option linter.unusedSimpArgs false

theorem less_bytes (a b : Key) : Op.bytesLess a b = lessK a b := bytesLess_eq a b
theorem fitB_any (last k v : List UInt8) (A : Option Addr) (c : Nat) (w : World) (hk : k.length ≤ 9223372036854775807) (hv : v.length ≤ 9223372036854775807) :
    Calls Try.prog 43 #[.string ⟨last.toArray⟩, .string ⟨k.toArray⟩, .slice A v.length c] w fun e w' => e = .returned (.bool (fitsK last k v)) ∧ w = w' := by
  unfold fitsK
  have h1 : (k.length : Int) ≤ 9223372036854775807 := by omega
  have h2 : (v.length : Int) ≤ 9223372036854775807 := by omega
  have hlb := less_bytes
  by_cases e1 : k = []
  · have f1 : (k == []) = true := by simpa using e1
    go_enter Try.func43, Try.ntmps43
    go_wp2
    go_ret
    exact ⟨by first | rfl | (rw [f1]; rfl), rfl⟩
  · have f1 : (k == []) = false := by simpa using e1
    by_cases e2 : k.length ≤ 16
    · have f2 : (k.length : Int) ≤ 16 := by omega
      have f2' : decide (k.length ≤ 16) = true := by simpa using e2
      cases e3 : lessK last k
      · have f3 : (!(lessK k last || k == last)) = false := by
          cases h4 : lessK k last
          · rw [lessK_total h4 e3]; simp
          · simp
        go_enter Try.func43, Try.ntmps43
        go_wp2
        go_ret
        exact ⟨by first | rfl | (rw [f1, f2']; rfl), rfl⟩
      · have f3 : (!(lessK k last || k == last)) = true := by
          rw [lessK_asymm e3]
          simpa using (lessK_ne e3).symm
        by_cases e4 : v.length ≤ 8192
        · have f4 : (v.length : Int) ≤ 8192 := by omega
          go_enter Try.func43, Try.ntmps43
          go_wp2
          go_ret
          exact ⟨by first | rfl | (rw [f1, f2']; simp [e4]), rfl⟩
        · have f4 : ¬ (v.length : Int) ≤ 8192 := by omega
          go_enter Try.func43, Try.ntmps43
          go_wp2
          go_ret
          exact ⟨by first | rfl | (rw [f1, f2']; simp [e4]), rfl⟩
    · have f2 : ¬ (k.length : Int) ≤ 16 := by omega
      have f2' : decide (k.length ≤ 16) = false := by simpa using e2
      go_enter Try.func43, Try.ntmps43
      go_wp2
      go_ret
      exact ⟨by first | rfl | (rw [f1, f2']; rfl), rfl⟩

/-- the first k may be -/
def MayI (t : List Rw) (k : Nat) : Prop := k ≤ t.length ∧ mayP (t.take k) = true
def endR : Key → List Rw → Key
  | last, [] => last
  | _, x :: r => endR x.1 r
def endC : Key → List Ch → Key
  | last, [] => last
  | _, x :: r => endC x.1 r
theorem endR_snoc : ∀ (t : List Rw) (last : Key) (x : Rw), endR last (t ++ [x]) = x.1
  | [], _, _ => rfl
  | y :: t, last, x => endR_snoc t y.1 x
theorem endC_snoc : ∀ (t : List Ch) (last : Key) (x : Ch), endC last (t ++ [x]) = x.1
  | [], _, _ => rfl
  | y :: t, last, x => endC_snoc t y.1 x
theorem mayFrom_snoc : ∀ (t : List Rw) (last : Key) (x : Rw), mayFrom last (t ++ [x]) = (mayFrom last t && fitsK (endR last t) x.1 x.2)
  | [], last, x => by simp [mayFrom, endR]
  | y :: t, last, x => by simp only [List.cons_append, mayFrom, mayFrom_snoc t y.1 x, Bool.and_assoc, endR]
theorem mayCFrom_snoc : ∀ (t : List Ch) (last : Key) (x : Ch), mayCFrom last (t ++ [x]) = (mayCFrom last t && okC (endC last t) x)
  | [], last, x => by simp [mayCFrom, endC]
  | y :: t, last, x => by simp only [List.cons_append, mayCFrom, mayCFrom_snoc t y.1 x, Bool.and_assoc, endC]
/-- the key ahead of place k -/
def aheadR (t : List Rw) (k : Nat) : Key := endR [] (t.take k)
def aheadC (t : List Ch) (k : Nat) : Key := endC [] (t.take k)
theorem aheadR_succ {t : List Rw} {k : Nat} (h : k < t.length) : aheadR t (k + 1) = t[k].1 := by
  unfold aheadR
  rw [List.take_succ_eq_append_getElem h, endR_snoc]
theorem aheadC_succ {t : List Ch} {k : Nat} (h : k < t.length) : aheadC t (k + 1) = t[k].1 := by
  unfold aheadC
  rw [List.take_succ_eq_append_getElem h, endC_snoc]
theorem aheadR_zero (t : List Rw) : aheadR t 0 = [] := rfl
theorem aheadC_zero (t : List Ch) : aheadC t 0 = [] := rfl
theorem may_take {t : List Rw} {k : Nat} (h : k < t.length) : mayP (t.take (k + 1)) = (mayP (t.take k) && fitsK (aheadR t k) t[k].1 t[k].2) := by
  unfold mayP
  rw [List.take_succ_eq_append_getElem h, mayFrom_snoc]
  rfl
theorem mayC_take {t : List Ch} {k : Nat} (h : k < t.length) : mayCP (t.take (k + 1)) = (mayCP (t.take k) && okC (aheadC t k) t[k]) := by
  unfold mayCP
  rw [List.take_succ_eq_append_getElem h, mayCFrom_snoc]
  rfl
theorem mayFrom_take : ∀ (t : List Rw) (last : Key) (k : Nat), mayFrom last t = true → mayFrom last (t.take k) = true
  | [], last, k, h => by simpa using h
  | x :: t, last, 0, h => rfl
  | x :: t, last, k + 1, h => by
    simp only [mayFrom, Bool.and_eq_true, List.take_succ_cons] at h ⊢
    exact ⟨h.1, mayFrom_take t x.1 k h.2⟩
theorem mayCFrom_take : ∀ (t : List Ch) (last : Key) (k : Nat), mayCFrom last t = true → mayCFrom last (t.take k) = true
  | [], last, k, h => by simpa using h
  | x :: t, last, 0, h => rfl
  | x :: t, last, k + 1, h => by
    simp only [mayCFrom, Bool.and_eq_true, List.take_succ_cons] at h ⊢
    exact ⟨h.1, mayCFrom_take t x.1 k h.2⟩
theorem may_no {t : List Rw} {k : Nat} (h : k < t.length) (hf : fitsK (aheadR t k) t[k].1 t[k].2 = false) : mayP t = false := by
  cases hm : mayP t
  · rfl
  · have := mayFrom_take t [] (k + 1) hm
    rw [show mayFrom [] (t.take (k + 1)) = mayP (t.take (k + 1)) from rfl, may_take h, hf, Bool.and_false] at this
    cases this
theorem mayC_no {t : List Ch} {k : Nat} (h : k < t.length) (hf : okC (aheadC t k) t[k] = false) : mayCP t = false := by
  cases hm : mayCP t
  · rfl
  · have := mayCFrom_take t [] (k + 1) hm
    rw [show mayCFrom [] (t.take (k + 1)) = mayCP (t.take (k + 1)) from rfl, mayC_take h, hf, Bool.and_false] at this
    cases this
/-- a list of rows of which each has a key and a value of some size -/
def SmallR (t : List Rw) : Prop := t.length ≤ 140737488355328 ∧ ∀ x ∈ t, x.1.length ≤ 9223372036854775807
def SmallC (t : List Ch) : Prop := t.length ≤ 140737488355328 ∧ ∀ x ∈ t, x.1.length ≤ 9223372036854775807
set_option maxHeartbeats 2000000 in
theorem MayRef_any (t : List Rw) (A : Option Addr) (c : Nat) (F : Nat → Prop) (w : World) (hs : SmallR t) (hr : RdX rowE w F A t) :
    Calls Try.prog 24 #[.slice A t.length c] w fun e w' => e = .returned (.bool (mayP t)) ∧ Below w.heap.size w w' := by
  have hl := hs.1
  have hl' : (t.length : Int) ≤ 9223372036854775807 := by omega
  have HS := Lib.hid hs.2
  have HR := Lib.hid hr
  clear hs hr hl
  go_enter Try.func24, Try.ntmps24
  go_wp2_with fail
  go_loopw [3] (fun j wr => ∃ k : Nat, j = .int .i64 k ∧ MayI t k ∧ Below w.heap.size w wr) (fun j _ => t.length - (RowKit.intOf j).toNat)
  case atStart => exact ⟨0, rfl, ⟨Nat.zero_le _, by simp [mayP, mayFrom]⟩, Below.refl _ _⟩
  case round =>
    obtain ⟨k, rfl, hI, hB⟩ := hrel
    have hk0 := hI.1
    have HI := Lib.hid hI.2
    have HB := Lib.hid hB
    clear hI hB
    by_cases hk : k < t.length
    · obtain ⟨b, off, A1, c1, rfl, hc1, hd1, hr1, -, hx1, hx2⟩ := row_at (HR.out.below HB.out) k hk
      have hsz := HS.out _ (List.getElem_mem hk)
      have T1 := Lib.hid (may_take hk)
      have T2 := Lib.hid (fun h => may_no hk h)
      have hfit := fun u => fitB_any (aheadR t k) t[k].1 t[k].2 A1 c1 u hsz (by unfold maxLen at hx2; omega)
      have HF := Lib.hid hfit
      have hk' : (k : Int) < (t.length : Int) := by omega
      obtain ⟨t', hft⟩ : ∃ t', fitsK (aheadR t k) t[k].1 t[k].2 = t' := ⟨_, rfl⟩
      rw [hft] at T1 T2 HF
      cases k with
      | zero =>
        rw [aheadR_zero] at HF
        generalize t[0] = x at *
        obtain ⟨x1, x2⟩ := x
        dsimp only at *
        rw [Nat.zero_mul, Nat.add_zero] at hc1 hd1
        clear hft hr1
        cases t'
        · go_wp2_with fail
          go_quiet (exact Calls.quiet_of_same ((HF.out _).mono fun _ _ h => ⟨h.1, h.2.symm⟩))
          go_wp2_with fail
          go_ret
          exact ⟨by rw [T2.out (by first | trivial | rfl)]; first | done | rfl, below_drewN HB.out _⟩
        · go_wp2_with fail
          go_quiet (exact Calls.quiet_of_same ((HF.out _).mono fun _ _ h => ⟨h.1, h.2.symm⟩))
          go_wp2_with fail
          go_roundw
          case rel => exact ⟨1, by go_num, ⟨hk, by rw [T1.out, HI.out]; rfl⟩, below_drewN HB.out _⟩
          case measure => simp [RowKit.intOf]; omega
      | succ k =>
        have hk2 : k < t.length := by omega
        obtain ⟨b', off', A2, c2, e2, hc2, -⟩ := row_at (HR.out.below HB.out) k hk2
        cases e2
        rw [aheadR_succ hk2] at HF
        generalize t[k + 1] = x at *
        generalize t[k] = y at *
        obtain ⟨x1, x2⟩ := x
        obtain ⟨y1, y2⟩ := y
        dsimp only at *
        clear hft hr1
        cases t'
        · go_wp2_with fail
          go_quiet (exact Calls.quiet_of_same ((HF.out _).mono fun _ _ h => ⟨h.1, h.2.symm⟩))
          go_wp2_with fail
          go_ret
          exact ⟨by rw [T2.out (by first | trivial | rfl)]; first | done | rfl, below_drewN HB.out _⟩
        · go_wp2_with fail
          go_quiet (exact Calls.quiet_of_same ((HF.out _).mono fun _ _ h => ⟨h.1, h.2.symm⟩))
          go_wp2_with fail
          go_roundw
          case rel => exact ⟨k + 2, by go_num, ⟨hk, by rw [T1.out, HI.out]; rfl⟩, below_drewN HB.out _⟩
          case measure => simp [RowKit.intOf]; omega
    · have hv := Lib.hid (show mayP t = true by have := HI.out; rwa [List.take_of_length_le (by omega)] at this)
      go_wp2_with fail
      go_ret
      exact ⟨by rw [hv.out]; first | done | rfl, HB.out⟩

def MayCI (t : List Ch) (k : Nat) : Prop := k ≤ t.length ∧ mayCP (t.take k) = true
theorem len_pos (v : List UInt8) : decide (0 < (v.length : Int)) = !(v == []) := by
  cases v with
  | nil => rfl
  | cons x v => simp
set_option maxHeartbeats 4000000 in
theorem MayCRef_any (t : List Ch) (A : Option Addr) (c : Nat) (F : Nat → Prop) (w : World) (hs : SmallC t) (hr : RdX chgE w F A t) :
    Calls Try.prog 15 #[.slice A t.length c] w fun e w' => e = .returned (.bool (mayCP t)) ∧ Below w.heap.size w w' := by
  have hl := hs.1
  have hl' : (t.length : Int) ≤ 9223372036854775807 := by omega
  have HS := Lib.hid hs.2
  have HR := Lib.hid hr
  clear hs hr hl
  go_enter Try.func15, Try.ntmps15
  go_wp2_with fail
  go_loopw [3] (fun j wr => ∃ k : Nat, j = .int .i64 k ∧ MayCI t k ∧ Below w.heap.size w wr) (fun j _ => t.length - (RowKit.intOf j).toNat)
  case atStart => exact ⟨0, rfl, ⟨Nat.zero_le _, by simp [mayCP, mayCFrom]⟩, Below.refl _ _⟩
  case round =>
    obtain ⟨k, rfl, hI, hB⟩ := hrel
    have hk0 := hI.1
    have HI := Lib.hid hI.2
    have HB := Lib.hid hB
    clear hI hB
    by_cases hk : k < t.length
    · obtain ⟨b, off, A1, c1, rfl, hc1, hd1, hg1, hr1, -, hx1, hx2⟩ := chg_at (HR.out.below HB.out) k hk
      have hsz := HS.out _ (List.getElem_mem hk)
      have T1 := Lib.hid (mayC_take hk)
      have T2 := Lib.hid (fun h => mayC_no hk h)
      unfold okC at T1 T2
      have hv1 : t[k].2.1.length ≤ 9223372036854775807 := by unfold maxLen at hx2; omega
      have hfit := fun u => fitB_any (aheadC t k) t[k].1 t[k].2.1 A1 c1 u hsz hv1
      have HF := Lib.hid hfit
      have hk' : (k : Int) < (t.length : Int) := by omega
      obtain ⟨t', hft⟩ : ∃ t', fitsK (aheadC t k) t[k].1 t[k].2.1 = t' := ⟨_, rfl⟩
      obtain ⟨g', hg⟩ : ∃ g', t[k].2.2 = g' := ⟨_, rfl⟩
      obtain ⟨n', hn⟩ : ∃ n', (t[k].2.1 == []) = n' := ⟨_, rfl⟩
      have hpos : decide (0 < (t[k].2.1.length : Int)) = !n' := by rw [← hn, len_pos]
      rw [hft, hg, hn] at T1 T2
      rw [hft] at HF
      rw [hg] at hg1
      cases k with
      | zero =>
        rw [aheadC_zero] at HF
        generalize t[0] = x at *
        obtain ⟨x1, x2, x3⟩ := x
        dsimp only at *
        rw [Nat.zero_mul, Nat.add_zero] at hc1 hd1 hg1
        clear hft hg hn hr1 hfit
        cases t'
        · go_wp2_with fail
          go_quiet (exact Calls.quiet_of_same ((HF.out _).mono fun _ _ h => ⟨h.1, h.2.symm⟩))
          go_wp2_with fail
          go_ret
          exact ⟨by rw [T2.out (by first | trivial | rfl)]; first | done | rfl, below_drewN HB.out _⟩
        · cases g'
          · go_wp2_with fail
            go_quiet (exact Calls.quiet_of_same ((HF.out _).mono fun _ _ h => ⟨h.1, h.2.symm⟩))
            go_wp2_with fail
            go_roundw
            case rel => exact ⟨1, by go_num, ⟨hk, by rw [T1.out, HI.out]; rfl⟩, below_drewN HB.out _⟩
            case measure => simp [RowKit.intOf]; omega
          · cases n'
            · have hp1 : (0 : Int) < (x2.length : Int) := by simpa using hpos
              have hp2 : 0 < x2.length := by omega
              go_wp2_with fail
              go_quiet (exact Calls.quiet_of_same ((HF.out _).mono fun _ _ h => ⟨h.1, h.2.symm⟩))
              go_wp2_with fail
              go_ret
              exact ⟨by rw [T2.out (by first | trivial | rfl)]; first | done | rfl, below_drewN HB.out _⟩
            · have hp0 : ¬ (0 : Int) < (x2.length : Int) := by simpa using hpos
              have hp1 : (x2.length : Int) = 0 := by omega
              have hp2 : ¬ 0 < x2.length := by omega
              have hp3 : decide ((0 : Int) < (x2.length : Int)) = false := decide_eq_false hp0
              go_wp2_with fail
              go_quiet (exact Calls.quiet_of_same ((HF.out _).mono fun _ _ h => ⟨h.1, h.2.symm⟩))
              go_wp2_with fail
              go_roundw
              case rel => exact ⟨1, by go_num, ⟨hk, by rw [T1.out, HI.out]; rfl⟩, below_drewN HB.out _⟩
              case measure => simp [RowKit.intOf]; omega
      | succ k =>
        have hk2 : k < t.length := by omega
        obtain ⟨b', off', A2, c2, e2, hc2, -⟩ := chg_at (HR.out.below HB.out) k hk2
        cases e2
        rw [aheadC_succ hk2] at HF
        generalize t[k + 1] = x at *
        generalize t[k] = y at *
        obtain ⟨x1, x2, x3⟩ := x
        obtain ⟨y1, y2, y3⟩ := y
        dsimp only at *
        clear hft hg hn hr1 hfit
        cases t'
        · go_wp2_with fail
          go_quiet (exact Calls.quiet_of_same ((HF.out _).mono fun _ _ h => ⟨h.1, h.2.symm⟩))
          go_wp2_with fail
          go_ret
          exact ⟨by rw [T2.out (by first | trivial | rfl)]; first | done | rfl, below_drewN HB.out _⟩
        · cases g'
          · go_wp2_with fail
            go_quiet (exact Calls.quiet_of_same ((HF.out _).mono fun _ _ h => ⟨h.1, h.2.symm⟩))
            go_wp2_with fail
            go_roundw
            case rel => exact ⟨k + 2, by go_num, ⟨hk, by rw [T1.out, HI.out]; rfl⟩, below_drewN HB.out _⟩
            case measure => simp [RowKit.intOf]; omega
          · cases n'
            · have hp1 : (0 : Int) < (x2.length : Int) := by simpa using hpos
              have hp2 : 0 < x2.length := by omega
              go_wp2_with fail
              go_quiet (exact Calls.quiet_of_same ((HF.out _).mono fun _ _ h => ⟨h.1, h.2.symm⟩))
              go_wp2_with fail
              go_ret
              exact ⟨by rw [T2.out (by first | trivial | rfl)]; first | done | rfl, below_drewN HB.out _⟩
            · have hp0 : ¬ (0 : Int) < (x2.length : Int) := by simpa using hpos
              have hp1 : (x2.length : Int) = 0 := by omega
              have hp2 : ¬ 0 < x2.length := by omega
              have hp3 : decide ((0 : Int) < (x2.length : Int)) = false := decide_eq_false hp0
              go_wp2_with fail
              go_quiet (exact Calls.quiet_of_same ((HF.out _).mono fun _ _ h => ⟨h.1, h.2.symm⟩))
              go_wp2_with fail
              go_roundw
              case rel => exact ⟨k + 2, by go_num, ⟨hk, by rw [T1.out, HI.out]; rfl⟩, below_drewN HB.out _⟩
              case measure => simp [RowKit.intOf]; omega
    · have hv := Lib.hid (show mayCP t = true by have := HI.out; rwa [List.take_of_length_le (by omega)] at this)
      go_wp2_with fail
      go_ret
      exact ⟨by rw [hv.out]; first | done | rfl, HB.out⟩

end Go.Proofs.Ytiemphfikfigdaa

/- The reference of layer 7: Shared, one, Put. -/
namespace Go.Proofs.Ytiemphfikfigdaa
open Go.RowKit Go.Shelf
set_option linter.unusedVariables false
set_option maxRecDepth 100000
set_option linter.unusedSimpArgs false

theorem take_next {a b : Key} {n : Nat} (h : a.take n = b.take n) (h1 : n < a.length) (h2 : n < b.length) (e : a[n] = b[n]) : a.take (n + 1) = b.take (n + 1) := by
  rw [List.take_succ_eq_append_getElem h1, List.take_succ_eq_append_getElem h2, h, e]
theorem sv_lt {a : Key} {n : Nat} (h : n < a.length) : n < (⟨a.toArray⟩ : ByteArray).size := by rw [ba_size]; exact h
theorem sv_get {a : Key} {n : Nat} (h : n < a.length) : (⟨a.toArray⟩ : ByteArray)[n]'(sv_lt h) = a[n] := by
  show a.toArray[n]'(by simpa using h) = a[n]
  simp
set_option maxHeartbeats 2000000 in
theorem SharedRef_any (a b : Key) (w : World) (ha : a.length ≤ 9223372036854775807) (hb : b.length ≤ 9223372036854775807) :
    Calls Try.prog 19 #[.string ⟨a.toArray⟩, .string ⟨b.toArray⟩] w fun e w' => e = .returned (.int .i64 (sharedP a b : Int)) ∧ Below w.heap.size w w' := by
  have ha' : (a.length : Int) ≤ 9223372036854775807 := by omega
  have hb' : (b.length : Int) ≤ 9223372036854775807 := by omega
  go_enter Try.func19, Try.ntmps19
  go_wp2_with fail
  go_loopw [5] (fun j wr => ∃ n : Nat, j = .int .i64 n ∧ n ≤ a.length ∧ n ≤ b.length ∧ a.take n = b.take n ∧ Below w.heap.size w wr) (fun j _ => a.length - (RowKit.intOf j).toNat)
  case atStart => exact ⟨0, rfl, Nat.zero_le _, Nat.zero_le _, by simp, Below.refl _ _⟩
  case round =>
    obtain ⟨n, rfl, h1, h2, ht, hB⟩ := hrel
    have HT := Lib.hid ht
    have HB := Lib.hid hB
    clear ht hB
    by_cases l1 : n < a.length
    · have l1' : (n : Int) < (a.length : Int) := by omega
      by_cases l2 : n < b.length
      · have l2' : (n : Int) < (b.length : Int) := by omega
        by_cases he : a[n] = b[n]
        · have e1 : ((((⟨a.toArray⟩ : ByteArray)[n]'(sv_lt l1)).toNat : Int) == (((⟨b.toArray⟩ : ByteArray)[n]'(sv_lt l2)).toNat : Int)) = true := by rw [sv_get l1, sv_get l2, he]; simp
          have HN := Lib.hid (take_next HT.out l1 l2 he)
          clear he
          go_wp2_with fail
          go_quiet (fail)
          go_wp2_with fail
          go_roundw
          case rel => exact ⟨n + 1, by go_num, l1, l2, HN.out, below_drewN HB.out _⟩
          case measure => simp [RowKit.intOf]; omega
        · have e1 : ((((⟨a.toArray⟩ : ByteArray)[n]'(sv_lt l1)).toNat : Int) == (((⟨b.toArray⟩ : ByteArray)[n]'(sv_lt l2)).toNat : Int)) = false := by
            rw [sv_get l1, sv_get l2]
            rw [beq_eq_false_iff_ne]
            intro h
            exact he (UInt8.toNat_inj.1 (by omega))
          have HS := Lib.hid (shared_stop a b n HT.out h1 h2 (.inr (.inr (by rw [List.getElem?_eq_getElem l1, List.getElem?_eq_getElem l2]; intro h; exact he (Option.some.inj h)))))
          clear he
          go_wp2_with fail
          go_quiet (fail)
          go_wp2_with fail
          go_ret
          exact ⟨by rw [HS.out]; first | done | rfl, below_drewN HB.out _⟩
      · have l2' : ¬ (n : Int) < (b.length : Int) := by omega
        have HS := Lib.hid (shared_stop a b n HT.out h1 h2 (.inr (.inl (by omega))))
        go_wp2_with fail
        go_quiet (fail)
        go_wp2_with fail
        go_ret
        exact ⟨by rw [HS.out]; first | done | rfl, below_drewN HB.out _⟩
    · have l1' : ¬ (n : Int) < (a.length : Int) := by omega
      have HS := Lib.hid (shared_stop a b n HT.out h1 h2 (.inl (by omega)))
      go_wp2_with fail
      go_quiet (fail)
      go_wp2_with fail
      go_ret
      exact ⟨by rw [HS.out]; first | done | rfl, below_drewN HB.out _⟩

theorem str_cells (s : ByteArray) : Lib.strCells s = cellsOf s.data.toList := rfl
/-- append of a text's bytes -/
theorem append_str {w : World} {ops : Array Oper} {rest : List Oper} {o : Oper} {a : Act} {Q : Exit → Act → World → Prop} (hgd : o.guard = none) (sl x : Operand)
    (ho : o.op = .call { callee := .builtin .append, args := #[sl, x], argTypes := #[23, 9] })
    (base : Nat) (v : Value) (n : Nat) (xs : List UInt8) (hs : a.eval sl = v) (hown : w.ownsRow base 5 1 v n (cellsOf xs))
    (s : ByteArray) (l : List UInt8) (hl : s.data.toList = l) (hx : a.eval x = .string s) (hb : n + l.length ≤ 140737488355328) (hbase : base ≤ w.heap.size)
    (h : ∀ v' w', w'.ownsRow base 5 1 v' (n + l.length) (cellsOf (xs ++ l)) → w.grownBy w' v.ownBlock → wpList Try.prog ops Q rest (a.put o.dst v') w') : wpList Try.prog ops Q (o :: rest) a w := by
  obtain ⟨i0, hi, hz0, hz1, hz2⟩ := info_parts Try_info5
  have hsz : s.size = l.length := by rw [← hl]; exact (Array.length_toList (xs := s.data)).symm
  refine Lib.wpList_append_own_string w hgd sl x 23 9 ho base 5 i0 Try.underlying23 Try.underlying9 hi hz0 hz1 hz2 v n (cellsOf xs) hs hown s hx (by simp only [maxLen]; omega) (by omega) hbase ?_
  intro v' w' h1 h2 _
  rw [hsz, str_cells, hl, ← cellsOf_append] at h1
  exact h v' w' h1 h2
theorem sv_drop (k : Key) (n : Nat) : ((⟨k.toArray⟩ : ByteArray).extract n k.length).data.toList = k.drop n := by
  simp [ByteArray.data_extract]
  exact List.take_of_length_le (by simp)
theorem u8_cells (n m : Nat) (hn : n < 256) (hm : m < 256) : [Value.int .u8 (n : Int), .int .u8 (m : Int)] = cellsOf [UInt8.ofNat n, UInt8.ofNat m] := by
  simp only [cellsOf, List.map_cons, List.map_nil, toNat_u8 hn, toNat_u8 hm]
theorem ch_c0 {w : World} {g : Nat} {k v : List UInt8} {A : Option Addr} {c : Nat} {b : Bool} (h : Cs w g 52 #[.string ⟨k.toArray⟩, .slice A v.length c, .bool b]) : w.cell? ⟨g, 0, none⟩ = some (.string ⟨k.toArray⟩) := h.cell 0 rfl
theorem ch_c1 {w : World} {g : Nat} {k v : List UInt8} {A : Option Addr} {c : Nat} {b : Bool} (h : Cs w g 52 #[.string ⟨k.toArray⟩, .slice A v.length c, .bool b]) : w.cell? ⟨g, 1, none⟩ = some (.slice A v.length c) := h.cell 1 rfl
theorem ch_c2 {w : World} {g : Nat} {k v : List UInt8} {A : Option Addr} {c : Nat} {b : Bool} (h : Cs w g 52 #[.string ⟨k.toArray⟩, .slice A v.length c, .bool b]) : w.cell? ⟨g, 2, none⟩ = some (.bool b) := h.cell 2 rfl
theorem own_ne {w : World} {base n size g : Nat} {e t : TypeId} {v : Value} {xs : List Value} {cs : Array Value} (ho : w.ownsRow base e size v n xs) (hc : Cs w g t cs) (ht : t ≠ e) (he : v.ownBlock = some g) : False := by
  rcases ho.2 with ⟨rfl, _⟩ | ⟨g', cap', cur, rfl, _, hg', _⟩
  · cases he
  · cases he
    exact Cs.ne hc (show Cs w g' e cur from hg') ht rfl
theorem own_as {w : World} {B n : Nat} {v : Value} {xs l : List UInt8} (h : w.ownsRow B 5 1 v n (cellsOf xs)) (e : xs = l) (hn : n = l.length) : w.ownsRow B 5 1 v l.length (cellsOf l) := by
  subst e hn
  exact h
def chCells (x : Ch) (A : Option Addr) (c : Nat) : List Value := [.string ⟨x.1.toArray⟩, .slice A x.2.1.length c, .bool x.2.2]
theorem infoCh (x : Ch) (A : Option Addr) (c : Nat) : (Try.prog.info? 52).map (·.size) = some (chCells x A c).length := by kernel_rfl
set_option maxHeartbeats 4000000 in
theorem oneRef_any (last : Key) (x : Ch) (A : Option Addr) (c : Nat) (w : World) (hl : last.length ≤ 9223372036854775807) (hok : okC last x = true) (hr : Rd w A x.2.1) (hA : A = none → x.2.1 = [] ∧ c = 0) :
    Calls Try.prog 38 #[.string ⟨last.toArray⟩, .agg (chCells x A c).toArray] w fun e w' => OwnRet w.heap.size (oneP last x) w e w' := by
  obtain ⟨hs1, hs2, hs3⟩ := sizeC_le hok
  obtain ⟨⟨h1, h2, h3, h4⟩, h5⟩ := okC_iff.1 hok
  have hsh := shared_le last x.1
  have hshare := fun u => SharedRef_any last x.1 u hl (by omega)
  have hone : oneP last x = [UInt8.ofNat (sharedP last x.1), UInt8.ofNat (x.1.length - sharedP last x.1)] ++ x.1.drop (sharedP last x.1) ++ beL (sizeC x : Int) 2 ++ x.2.1 := rfl
  rw [hone]
  obtain ⟨k, v, g⟩ := x
  unfold chCells at *
  dsimp only at *
  clear hone hok hs3
  generalize hn : sharedP last k = n at *
  have HN := Lib.hid hn
  have HR := Lib.hid hr
  have HA := Lib.hid hA
  have b1 : (n : Int) ≤ 255 := by omega
  have b2 : (k.length : Int) ≤ 16 := by omega
  have b3 : (n : Int) ≤ (k.length : Int) := by omega
  have b4 : (v.length : Int) ≤ 8192 := by omega
  clear hn hr hA
  go_enter Try.func38, Try.ntmps38
  go_wp2_with (first
    | ((with_reducible show wpList _ _ _ _ _ w); refine wpList_boxS rfl 52 _ rfl [.string ⟨k.toArray⟩, .slice A v.length c, .bool g] rfl ?_; intro g3 w1 hk1 hb1 hg1; go_frame; have K1 := Lib.hid hk1; have B1 := Lib.hid hb1; have q0 := ch_c0 hk1; clear hk1 hb1 hg1))
  refine (hshare w1).mono ?_
  clear hshare q0
  rintro e w2 ⟨rfl, hb⟩
  have k2 := K1.out.below hb K1.out.lt
  have B2 := Lib.hid (below_chain B1.out hb)
  have q0 := ch_c0 k2
  have q0b := ch_c0 (k2.alloc (.cells #[.int .u8 (n : Int), .int .u8 ((k.length : Int) - (n : Int))] 5))
  have K2 := Lib.hid k2
  clear hb K1 B1
  have hu8 := u8_cells n (k.length - n) (by omega) (by omega)
  rw [show ((k.length - n : Nat) : Int) = (k.length : Int) - (n : Int) by omega] at hu8
  have HU := Lib.hid hu8
  clear hu8
  cases g
  · have hsz : (sizeC (k, v, false) : Int) = (v.length : Int) + 1 := by simp [sizeC]
    have HZ := Lib.hid hsz
    have hput := fun u => PutRef_ok ((v.length : Int) + 1) 2 rfl (by omega) (by omega) u (by simp [fitsB, lim]; omega)
    clear hsz hs1 hs2
    go_wp2_with (first
      | (at_builtin; go_loud (refine append_str rfl _ _ rfl w.heap.size (.slice (some ⟨w2.heap.size, 0, none⟩) 2 2) 2 [UInt8.ofNat n, UInt8.ofNat (k.length - n)] rfl (by rw [← HU.out]; exact World.ownsRow_lit w2 #[.int .u8 (n : Int), .int .u8 ((k.length : Int) - (n : Int))] 2 B2.out.size (by decide) rfl) _ (k.drop n) (sv_drop k n) rfl (by simp; omega) (by have := B2.out.size; simp; omega) ?_; intro v3 w3 ho3 hg3; go_frame; have O3 := Lib.hid ho3; have B3 := Lib.hid ((below_chain B2.out ((Below.refl w2.heap.size w2).alloc (Nat.le_refl _) _)).grown hg3 (by have := B2.out.size; simp; omega) (fun k e => by cases e; exact B2.out.size)); have k3 := (k2.alloc (.cells #[.int .u8 (n : Int), .int .u8 ((k.length : Int) - (n : Int))] 5)).turn (Turn.of_grown hg3) (fun e => by cases e; exact Nat.lt_irrefl _ k2.lt); have q1c := ch_c1 k3; have q2c := ch_c2 k3; have K3 := Lib.hid k3; clear ho3 hg3 k3)))
    refine (hput w3).mono ?_
    clear hput
    rintro e w4 ⟨g8, c8, rfl, hr8, hb8, hn8⟩
    have R8 := Lib.hid hr8
    have O4 := Lib.hid (ownsRow_turn' O3.out (Turn.of_below hb8 fun _ => False) fun _ _ h => h)
    have k4 := K3.out.below hb8 K3.out.lt
    have q1d := ch_c1 k4
    have B4 := Lib.hid (B3.out.trans (hb8.mono B3.out.size))
    have K4 := Lib.hid k4
    clear hr8 hb8 hn8 k4 q1c q2c O3 B3 K3 q0 q0b K2
    go_wp2_with (first
      | ((with_reducible show wpList _ _ _ _ _ w4); at_builtin; go_loud (refine append_rd rfl _ _ rfl w.heap.size v3 _ _ rfl O4.out (some ⟨g8, 0, none⟩) (beL ((v.length : Int) + 1) 2) 2 c8 rfl rfl R8.out (fun h => by cases h) (by simp; omega) B4.out.size ?_; intro v5 w5 ho5 hg5; go_frame; have O5 := Lib.hid ho5; have B5 := Lib.hid (B4.out.grown hg5 B4.out.size (own_base O4.out)); have k5 := K4.out.turn (Turn.of_grown hg5) (fun e => own_ne O4.out K4.out (by decide) e); have q1e := ch_c1 k5; clear ho5 hg5 k5))
      | ((with_reducible show wpList _ _ _ _ _ w5); at_builtin; go_loud (refine append_rd rfl _ _ rfl w.heap.size v5 _ _ rfl O5.out A v v.length c rfl rfl (HR.out.below B5.out) (fun h => by have := HA.out h; simpa using this) (by simp; omega) B5.out.size ?_; intro v6 w6 ho6 hg6; go_frame; have O6 := Lib.hid ho6; have B6 := Lib.hid (B5.out.grown hg6 B5.out.size (own_base O5.out)); clear ho6 hg6)))
    go_ret
    rw [HZ.out]
    exact ⟨_, rfl, own_as O6.out (by simp) (by simp [beL_length]; omega), B6.out⟩
  · obtain rfl : v = [] := h5 rfl
    have hsz : (sizeC (k, ([] : List UInt8), true) : Int) = 0 := by simp [sizeC]
    have HZ := Lib.hid hsz
    have hput := fun u => PutRef_ok 0 2 rfl (by decide) (by decide) u (by decide)
    clear hsz hs1 hs2
    go_wp2_with (first
      | (at_builtin; go_loud (refine append_str rfl _ _ rfl w.heap.size (.slice (some ⟨w2.heap.size, 0, none⟩) 2 2) 2 [UInt8.ofNat n, UInt8.ofNat (k.length - n)] rfl (by rw [← HU.out]; exact World.ownsRow_lit w2 #[.int .u8 (n : Int), .int .u8 ((k.length : Int) - (n : Int))] 2 B2.out.size (by decide) rfl) _ (k.drop n) (sv_drop k n) rfl (by simp; omega) (by have := B2.out.size; simp; omega) ?_; intro v3 w3 ho3 hg3; go_frame; have O3 := Lib.hid ho3; have B3 := Lib.hid ((below_chain B2.out ((Below.refl w2.heap.size w2).alloc (Nat.le_refl _) _)).grown hg3 (by have := B2.out.size; simp; omega) (fun k e => by cases e; exact B2.out.size)); have k3 := (k2.alloc (.cells #[.int .u8 (n : Int), .int .u8 ((k.length : Int) - (n : Int))] 5)).turn (Turn.of_grown hg3) (fun e => by cases e; exact Nat.lt_irrefl _ k2.lt); have q1c := ch_c1 k3; have q2c := ch_c2 k3; have K3 := Lib.hid k3; clear ho3 hg3 k3)))
    refine (hput w3).mono ?_
    clear hput
    rintro e w4 ⟨g8, c8, rfl, hr8, hb8, hn8⟩
    have R8 := Lib.hid hr8
    have O4 := Lib.hid (ownsRow_turn' O3.out (Turn.of_below hb8 fun _ => False) fun _ _ h => h)
    have k4 := K3.out.below hb8 K3.out.lt
    have q1d := ch_c1 k4
    have B4 := Lib.hid (B3.out.trans (hb8.mono B3.out.size))
    have K4 := Lib.hid k4
    clear hr8 hb8 hn8 k4 q1c q2c O3 B3 K3 q0 q0b K2
    go_wp2_with (first
      | ((with_reducible show wpList _ _ _ _ _ w4); at_builtin; go_loud (refine append_rd rfl _ _ rfl w.heap.size v3 _ _ rfl O4.out (some ⟨g8, 0, none⟩) (beL 0 2) 2 c8 rfl rfl R8.out (fun h => by cases h) (by simp; omega) B4.out.size ?_; intro v5 w5 ho5 hg5; go_frame; have O5 := Lib.hid ho5; have B5 := Lib.hid (B4.out.grown hg5 B4.out.size (own_base O4.out)); have k5 := K4.out.turn (Turn.of_grown hg5) (fun e => own_ne O4.out K4.out (by decide) e); have q1e := ch_c1 k5; clear ho5 hg5 k5))
      | ((with_reducible show wpList _ _ _ _ _ w5); at_builtin; go_loud (refine append_rd rfl _ _ rfl w.heap.size v5 _ _ rfl O5.out A [] 0 c rfl rfl (HR.out.below B5.out) (fun h => by have := HA.out h; simpa using this) (by simp; omega) B5.out.size ?_; intro v6 w6 ho6 hg6; go_frame; have O6 := Lib.hid ho6; have B6 := Lib.hid (B5.out.grown hg6 B5.out.size (own_base O5.out)); clear ho6 hg6)))
    go_ret
    rw [HZ.out]
    exact ⟨_, rfl, own_as O6.out (by simp) (by simp [beL_length]; omega), B6.out⟩

end Go.Proofs.Ytiemphfikfigdaa

/- The reference of layer 7: Put. -/
namespace Go.Proofs.Ytiemphfikfigdaa
open Go.RowKit Go.Shelf
set_option linter.unusedVariables false
set_option maxRecDepth 100000
set_option linter.unusedSimpArgs false

theorem putFrom_snoc : ∀ (t : List Ch) (last : Key) (x : Ch), putFrom last (t ++ [x]) = putFrom last t ++ oneP (endC last t) x
  | [], last, x => by simp [putFrom, endC]
  | y :: t, last, x => by simp only [List.cons_append, putFrom, putFrom_snoc t y.1 x, List.append_assoc, endC]
theorem put_take {t : List Ch} {k : Nat} (h : k < t.length) : putFrom [] (t.take (k + 1)) = putFrom [] (t.take k) ++ oneP (aheadC t k) t[k] := by
  rw [List.take_succ_eq_append_getElem h, putFrom_snoc]
  rfl
theorem one_most {last : Key} {x : Ch} (h : okC last x = true) : (oneP last x).length ≤ 8300 := by
  obtain ⟨⟨h1, h2, h3, h4⟩, h5⟩ := okC_iff.1 h
  unfold oneP
  simp [beL_length]
  omega
theorem put_most : ∀ (t : List Ch) (last : Key), mayCFrom last t = true → (putFrom last t).length ≤ 8300 * t.length
  | [], last, _ => by simp [putFrom]
  | x :: t, last, h => by
    simp only [mayCFrom, Bool.and_eq_true] at h
    have h1 := one_most h.1
    have h2 := put_most t x.1 h.2
    simp only [putFrom, List.length_append, List.length_cons]
    omega
theorem chg_rd {w : World} {F : Nat → Prop} {A : Option Addr} {ls : List Ch} (h : RdX chgE w F A ls) (j : Nat) (hj : j < ls.length) : ∃ b off A' c, A = some ⟨b, off, none⟩ ∧ At w b (off + j * 3) (chCells ls[j] A' c) ∧ RdF w F A' ls[j].2.1 ∧ (A' = none → ls[j].2.1 = [] ∧ c = 0) ∧ ls[j].2.1.length ≤ c ∧ c ≤ maxLen := by
  obtain ⟨b, off, cs, e, ⟨v, rfl, A', c, rfl, h1⟩, hat⟩ := h.get j hj
  exact ⟨b, off, A', c, e, hat, h1⟩
theorem mayC_ok {t : List Ch} (h : mayCP t = true) {k : Nat} (hk : k < t.length) : okC (aheadC t k) t[k] = true := by
  cases e : okC (aheadC t k) t[k]
  · rw [mayC_no hk e] at h; cases h
  · rfl
theorem ahead_len {t : List Ch} (h : mayCP t = true) {k : Nat} (hk : k ≤ t.length) : (aheadC t k).length ≤ 16 := by
  cases k with
  | zero => simp [aheadC_zero]
  | succ k =>
    rw [aheadC_succ (by omega)]
    exact okC_len (mayC_ok h (k := k) (by omega))
/-- what Put hands back -/
def PutCRet (t : List Ch) (w : World) (e : Ending) (w' : World) : Prop := Below w.heap.size w w' ∧
  if mayCP t then ∃ v, e = .returned (.tuple #[v, .int .i64 0]) ∧ w'.ownsRow w.heap.size 5 1 v (putFrom [] t).length (cellsOf (putFrom [] t))
  else e = .returned (.tuple #[.slice none 0 0, .int .i64 2])
set_option maxHeartbeats 4000000 in
theorem PutCRef_any (t : List Ch) (A : Option Addr) (c : Nat) (F : Nat → Prop) (w : World) (hs : SmallC t) (ht : t.length ≤ 100000) (hr : RdX chgE w F A t) :
    Calls Try.prog 11 #[.slice A t.length c] w fun e w' => PutCRet t w e w' := by
  have hmay := MayCRef_any t A c F w hs hr
  unfold PutCRet
  cases hm : mayCP t
  · rw [hm] at hmay
    simp only [Bool.false_eq_true, if_false]
    clear hm
    go_enter Try.func11, Try.ntmps11
    go_wp2_with fail
    refine hmay.mono ?_
    rintro e w1 ⟨rfl, hb⟩
    go_wp2_with fail
    go_ret2
    exact ⟨hb, rfl⟩
  · rw [hm] at hmay
    simp only [if_true]
    have HM := Lib.hid hm
    have HS := Lib.hid hs
    have HR := Lib.hid hr
    have hl' : (t.length : Int) ≤ 9223372036854775807 := by omega
    clear hm hs hr
    go_enter Try.func11, Try.ntmps11
    go_wp2_with fail
    refine hmay.mono ?_
    clear hmay
    rintro e w1 ⟨rfl, hb⟩
    have HB1 := Lib.hid hb
    clear hb
    go_wp2_with fail
    go_loopw [4, 5, 6] (fun bv kv i wr => ∃ k : Nat, k ≤ t.length ∧ i = .int .i64 (k : Int) ∧ kv = .string ⟨(aheadC t k).toArray⟩ ∧ wr.ownsRow w.heap.size 5 1 bv (putFrom [] (t.take k)).length (cellsOf (putFrom [] (t.take k))) ∧ Below w.heap.size w wr) (fun _ _ i _ => t.length - (intOf i).toNat)
    case atStart => exact ⟨0, Nat.zero_le _, rfl, rfl, World.ownsRow_nil _ _ _ _, HB1.out⟩
    case round =>
      obtain ⟨k, hk, rfl, rfl, ho, hb⟩ := hrel
      have HO := Lib.hid ho
      have HB := Lib.hid hb
      clear ho hb HB1
      by_cases hlt : k < t.length
      · have hlt' : (k : Int) < (t.length : Int) := by omega
        obtain ⟨b, off, A1, c1, rfl, hat, hr1, hn1, hx1, hx2⟩ := chg_rd HR.out k hlt
        have hone := fun u (hu : Rd u A1 t[k].2.1) => oneRef_any (aheadC t k) t[k] A1 c1 u (by have := ahead_len HM.out hk; omega) (mayC_ok HM.out hlt) hu hn1
        have hlen := one_most (mayC_ok HM.out hlt)
        have hall : (putFrom [] (t.take k)).length ≤ 8300 * k := by
          have := put_most (t.take k) [] (mayCFrom_take t [] k HM.out)
          rw [List.length_take] at this
          have : min k t.length = k := by omega
          omega
        have hq0 : w.cell? ⟨b, off + k * 3, none⟩ = some (.string ⟨t[k].1.toArray⟩) := hat 0 _ rfl
        have hatr : At wr b (off + k * 3) (chCells t[k] A1 c1) := fun j v hv => (HB.out.cell (lt_of_cell (hat j v hv))).trans (hat j v hv)
        have HNX := Lib.hid (show aheadC t (k + 1) = t[k].1 from aheadC_succ hlt)
        have HPT := Lib.hid (put_take hlt)
        have HAT := Lib.hid hatr
        have HRD := Lib.hid (hr1.rd.below HB.out)
        generalize oneP (aheadC t k) t[k] = one at *
        generalize aheadC t k = last at *
        generalize hx : t[k] = x at *
        have HONE := Lib.hid hone
        have HQ0 := Lib.hid hq0
        clear hat hatr hr1 hone hn1 hx hq0
        generalize putFrom [] (t.take k) = pre at *
        go_wp2_with (first
          | ((with_reducible show wpList _ _ _ _ _ wr); refine wpList_load_agg rfl 52 _ rfl b (off + k * 3) rfl (chCells x A1 c1) HAT.out _ Try.underlying52 rfl (infoCh x A1 c1) ?_; go_frame))
        refine (HONE.out wr HRD.out).mono ?_
        clear HONE
        rintro e w2 ⟨v2, rfl, ho2, hb2⟩
        have hsz := HB.out.size
        obtain ⟨A2, c2, rfl, hr2, hn2, hl2, hm2⟩ : ∃ A2 c2, v2 = .slice A2 one.length c2 ∧ Rd w2 A2 one ∧ (A2 = none → one = [] ∧ c2 = 0) ∧ one.length ≤ c2 ∧ c2 ≤ maxLen := by
          obtain ⟨A2, c2, h1, h2, h3, h4, h5⟩ := BsV.own (ho2)
          exact ⟨A2, c2, h1, h2.rd, h3, h4, h5⟩
        have O2 := Lib.hid (ownsRow_turn' HO.out (Turn.of_below hb2 fun _ => False) fun _ _ h => h)
        have R2 := Lib.hid hr2
        have N2 := Lib.hid hn2
        have B2 := Lib.hid (HB.out.trans (hb2.mono hsz))
        clear hr2 hn2 ho2 hb2
        go_wp2_with (first
          | ((with_reducible show wpList _ _ _ _ _ w2); at_builtin; go_loud (refine append_rd rfl _ _ rfl w.heap.size _ pre.length pre rfl O2.out A2 one one.length c2 rfl rfl R2.out N2.out (by omega) B2.out.size ?_; intro v5 w5 ho5 hg5; go_frame; have O5 := Lib.hid ho5; have B5 := Lib.hid (B2.out.grown hg5 B2.out.size (own_base O2.out)); have q5 : w5.cell? ⟨b, off + k * 3, none⟩ = some (.string ⟨x.1.toArray⟩) := (B5.out.cell (lt_of_cell HQ0.out)).trans HQ0.out; clear ho5 hg5)))
        go_roundw
        case rel => exact ⟨k + 1, hlt, by go_num, by rw [HNX.out], by rw [HPT.out]; exact own_as O5.out rfl (by simp), B5.out⟩
        case measure => simp [intOf]; omega
      · have e0 : t.take k = t := List.take_of_length_le (by omega)
        go_wp2_with fail
        go_ret2
        have ho := HO.out
        rw [e0] at ho
        exact ⟨HB.out, _, rfl, ho⟩

end Go.Proofs.Ytiemphfikfigdaa

/- The reference of layer 7: take, next. -/
namespace Go.Proofs.Ytiemphfikfigdaa
open Go.RowKit Go.Shelf
set_option linter.unusedVariables false
set_option maxRecDepth 100000
set_option linter.unusedSimpArgs false

theorem rd_off {w : World} {g o : Nat} {b : List UInt8} (h : Rd w (some ⟨g, o, none⟩) b) (n : Nat) : Rd w (some ⟨g, o + n, none⟩) (b.drop n) := by
  rcases h with h | ⟨g', o', e, hc⟩
  · left; rw [h]; simp
  · cases e
    refine .inr ⟨g, o + n, rfl, fun j hj => ?_⟩
    rw [List.length_drop] at hj
    have := hc (n + j) (by omega)
    rw [← Nat.add_assoc] at this
    rw [this, List.getElem_drop]
def TakeRet (b : List UInt8) (g o c n : Nat) (w : World) (e : Ending) (w' : World) : Prop := Below w.heap.size w w' ∧
  if b.length < n then e = .returned (.tuple #[.slice none 0 0, .slice none 0 0, .bool false])
  else ∃ o2 l2 c2, e = .returned (.tuple #[.slice (some ⟨g, o, none⟩) n c, .slice (some ⟨g, o2, none⟩) l2 c2, .bool true]) ∧ l2 = b.length - n ∧ c2 = c - n ∧ Rd w' (some ⟨g, o2, none⟩) (b.drop n)
theorem takeRef_any (b : List UInt8) (g o c n : Nat) (w : World) (hr : Rd w (some ⟨g, o, none⟩) b) (hlc : b.length ≤ c) (hc : c ≤ maxLen) (hn : n ≤ 1000000) :
    Calls Try.prog 58 #[.slice (some ⟨g, o, none⟩) b.length c, .int .i64 (n : Int)] w fun e w' => TakeRet b g o c n w e w' := by
  unfold TakeRet
  unfold maxLen at hc
  have h1 : (b.length : Int) ≤ 9223372036854775807 := by omega
  have h2 : (c : Int) ≤ 9223372036854775807 := by omega
  have h3 : (n : Int) ≤ 9223372036854775807 := by omega
  have HR := Lib.hid hr
  clear hr
  by_cases hlt : b.length < n
  · have hlt' : (b.length : Int) < (n : Int) := by omega
    go_enter Try.func58, Try.ntmps58
    go_wp2_with fail
    go_ret3
    exact ⟨Below.refl _ _, by first | rfl | rw [if_pos hlt]⟩
  · have hlt' : ¬ (b.length : Int) < (n : Int) := by omega
    by_cases hcn : c = n
    · subst hcn
      go_enter Try.func58, Try.ntmps58
      go_wp2_with fail
      go_quiet (fail)
      go_wp2_with fail
      go_ret3
      refine ⟨below_drewN (Below.refl _ _) _, ?_⟩
      try rw [if_neg hlt]
      exact ⟨o, _, _, by first | rfl | simp, by first | rfl | simp, by first | rfl | simp, .inl (List.drop_of_length_le hlc)⟩
    · have hcn' : ¬ (c : Int) = (n : Int) := by omega
      go_enter Try.func58, Try.ntmps58
      go_wp2_with fail
      go_quiet (fail)
      go_wp2_with fail
      go_ret3
      refine ⟨below_drewN (Below.refl _ _) _, ?_⟩
      try rw [if_neg hlt]
      exact ⟨o + n, _, _, by first | rfl | simp, by first | rfl | simp, by first | rfl | simp, (rd_off HR.out n).below (below_drewN (Below.refl _ _) _)⟩

end Go.Proofs.Ytiemphfikfigdaa

/- The reference of layer 7: next. -/
namespace Go.Proofs.Ytiemphfikfigdaa
open Go.RowKit Go.Shelf
set_option linter.unusedVariables false
set_option maxRecDepth 100000
set_option linter.unusedSimpArgs false

def chZero : List Value := [.string ⟨#[]⟩, .slice none 0 0, .bool false]
theorem zeroCh (w : World) : (zeroValue 52).run Try.prog w = .ok (.agg chZero.toArray) w := by kernel_rfl
theorem infoCh3 (a b c : Value) : (Try.prog.info? 52).map (·.size) = some [a, b, c].length := by kernel_rfl
theorem one3c {a b c : Value} (h1 : a.oneCell' = true) (h2 : b.oneCell' = true) (h3 : c.oneCell' = true) : ∀ v ∈ [a, b, c], v.oneCell' = true := by
  intro v hv
  simp at hv
  rcases hv with rfl | rfl | rfl <;> assumption
/-- the results, the first out of a variable of its own, two more -/
theorem results_agg_tmp2 {P : Program} {fn : Func} {p u v : Tmp} {ty : TypeId} (h : fn.results = #[.cell p ty, .tmp u, .tmp v]) (tmps : Array Value) (w : World) (b f : Nat) (cs : List Value) (hp : tmps.getD p undef = .pointer (some ⟨b, f, none⟩)) (hc : At w b f cs)
    (d : TypeDesc) (hu : P.underlying ty = some d) (hd : (match d with | .struct _ | .array _ _ => true | _ => false) = true) (hi : (P.info? ty).map (·.size) = some cs.length) :
    (results fn tmps).run P w = .ok (.tuple #[.agg cs.toArray, tmps.getD u undef, tmps.getD v undef]) w := by
  have hp' : tmps[p]?.getD undef = .pointer (some ⟨b, f, none⟩) := by simpa using hp
  simp [results, h, hp', asAddr, run_loadVar_at w ty b f cs hc d hu hd hi]
theorem own_one10 {w : World} {base n size : Nat} {e : TypeId} {v : Value} {xs : List Value} (h : w.ownsRow base e size v n xs) : v.oneCell' = true := by
  rcases h.2 with ⟨rfl, _⟩ | ⟨g, cap, cur, rfl, _⟩ <;> rfl
theorem ch_d0 {w : World} {g : Nat} {k : List UInt8} {v : Value} {b : Bool} (h : Cs w g 52 [.string ⟨k.toArray⟩, v, .bool b].toArray) : w.cell? ⟨g, 0, none⟩ = some (.string ⟨k.toArray⟩) := h.cell 0 rfl
theorem ch_d1 {w : World} {g : Nat} {k : List UInt8} {v : Value} {b : Bool} (h : Cs w g 52 [.string ⟨k.toArray⟩, v, .bool b].toArray) : w.cell? ⟨g, 1, none⟩ = some v := h.cell 1 rfl
theorem next_end {tmps : Array Value} {w : World} {g : Nat} {a b c x y : Value} (hc : Cs w g 52 [a, b, c].toArray) (hp : tmps.getD 4 undef = .pointer (some ⟨g, 0, none⟩)) (hx : tmps.getD 5 undef = x) (hy : tmps.getD 6 undef = y) : (results Try.f40 tmps).run Try.prog w = .ok (.tuple #[.agg #[a, b, c], x, y]) w := by
  rw [results_agg_tmp2 (p := 4) (u := 5) (v := 6) (ty := 52) rfl tmps w g 0 [a, b, c] hp (At.whole hc) _ Try.underlying52 rfl (by kernel_rfl), hx, hy]
/-- what next hands back -/
def NextRet (last : Key) (b : List UInt8) (g2 : Nat) (w : World) (e : Ending) (w' : World) : Prop := Below w.heap.size w w' ∧ match nextP last b with
  | .error er => e = .returned (.tuple #[.agg chZero.toArray, .slice none 0 0, .int .i64 er])
  | .ok (c, r) => ∃ v o2 c2, e = .returned (.tuple #[.agg #[.string ⟨c.1.toArray⟩, v, .bool c.2.2], .slice (some ⟨g2, o2, none⟩) r.length c2, .int .i64 0]) ∧ BsV w' (w.heap.size ≤ ·) v c.2.1 ∧ Rd w' (some ⟨g2, o2, none⟩) r ∧ r.length ≤ c2 ∧ c2 ≤ maxLen
theorem NextRet.err {last : Key} {b : List UInt8} {g2 : Nat} {w w' : World} {er : Int} (h : nextP last b = .error er) (hb : Below w.heap.size w w') : NextRet last b g2 w (.returned (.tuple #[.agg #[.string ⟨#[]⟩, .slice none 0 0, .bool false], .slice none 0 0, .int .i64 er])) w' := ⟨hb, by rw [h]; rfl⟩
theorem NextRet.has {last : Key} {b : List UInt8} {w w' : World} {k val r : List UInt8} {z : Bool} {v : Value} {g2 o2 c2 n2 : Nat} (h : nextP last b = .ok ((k, val, z), r)) (hb : Below w.heap.size w w') (hv : BsV w' (w.heap.size ≤ ·) v val) (hr : Rd w' (some ⟨g2, o2, none⟩) r) (hn : n2 = r.length) (h1 : n2 ≤ c2) (h2 : c2 ≤ maxLen) :
    NextRet last b g2 w (.returned (.tuple #[.agg #[.string ⟨k.toArray⟩, v, .bool z], .slice (some ⟨g2, o2, none⟩) n2 c2, .int .i64 0])) w' := by
  subst hn
  exact ⟨hb, by rw [h]; exact ⟨v, o2, c2, rfl, hv, hr, h1, h2⟩⟩
theorem next_e1 {last : Key} {s : UInt8} {b : List UInt8} (h : last.length < s.toNat) : nextP last (s :: b) = .error 5 := by simp only [nextP]; rw [if_pos h]
theorem next_e2 {last : Key} {s : UInt8} (h : ¬ last.length < s.toNat) : nextP last [s] = .error 4 := by simp only [nextP]; rw [if_neg h]
theorem next_e3 {last : Key} {s m : UInt8} {b : List UInt8} (h : ¬ last.length < s.toNat) (h2 : b.length < m.toNat) : nextP last (s :: m :: b) = .error 4 := by simp only [nextP]; rw [if_neg h, if_pos h2]
theorem next_e4 {last : Key} {s m : UInt8} {b : List UInt8} (h : ¬ last.length < s.toNat) (h2 : ¬ b.length < m.toNat) (h3 : (b.drop m.toNat).length < 2) : nextP last (s :: m :: b) = .error 4 := by simp only [nextP]; rw [if_neg h, if_neg h2, if_pos h3]
theorem next_rest {last : Key} {s m x y : UInt8} {b r : List UInt8} (h : ¬ last.length < s.toNat) (h2 : ¬ b.length < m.toNat) (h3 : b.drop m.toNat = x :: y :: r) : nextP last (s :: m :: b) =
    if r.length < 256 * x.toNat + y.toNat - 1 then .error 4 else
    if !fitsK last (last.take s.toNat ++ b.take m.toNat) (r.take (256 * x.toNat + y.toNat - 1)) || decide (s.toNat < sharedP last (last.take s.toNat ++ b.take m.toNat)) then .error 5 else .ok ((last.take s.toNat ++ b.take m.toNat, r.take (256 * x.toNat + y.toNat - 1), decide (256 * x.toNat + y.toNat = 0)), r.drop (256 * x.toNat + y.toNat - 1)) := by
  simp only [nextP]
  rw [if_neg h, if_neg h2, if_neg (by rw [h3]; simp), h3]
  rfl
theorem sv_take (k : Key) (n : Nat) : (⟨k.toArray⟩ : ByteArray).extract 0 n = ⟨(k.take n).toArray⟩ := by
  apply ByteArray.ext
  simp [ByteArray.data_extract]
theorem sv_add (a b : Key) : (⟨a.toArray⟩ : ByteArray) ++ ⟨b.toArray⟩ = ⟨(a ++ b).toArray⟩ := by
  apply ByteArray.ext
  simp [ByteArray.data_append]
set_option maxHeartbeats 1500000 in
theorem nextRef_any (last : Key) (s : UInt8) (b1 : List UInt8) (g o c : Nat) (w : World) (hl : last.length ≤ 1000000) (hr : Rd w (some ⟨g, o, none⟩) (s :: b1)) (hlc : b1.length + 1 ≤ c) (hc : c ≤ maxLen) :
    Calls Try.prog 40 #[.string ⟨last.toArray⟩, .slice (some ⟨g, o, none⟩) (b1.length + 1) c] w fun e w' => NextRet last (s :: b1) g w e w' := by
  have hmix : Try.prog.follows .mixedOrders = true := by kernel_rfl
  have hl' : (last.length : Int) ≤ 1000000 := by omega
  have HC := Lib.hid hc
  unfold maxLen at hc
  have hc' : (c : Int) ≤ 9223372036854775807 := by omega
  have s0 := s.toNat_lt
  have s1 : (s.toNat : Int) ≤ 255 := by omega
  have c0 : w.cell? ⟨g, o, none⟩ = some (.int .u8 (s.toNat : Int)) := by
    obtain ⟨g', o', e, hx⟩ := rd_at hr 0 (by simp)
    cases e
    simpa using hx
  have HR := Lib.hid hr
  have R1 := Lib.hid (show Rd w (some ⟨g, o + 1, none⟩) b1 from rd_off hr 1)
  clear hr
  have start : ∀ (g4 : Nat) (w1 : World), Below w.heap.size w w1 → w1.cell? ⟨g, o, none⟩ = some (.int .u8 (s.toNat : Int)) := fun _ w1 hb => (hb.cell (lt_of_cell c0)).trans c0
  have ST := Lib.hid start
  clear start
  go_enter Try.func40, Try.ntmps40
  by_cases hs : last.length < s.toNat
  · have hs' : (last.length : Int) < (s.toNat : Int) := by omega
    go_wp2_with (first
      | ((with_reducible show wpList _ _ _ _ _ w); refine wpList_allocS rfl 52 rfl _ zeroCh ?_; intro g4 w1 hk hb hg; go_frame; have K1 := Lib.hid hk; have B1 := Lib.hid hb; have G4 := Lib.hid hg; have q1 := ST.out g4 w1 hb; clear hk hb hg)
      | ((with_reducible show wpList _ _ _ _ _ w1); refine wpList_storeS rfl 52 _ _ rfl g4 rfl chZero _ rfl K1.out rfl (one3c rfl rfl rfl) (infoCh3 _ _ _) ?_; intro x15 hk ht; go_frame; have K15 := Lib.hid hk; have T15 := Lib.hid ht; clear hk ht))
    exact bodyPost_ret (next_end K15.out rfl rfl rfl) rfl (NextRet.err (next_e1 hs) (below_turn B1.out T15.out B1.out.size G4.out))
  · have hs' : ¬ (last.length : Int) < (s.toNat : Int) := by omega
    by_cases hc1 : c = 1
    · obtain rfl : b1 = [] := List.eq_nil_of_length_eq_zero (by omega)
      subst hc1
      go_wp2_with (first
        | ((with_reducible show wpList _ _ _ _ _ w); refine wpList_allocS rfl 52 rfl _ zeroCh ?_; intro g4 w1 hk hb hg; go_frame; have K1 := Lib.hid hk; have B1 := Lib.hid hb; have G4 := Lib.hid hg; have q1 := ST.out g4 w1 hb; clear hk hb hg))
      refine (takeRef_any [] g o 0 1 w1 (.inl rfl) (Nat.le_refl _) (Nat.zero_le _) (by decide)).mono ?_
      rintro e u2 ⟨hb, hif⟩
      obtain rfl : e = .returned (.tuple #[.slice none 0 0, .slice none 0 0, .bool false]) := hif
      have K2 := Lib.hid (K1.out.below hb K1.out.lt)
      have B2 := Lib.hid (below_chain B1.out hb)
      clear hb
      go_wp2_with (first | ((with_reducible show wpList _ _ _ _ _ u2); refine wpList_storeS rfl 52 _ _ rfl g4 rfl chZero _ rfl K2.out rfl (one3c rfl rfl rfl) (infoCh3 _ _ _) ?_; intro x15 hk ht; go_frame; have K15 := Lib.hid hk; have T15 := Lib.hid ht; clear hk ht))
      exact bodyPost_ret (next_end K15.out rfl rfl rfl) rfl (NextRet.err (next_e2 hs) (below_turn B2.out T15.out (B2.out).size G4.out))
    · have hc1' : ¬ (c : Int) = 1 := by omega
      go_wp2_with (first
        | ((with_reducible show wpList _ _ _ _ _ w); refine wpList_allocS rfl 52 rfl _ zeroCh ?_; intro g4 w1 hk hb hg; go_frame; have K1 := Lib.hid hk; have B1 := Lib.hid hb; have G4 := Lib.hid hg; have q1 := ST.out g4 w1 hb; clear hk hb hg))
      refine (takeRef_any b1 g (o + 1) (c - 1) 1 w1 (R1.out.below B1.out) (by omega) (by unfold maxLen; omega) (by decide)).mono ?_
      rintro e u2 ⟨hb, hif⟩
      have K2 := Lib.hid (K1.out.below hb K1.out.lt)
      have B2 := Lib.hid (below_chain B1.out hb)
      clear hb q1
      rcases b1 with _ | ⟨m, b2⟩
      · obtain rfl : e = .returned (.tuple #[.slice none 0 0, .slice none 0 0, .bool false]) := hif
        go_wp2_with (first | ((with_reducible show wpList _ _ _ _ _ u2); refine wpList_storeS rfl 52 _ _ rfl g4 rfl chZero _ rfl K2.out rfl (one3c rfl rfl rfl) (infoCh3 _ _ _) ?_; intro x15 hk ht; go_frame; have K15 := Lib.hid hk; have T15 := Lib.hid ht; clear hk ht))
        exact bodyPost_ret (next_end K15.out rfl rfl rfl) rfl (NextRet.err (next_e2 hs) (below_turn B2.out T15.out (B2.out).size G4.out))
      · rw [if_neg (by simp)] at hif
        obtain ⟨o2, l2, c2, rfl, hl2, hc2, hr2⟩ := hif
        obtain rfl : l2 = b2.length := by simpa using hl2
        have m0 := m.toNat_lt
        have m1 : (m.toNat : Int) ≤ 255 := by omega
        have q2 : u2.cell? ⟨g, o + 1, none⟩ = some (.int .u8 (m.toNat : Int)) := by
          obtain ⟨g', o', e, hx⟩ := rd_at (R1.out.below B2.out) 0 (by simp)
          cases e
          simpa using hx
        simp only [List.length_cons] at hlc
        have hc2' : b2.length ≤ c2 ∧ c2 ≤ 9223372036854775807 := by omega
        have R2 := Lib.hid (show Rd u2 (some ⟨g, o2, none⟩) b2 from hr2)
        clear hr2 hl2 hc2
        go_wp2_with fail
        refine (takeRef_any b2 g o2 c2 m.toNat u2 R2.out hc2'.1 (by unfold maxLen; omega) (by omega)).mono ?_
        rintro e u3 ⟨hb, hif⟩
        have K3 := Lib.hid (K2.out.below hb K2.out.lt)
        have B3 := Lib.hid (below_chain B2.out hb)
        have R3 := Lib.hid (R2.out.below hb)
        clear hb q2
        by_cases h2 : b2.length < m.toNat
        · rw [if_pos h2] at hif
          subst hif
          go_wp2_with (first | ((with_reducible show wpList _ _ _ _ _ u3); refine wpList_storeS rfl 52 _ _ rfl g4 rfl chZero _ rfl K3.out rfl (one3c rfl rfl rfl) (infoCh3 _ _ _) ?_; intro x15 hk ht; go_frame; have K15 := Lib.hid hk; have T15 := Lib.hid ht; clear hk ht))
          exact bodyPost_ret (next_end K15.out rfl rfl rfl) rfl (NextRet.err (next_e3 hs h2) (below_turn B3.out T15.out (B3.out).size G4.out))
        · rw [if_neg h2] at hif
          obtain ⟨o3, l3, c3, rfl, hl3, hc3, hr3⟩ := hif
          have hpl : (b2.take m.toNat).length = m.toNat := by rw [List.length_take]; omega
          have hcv := fun u (hu : Rd u (some ⟨g, o2, none⟩) (b2.take m.toNat)) => conv_rd hu c2
          rw [hpl] at hcv
          have HCV := Lib.hid hcv
          have RP := Lib.hid (rd_take R3.out m.toNat)
          have R4 := Lib.hid hr3
          have HD3 := Lib.hid (show (b2.drop m.toNat).length = l3 by rw [List.length_drop, hl3])
          have hl3' : l3 ≤ c3 ∧ c3 ≤ 9223372036854775807 := by omega
          clear hl3 hc3
          have ha : ((last.take s.toNat).length : Int) ≤ 255 ∧ ((b2.take m.toNat).length : Int) ≤ 255 := by rw [hpl, List.length_take]; omega
          have hsv := sv_take last s.toNat
          have hsa := sv_add (last.take s.toNat) (b2.take m.toNat)
          have HAB := Lib.hid (show (⟨(last.take s.toNat).toArray⟩ : ByteArray).size + (⟨(b2.take m.toNat).toArray⟩ : ByteArray).size ≤ 9223372036854775807 by rw [ba_size, ba_size]; omega)
          have HKL := Lib.hid (show (last.take s.toNat ++ b2.take m.toNat).length ≤ 1000000 by rw [List.length_append]; omega)
          have HSV := Lib.hid hsv
          have HSA := Lib.hid hsa
          have SZ1 := Lib.hid (show (⟨last.toArray⟩ : ByteArray).size = last.length from ba_size _)
          have HPL := Lib.hid hpl
          clear hcv hr3 hpl ha hsv hsa
          obtain ⟨key, hkey⟩ : ∃ key, last.take s.toNat ++ b2.take m.toNat = key := ⟨_, rfl⟩
          rw [hkey] at HSA HKL
          obtain ⟨b3, hb3⟩ : ∃ b3, b2.drop m.toNat = b3 := ⟨_, rfl⟩
          rw [hb3] at HD3 R4
          have HB3 := Lib.hid hb3
          clear hb3
          have hd := HD3.out
          subst hd
          clear HD3
          have HKEY := Lib.hid hkey
          clear hkey
          go_wp2_with fail
          refine wp_region_V [8] (Below u3.heap.size u3) hmix ((Below.refl _ _).drew) ?_
          change wpAnyV _ _ _ _ _ _ _ _ _
          refine wpAnyV_take (i := 0) (v := .string ⟨last.toArray⟩) 8 (kept_below u3) rfl (by kernel_rfl) (by kernel_rfl) (fun _ _ _ h => h) (fun _ h => h) (DoesV.reads (by rfl) fun w9 hS => by go_simp) ?_
          try simp only [List.getElem_toArray, List.getElem_cons_succ, List.getElem_cons_zero, Act.put, List.setIfInBounds_toArray, List.set_cons_succ, List.set_cons_zero]
          refine wpAnyV_take (i := 1) (v := .int .i64 (s.toNat : Int)) 8 (kept_below u3) rfl (by kernel_rfl) (by kernel_rfl) (fun _ _ _ h => h) (fun _ h => h) (DoesV.reads (by rfl) fun w9 hS => by go_simp) ?_
          try simp only [List.getElem_toArray, List.getElem_cons_succ, List.getElem_cons_zero, Act.put, List.setIfInBounds_toArray, List.set_cons_succ, List.set_cons_zero]
          refine wpAnyV_take (i := 2) (v := .string ⟨(last.take s.toNat).toArray⟩) 8 (kept_below u3) rfl (by kernel_rfl) (by kernel_rfl) (fun _ _ _ h => h) (fun _ h => h) (DoesV.reads (by rfl) fun w9 hS => by have h9 := HSV.out; have h8 := SZ1.out; go_simp) ?_
          try simp only [List.getElem_toArray, List.getElem_cons_succ, List.getElem_cons_zero, Act.put, List.setIfInBounds_toArray, List.set_cons_succ, List.set_cons_zero]
          refine wpAnyV_take (i := 3) (v := .slice (some ⟨g, o2, none⟩) m.toNat c2) 8 (kept_below u3) rfl (by kernel_rfl) (by kernel_rfl) (fun _ _ _ h => h) (fun _ h => h) (DoesV.reads (by rfl) fun w9 hS => by go_simp) ?_
          try simp only [List.getElem_toArray, List.getElem_cons_succ, List.getElem_cons_zero, Act.put, List.setIfInBounds_toArray, List.set_cons_succ, List.set_cons_zero]
          refine wpAnyV_take (i := 4) (v := .string ⟨(b2.take m.toNat).toArray⟩) 8 (kept_below u3) rfl (by kernel_rfl) (by kernel_rfl) (fun _ _ _ h => h) (fun _ h => h) (DoesV.reads (by rfl) fun w9 hS => by have h9 := HCV.out w9 (RP.out.below hS); go_simp) ?_
          try simp only [List.getElem_toArray, List.getElem_cons_succ, List.getElem_cons_zero, Act.put, List.setIfInBounds_toArray, List.set_cons_succ, List.set_cons_zero]
          refine wpAnyV_take (i := 5) (v := .string ⟨key.toArray⟩) 8 (kept_below u3) rfl (by kernel_rfl) (by kernel_rfl) (fun _ _ _ h => h) (fun _ h => h) (DoesV.reads (by rfl) fun w9 hS => by have h9 : (Op.stringOp .add (⟨(last.take s.toNat).toArray⟩ : ByteArray) ⟨(b2.take m.toNat).toArray⟩).run Try.prog w9 = .ok (.string ⟨key.toArray⟩) w9 := (run_string_add_sum _ _ _ HAB.out).trans (by rw [HSA.out]); go_simp) ?_
          try simp only [List.getElem_toArray, List.getElem_cons_succ, List.getElem_cons_zero, Act.put, List.setIfInBounds_toArray, List.set_cons_succ, List.set_cons_zero]
          refine wpAnyV_take (i := 6) (v := .agg #[.string ⟨key.toArray⟩, .slice none 0 0, .bool false]) 8 (kept_below u3) rfl (by kernel_rfl) (by kernel_rfl) (fun _ _ _ h => h) (fun _ h => h) (DoesV.reads (by rfl) fun w9 hS => by go_simp) ?_
          try simp only [List.getElem_toArray, List.getElem_cons_succ, List.getElem_cons_zero, Act.put, List.setIfInBounds_toArray, List.set_cons_succ, List.set_cons_zero]
          refine wpAnyV_only (i := 7) rfl (by kernel_rfl) rfl (fun u hS => wp_allocS 52 rfl _ zeroCh fun g10 u' hk hb hg => ⟨fun y => Below u3.heap.size u3 y ∧ Cs y g10 52 chZero.toArray, ⟨below_chain hS hb, hk⟩, kept_and (kept_below u3) (kept_cs _ _ _), fun _ u h => h.1, ?_⟩)
          try simp only [List.getElem_toArray, List.getElem_cons_succ, List.getElem_cons_zero, Act.put, List.setIfInBounds_toArray, List.set_cons_succ, List.set_cons_zero]
          have hge : u3.heap.size ≤ g10 := Nat.le_trans hS.size hg
          refine wpAnyV_only (i := 8) rfl (by kernel_rfl) rfl (fun u hS => wp_storeW 52 _ _ rfl g10 rfl [.string ⟨key.toArray⟩, .slice none 0 0, .bool false] chZero rfl hS.2 rfl (one3c rfl rfl rfl) (infoCh3 _ _ _) fun u' hk ht => ⟨fun y => Below u3.heap.size u3 y ∧ Cs y g10 52 [.string ⟨key.toArray⟩, .slice none 0 0, .bool false].toArray, ⟨below_turn hS.1 ht hS.1.size hge, hk⟩, kept_and (kept_below u3) (kept_cs _ _ _), fun h => absurd (by simp) h, ?_⟩)
          try simp only [List.getElem_toArray, List.getElem_cons_succ, List.getElem_cons_zero, Act.put, List.setIfInBounds_toArray, List.set_cons_succ, List.set_cons_zero]
          refine wpAnyV_done (by kernel_rfl) (fun u5 hu => ?_) _
          have K5 := Lib.hid (K3.out.below hu.1 K3.out.lt)
          have C5 := Lib.hid hu.2
          have B5 := Lib.hid (below_chain B3.out hu.1)
          have R5 := Lib.hid (R4.out.below hu.1)
          have NE := Lib.hid (show g4 ≠ g10 from fun e => by have := K3.out.lt; omega)
          have NG4 := Lib.hid (show ¬ g = g4 from fun e => by have := lt_of_cell c0; have : g < w.heap.size := this; have := G4.out; omega)
          have NGG := Lib.hid (show ¬ g = g10 from fun e => by have := lt_of_cell c0; have : g < w.heap.size := this; have := B3.out.size; omega)
          have NG := Lib.hid (show w.heap.size ≤ g10 from Nat.le_trans B3.out.size hge)
          clear hu K3 B3 R4 R3 RP HCV HAB HSV HSA SZ1 K2 B2 R2
          go_wp2_with fail
          refine (takeRef_any b3 g o3 c3 2 u5 R5.out hl3'.1 (by unfold maxLen; omega) (by decide)).mono ?_
          rintro e u6 ⟨hb, hif⟩
          have K6 := Lib.hid (K5.out.below hb K5.out.lt)
          have C6 := Lib.hid (C5.out.below hb C5.out.lt)
          have B6 := Lib.hid (below_chain B5.out hb)
          have R6 := Lib.hid (R5.out.below hb)
          clear hb K5 C5 B5 R5
          by_cases h3 : b3.length < 2
          · rw [if_pos h3] at hif
            subst hif
            go_wp2_with (first | ((with_reducible show wpList _ _ _ _ _ u6); refine wpList_storeS rfl 52 _ _ rfl g4 rfl chZero _ rfl K6.out rfl (one3c rfl rfl rfl) (infoCh3 _ _ _) ?_; intro x15 hk ht; go_frame; have K15 := Lib.hid hk; have T15 := Lib.hid ht; clear hk ht))
            exact bodyPost_ret (next_end K15.out rfl rfl rfl) rfl (NextRet.err (next_e4 hs h2 (by rw [HB3.out]; exact h3)) (below_turn B6.out T15.out (B6.out).size G4.out))
          · rw [if_neg h3] at hif
            obtain ⟨o4, l4, c4, rfl, hl4, hc4, hr4⟩ := hif
            obtain ⟨x, y, r, rfl⟩ : ∃ x y r, b3 = x :: y :: r := by
              match b3, h3 with
              | [], h3 => simp at h3
              | [x], h3 => simp at h3
              | x :: y :: r, _ => exact ⟨x, y, r, rfl⟩
            obtain rfl : l4 = r.length := by simpa using hl4
            have HNR := Lib.hid (next_rest hs h2 HB3.out)
            simp only [List.length_cons] at hl3'
            have hc4' : r.length ≤ c4 ∧ c4 ≤ 9223372036854775807 := by omega
            have RR := Lib.hid (show Rd u6 (some ⟨g, o4, none⟩) r from hr4)
            have x0 := x.toNat_lt
            have y0 := y.toNat_lt
            have x1 : (x.toNat : Int) ≤ 255 := by omega
            have y1 : (y.toNat : Int) ≤ 255 := by omega
            have q5 : u6.cell? ⟨g, o3, none⟩ = some (.int .u8 (x.toNat : Int)) := by
              obtain ⟨g', o', e, hx⟩ := rd_at R6.out 0 (by simp)
              cases e
              simpa using hx
            have q6 : u6.cell? ⟨g, o3 + 1, none⟩ = some (.int .u8 (y.toNat : Int)) := by
              obtain ⟨g', o', e, hx⟩ := rd_at R6.out 1 (by simp)
              cases e
              simpa using hx
            rw [HKEY.out] at HNR
            obtain ⟨sz, hsz⟩ : ∃ sz, 256 * x.toNat + y.toNat = sz := ⟨_, rfl⟩
            rw [hsz] at HNR
            have hszi : 256 * (x.toNat : Int) + (y.toNat : Int) = (sz : Int) := by omega
            have hszb : sz ≤ 65535 := by omega
            clear hr4 hl4 hc4 hsz R6 h3 HB3
            rcases sz with _ | n1
            · skip
              have e0 : ((256 * (x.toNat : Int) + (y.toNat : Int)) == 0) = true := by rw [hszi]; rfl
              go_wp2_with fail
              go_quiet (fail)
              have K7 := Lib.hid (K6.out.below (below_drewN (Below.refl _ _) nq) K6.out.lt)
              have C7 := Lib.hid (C6.out.below (below_drewN (Below.refl _ _) nq) C6.out.lt)
              have B7 := Lib.hid (below_drewN B6.out nq)
              have R7 := Lib.hid (RR.out.below (below_drewN (Below.refl _ _) nq))
              clear q5 q6 K6 C6 B6 RR
              generalize u6.drewN nq = u7 at *
              have e1 : (((0 : Nat) : Int) == 0) = true := by simp
              go_wp2_with (first | ((with_reducible show wpList _ _ _ _ _ u7); refine wpList_store1 rfl 4 _ _ rfl g10 2 rfl (.bool true) rfl rfl (by kernel_rfl) 52 _ C7.out (by simp) ?_; intro u8 hk ht; go_frame; have C8 := Lib.hid hk; have T8 := Lib.hid ht; clear hk ht))
              have B8 := Lib.hid (below_turn B7.out T8.out B7.out.size NG.out)
              have K8 := Lib.hid (K7.out.turn T8.out NE.out)
              have R8 := Lib.hid (show Rd u8 (some ⟨g, o4, none⟩) r from R7.out.turn T8.out fun a e => by cases e; exact NGG.out)
              clear K7 C7 B7 R7 T8
              refine (takeRef_any r g o4 c4 0 u8 R8.out hc4'.1 (by unfold maxLen; omega) (by omega)).mono ?_
              rintro e u9 ⟨hb, hif⟩
              have K9 := Lib.hid (K8.out.below hb K8.out.lt)
              have C9 := Lib.hid (C8.out.below hb C8.out.lt)
              have B9 := Lib.hid (below_chain B8.out hb)
              have R9 := Lib.hid (R8.out.below hb)
              clear hb K8 C8 B8 R8
              by_cases h5 : r.length < 0
              · rw [if_pos h5] at hif
                subst hif
                have HN := Lib.hid (HNR.out.trans (if_pos h5))
                go_wp2_with (first | ((with_reducible show wpList _ _ _ _ _ u9); refine wpList_storeS rfl 52 _ _ rfl g4 rfl chZero _ rfl K9.out rfl (one3c rfl rfl rfl) (infoCh3 _ _ _) ?_; intro x15 hk ht; go_frame; have K15 := Lib.hid hk; have T15 := Lib.hid ht; clear hk ht))
                exact bodyPost_ret (next_end K15.out rfl rfl rfl) rfl (NextRet.err HN.out (below_turn B9.out T15.out (B9.out).size G4.out))
              · rw [if_neg h5] at hif
                obtain ⟨o6, l6, c6, rfl, hl6, hc6, hr6⟩ := hif
                have HN := Lib.hid (HNR.out.trans (if_neg h5))
                obtain ⟨val, hval⟩ : ∃ val, r.take 0 = val := ⟨_, rfl⟩
                have hvl : val.length = 0 := by rw [← hval, List.length_take]; omega
                have RV := Lib.hid (show Rd u9 (some ⟨g, o4, none⟩) val from hval ▸ rd_take R9.out 0)
                simp only [Nat.add_sub_cancel, Nat.zero_sub, hval] at HN
                have R10 := Lib.hid hr6
                have HL6 := Lib.hid hl6
                have hc6' : l6 ≤ c6 ∧ c6 ≤ 9223372036854775807 := by omega
                have hcp := Copy_any val (some ⟨g, o4, none⟩) c4 u9 (by omega) RV.out (fun h => by cases h)
                rw [hvl] at hcp
                have HVL := Lib.hid hvl
                clear hr6 hl6 hc6 hval hvl R9 HNR
                go_wp2_with fail
                refine hcp.mono ?_
                clear hcp
                rintro e u10 ⟨v10, rfl, ho, hb⟩
                have hone := own_one10 ho
                have hbv := BsV.own ho
                obtain ⟨A10, c10, hv10, -⟩ := id hbv
                subst hv10
                have O10 := Lib.hid hbv
                have K10 := Lib.hid (K9.out.below hb K9.out.lt)
                have C10 := Lib.hid (C9.out.below hb C9.out.lt)
                have B10 := Lib.hid (below_chain B9.out hb)
                have R11 := Lib.hid (R10.out.below hb)
                have HBV := Lib.hid (show w.heap.size ≤ u9.heap.size from B9.out.size)
                have HG9 := Lib.hid C9.out.lt
                have H49 := Lib.hid K9.out.lt
                clear hb ho hbv K9 C9 B9 R10 RV
                go_wp2_with (first | ((with_reducible show wpList _ _ _ _ _ u10); refine wpList_store1 rfl 23 _ _ rfl g10 1 rfl (.slice A10 val.length c10) rfl hone (by kernel_rfl) 52 _ C10.out (by simp) ?_; intro u11 hk ht; go_frame; have C11 := Lib.hid (show Cs u11 g10 52 [.string ⟨key.toArray⟩, .slice A10 val.length c10, .bool true].toArray by simpa using hk); have T11 := Lib.hid ht; have q7 := ch_d0 C11.out; have q8 := ch_d1 C11.out; clear hk ht))
                have B11 := Lib.hid (below_turn B10.out T11.out B10.out.size NG.out)
                have K11 := Lib.hid (K10.out.turn T11.out NE.out)
                have R12 := Lib.hid (R11.out.turn T11.out fun a e => by cases e; exact NGG.out)
                have O11 := Lib.hid (O10.out.turn T11.out fun k hk e => by have := HG9.out; omega)
                clear K10 C10 B10 R11 T11 O10
                have hkl := HKL.out
                have hvl2 := HVL.out
                have hfit := fitB_any last key val A10 c10 u11 (by omega) (by omega)
                cases hF : fitsK last key val
                · rw [hF] at hfit
                  have HN5 := Lib.hid (HN.out.trans (if_pos (by rw [hF]; rfl)))
                  clear hF HN
                  refine hfit.mono ?_
                  clear hfit
                  rintro e _ ⟨rfl, rfl⟩
                  go_wp2_with (first | ((with_reducible show wpList _ _ _ _ _ u11); refine wpList_storeS rfl 52 _ _ rfl g4 rfl chZero _ rfl K11.out rfl (one3c rfl rfl rfl) (infoCh3 _ _ _) ?_; intro x15 hk ht; go_frame; have K15 := Lib.hid hk; have T15 := Lib.hid ht; clear hk ht))
                  exact bodyPost_ret (next_end K15.out rfl rfl rfl) rfl (NextRet.err HN5.out (below_turn B11.out T15.out (B11.out).size G4.out))
                · rw [hF] at hfit
                  have hsh := SharedRef_any last key u11 (by omega) (by omega)
                  have HF := Lib.hid hF
                  clear hF
                  refine hfit.mono ?_
                  clear hfit
                  rintro e _ ⟨rfl, rfl⟩
                  go_wp2_with fail
                  refine hsh.mono ?_
                  clear hsh
                  rintro e u12 ⟨rfl, hb⟩
                  have K12 := Lib.hid (K11.out.below hb K11.out.lt)
                  have C12 := Lib.hid (C11.out.below hb C11.out.lt)
                  have B12 := Lib.hid (below_chain B11.out hb)
                  have R13 := Lib.hid (R12.out.below hb)
                  have O12 := Lib.hid (O11.out.below hb)
                  clear hb K11 C11 B11 R12 O11 q7 q8
                  obtain ⟨sh, hsh⟩ : ∃ sh, sharedP last key = sh := ⟨_, rfl⟩
                  have hsle := (shared_le last key).1
                  rw [hsh] at HN hsle ⊢
                  have HSH := Lib.hid hsh
                  clear hsh
                  by_cases hS : s.toNat < sh
                  · have hS' : (s.toNat : Int) < (sh : Int) := by omega
                    have HN5 := Lib.hid (HN.out.trans (if_pos (by rw [HF.out]; simpa using hS)))
                    go_wp2_with (first | ((with_reducible show wpList _ _ _ _ _ u12); refine wpList_storeS rfl 52 _ _ rfl g4 rfl chZero _ rfl K12.out rfl (one3c rfl rfl rfl) (infoCh3 _ _ _) ?_; intro x15 hk ht; go_frame; have K15 := Lib.hid hk; have T15 := Lib.hid ht; clear hk ht))
                    exact bodyPost_ret (next_end K15.out rfl rfl rfl) rfl (NextRet.err HN5.out (below_turn B12.out T15.out (B12.out).size G4.out))
                  · have hS' : ¬ (s.toNat : Int) < (sh : Int) := by omega
                    have HN7 := Lib.hid (HN.out.trans (if_neg (by rw [HF.out]; simpa using hS)))
                    go_wp2_with (first
                      | ((with_reducible show wpList _ _ _ _ _ u12); refine wpList_loadS rfl 52 _ rfl g10 rfl [.string ⟨key.toArray⟩, .slice A10 val.length c10, .bool true] C12.out _ Try.underlying52 rfl (infoCh3 _ _ _) ?_; go_frame)
                      | ((with_reducible show wpList _ _ _ _ _ u12); refine wpList_storeS rfl 52 _ _ rfl g4 rfl [.string ⟨key.toArray⟩, .slice A10 val.length c10, .bool true] chZero rfl K12.out rfl (one3c rfl rfl rfl) (infoCh3 _ _ _) ?_; intro x15 hk ht; go_frame; have K15 := Lib.hid hk; have T15 := Lib.hid ht; clear hk ht))
                    refine bodyPost_ret (next_end K15.out rfl rfl rfl) rfl (NextRet.has (by rw [HN7.out]; simp) (below_turn B12.out T15.out B12.out.size G4.out) ((O12.out.turn T15.out fun k hk e => by have := H49.out; omega).mono fun k _ hk => Nat.le_trans HBV.out hk) (R13.out.turn T15.out fun a e => by cases e; exact NG4.out) ?_ (by omega) (by unfold maxLen; omega))
                    rw [HL6.out, List.length_drop]
            · skip
              have e0 : ((256 * (x.toNat : Int) + (y.toNat : Int)) == 0) = false := by rw [hszi]; simp; omega
              go_wp2_with fail
              go_quiet (fail)
              have K7 := Lib.hid (K6.out.below (below_drewN (Below.refl _ _) nq) K6.out.lt)
              have C7 := Lib.hid (C6.out.below (below_drewN (Below.refl _ _) nq) C6.out.lt)
              have B7 := Lib.hid (below_drewN B6.out nq)
              have R7 := Lib.hid (RR.out.below (below_drewN (Below.refl _ _) nq))
              clear q5 q6 K6 C6 B6 RR
              generalize u6.drewN nq = u7 at *
              have e1 : ((n1 : Int) + 1 == 0) = false := by simp; omega
              have e2 : (((n1 + 1 : Nat) : Int) == 0) = false := by simp; omega
              have e3 : (n1 : Int) ≤ 65535 := by omega
              go_wp2_with (first | ((with_reducible show wpList _ _ _ _ _ u7); refine wpList_store1 rfl 4 _ _ rfl g10 2 rfl (.bool false) rfl rfl (by kernel_rfl) 52 _ C7.out (by simp) ?_; intro u8 hk ht; go_frame; have C8 := Lib.hid hk; have T8 := Lib.hid ht; clear hk ht))
              have B8 := Lib.hid (below_turn B7.out T8.out B7.out.size NG.out)
              have K8 := Lib.hid (K7.out.turn T8.out NE.out)
              have R8 := Lib.hid (show Rd u8 (some ⟨g, o4, none⟩) r from R7.out.turn T8.out fun a e => by cases e; exact NGG.out)
              clear K7 C7 B7 R7 T8
              refine (takeRef_any r g o4 c4 n1 u8 R8.out hc4'.1 (by unfold maxLen; omega) (by omega)).mono ?_
              rintro e u9 ⟨hb, hif⟩
              have K9 := Lib.hid (K8.out.below hb K8.out.lt)
              have C9 := Lib.hid (C8.out.below hb C8.out.lt)
              have B9 := Lib.hid (below_chain B8.out hb)
              have R9 := Lib.hid (R8.out.below hb)
              clear hb K8 C8 B8 R8
              by_cases h5 : r.length < n1
              · rw [if_pos h5] at hif
                subst hif
                have HN := Lib.hid (HNR.out.trans (if_pos h5))
                go_wp2_with (first | ((with_reducible show wpList _ _ _ _ _ u9); refine wpList_storeS rfl 52 _ _ rfl g4 rfl chZero _ rfl K9.out rfl (one3c rfl rfl rfl) (infoCh3 _ _ _) ?_; intro x15 hk ht; go_frame; have K15 := Lib.hid hk; have T15 := Lib.hid ht; clear hk ht))
                exact bodyPost_ret (next_end K15.out rfl rfl rfl) rfl (NextRet.err HN.out (below_turn B9.out T15.out (B9.out).size G4.out))
              · rw [if_neg h5] at hif
                obtain ⟨o6, l6, c6, rfl, hl6, hc6, hr6⟩ := hif
                have HN := Lib.hid (HNR.out.trans (if_neg h5))
                obtain ⟨val, hval⟩ : ∃ val, r.take n1 = val := ⟨_, rfl⟩
                have hvl : val.length = n1 := by rw [← hval, List.length_take]; omega
                have RV := Lib.hid (show Rd u9 (some ⟨g, o4, none⟩) val from hval ▸ rd_take R9.out n1)
                simp only [Nat.add_sub_cancel, Nat.zero_sub, hval] at HN
                have R10 := Lib.hid hr6
                have HL6 := Lib.hid hl6
                have hc6' : l6 ≤ c6 ∧ c6 ≤ 9223372036854775807 := by omega
                have hcp := Copy_any val (some ⟨g, o4, none⟩) c4 u9 (by omega) RV.out (fun h => by cases h)
                rw [hvl] at hcp
                have HVL := Lib.hid hvl
                clear hr6 hl6 hc6 hval hvl R9 HNR
                go_wp2_with fail
                refine hcp.mono ?_
                clear hcp
                rintro e u10 ⟨v10, rfl, ho, hb⟩
                have hone := own_one10 ho
                have hbv := BsV.own ho
                obtain ⟨A10, c10, hv10, -⟩ := id hbv
                subst hv10
                have O10 := Lib.hid hbv
                have K10 := Lib.hid (K9.out.below hb K9.out.lt)
                have C10 := Lib.hid (C9.out.below hb C9.out.lt)
                have B10 := Lib.hid (below_chain B9.out hb)
                have R11 := Lib.hid (R10.out.below hb)
                have HBV := Lib.hid (show w.heap.size ≤ u9.heap.size from B9.out.size)
                have HG9 := Lib.hid C9.out.lt
                have H49 := Lib.hid K9.out.lt
                clear hb ho hbv K9 C9 B9 R10 RV
                go_wp2_with (first | ((with_reducible show wpList _ _ _ _ _ u10); refine wpList_store1 rfl 23 _ _ rfl g10 1 rfl (.slice A10 val.length c10) rfl hone (by kernel_rfl) 52 _ C10.out (by simp) ?_; intro u11 hk ht; go_frame; have C11 := Lib.hid (show Cs u11 g10 52 [.string ⟨key.toArray⟩, .slice A10 val.length c10, .bool false].toArray by simpa using hk); have T11 := Lib.hid ht; have q7 := ch_d0 C11.out; have q8 := ch_d1 C11.out; clear hk ht))
                have B11 := Lib.hid (below_turn B10.out T11.out B10.out.size NG.out)
                have K11 := Lib.hid (K10.out.turn T11.out NE.out)
                have R12 := Lib.hid (R11.out.turn T11.out fun a e => by cases e; exact NGG.out)
                have O11 := Lib.hid (O10.out.turn T11.out fun k hk e => by have := HG9.out; omega)
                clear K10 C10 B10 R11 T11 O10
                have hkl := HKL.out
                have hvl2 := HVL.out
                have hfit := fitB_any last key val A10 c10 u11 (by omega) (by omega)
                cases hF : fitsK last key val
                · rw [hF] at hfit
                  have HN5 := Lib.hid (HN.out.trans (if_pos (by rw [hF]; rfl)))
                  clear hF HN
                  refine hfit.mono ?_
                  clear hfit
                  rintro e _ ⟨rfl, rfl⟩
                  go_wp2_with (first | ((with_reducible show wpList _ _ _ _ _ u11); refine wpList_storeS rfl 52 _ _ rfl g4 rfl chZero _ rfl K11.out rfl (one3c rfl rfl rfl) (infoCh3 _ _ _) ?_; intro x15 hk ht; go_frame; have K15 := Lib.hid hk; have T15 := Lib.hid ht; clear hk ht))
                  exact bodyPost_ret (next_end K15.out rfl rfl rfl) rfl (NextRet.err HN5.out (below_turn B11.out T15.out (B11.out).size G4.out))
                · rw [hF] at hfit
                  have hsh := SharedRef_any last key u11 (by omega) (by omega)
                  have HF := Lib.hid hF
                  clear hF
                  refine hfit.mono ?_
                  clear hfit
                  rintro e _ ⟨rfl, rfl⟩
                  go_wp2_with fail
                  refine hsh.mono ?_
                  clear hsh
                  rintro e u12 ⟨rfl, hb⟩
                  have K12 := Lib.hid (K11.out.below hb K11.out.lt)
                  have C12 := Lib.hid (C11.out.below hb C11.out.lt)
                  have B12 := Lib.hid (below_chain B11.out hb)
                  have R13 := Lib.hid (R12.out.below hb)
                  have O12 := Lib.hid (O11.out.below hb)
                  clear hb K11 C11 B11 R12 O11 q7 q8
                  obtain ⟨sh, hsh⟩ : ∃ sh, sharedP last key = sh := ⟨_, rfl⟩
                  have hsle := (shared_le last key).1
                  rw [hsh] at HN hsle ⊢
                  have HSH := Lib.hid hsh
                  clear hsh
                  by_cases hS : s.toNat < sh
                  · have hS' : (s.toNat : Int) < (sh : Int) := by omega
                    have HN5 := Lib.hid (HN.out.trans (if_pos (by rw [HF.out]; simpa using hS)))
                    go_wp2_with (first | ((with_reducible show wpList _ _ _ _ _ u12); refine wpList_storeS rfl 52 _ _ rfl g4 rfl chZero _ rfl K12.out rfl (one3c rfl rfl rfl) (infoCh3 _ _ _) ?_; intro x15 hk ht; go_frame; have K15 := Lib.hid hk; have T15 := Lib.hid ht; clear hk ht))
                    exact bodyPost_ret (next_end K15.out rfl rfl rfl) rfl (NextRet.err HN5.out (below_turn B12.out T15.out (B12.out).size G4.out))
                  · have hS' : ¬ (s.toNat : Int) < (sh : Int) := by omega
                    have HN7 := Lib.hid (HN.out.trans (if_neg (by rw [HF.out]; simpa using hS)))
                    go_wp2_with (first
                      | ((with_reducible show wpList _ _ _ _ _ u12); refine wpList_loadS rfl 52 _ rfl g10 rfl [.string ⟨key.toArray⟩, .slice A10 val.length c10, .bool false] C12.out _ Try.underlying52 rfl (infoCh3 _ _ _) ?_; go_frame)
                      | ((with_reducible show wpList _ _ _ _ _ u12); refine wpList_storeS rfl 52 _ _ rfl g4 rfl [.string ⟨key.toArray⟩, .slice A10 val.length c10, .bool false] chZero rfl K12.out rfl (one3c rfl rfl rfl) (infoCh3 _ _ _) ?_; intro x15 hk ht; go_frame; have K15 := Lib.hid hk; have T15 := Lib.hid ht; clear hk ht))
                    refine bodyPost_ret (next_end K15.out rfl rfl rfl) rfl (NextRet.has (by rw [HN7.out]; simp) (below_turn B12.out T15.out B12.out.size G4.out) ((O12.out.turn T15.out fun k hk e => by have := H49.out; omega).mono fun k _ hk => Nat.le_trans HBV.out hk) (R13.out.turn T15.out fun a e => by cases e; exact NG4.out) ?_ (by omega) (by unfold maxLen; omega))
                    rw [HL6.out, List.length_drop]

end Go.Proofs.Ytiemphfikfigdaa

/- The reference of layer 7: Get. -/
namespace Go.Proofs.Ytiemphfikfigdaa
open Go.RowKit Go.Shelf
set_option linter.unusedVariables false
set_option maxRecDepth 100000
set_option linter.unusedSimpArgs false

def glue (acc : List Ch) : Except Int (List Ch) → Except Int (List Ch)
  | .error e => .error e
  | .ok l => .ok (acc ++ l)
theorem glue_nil (x : Except Int (List Ch)) : glue [] x = x := by cases x <;> rfl
/-- what a round of Get holds -/
def GotI (b0 : List UInt8) (acc : List Ch) (last : Key) (b : List UInt8) : Prop := getC b0 = glue acc (getF (b.length + 1) last b) ∧ last.length ≤ 16
theorem GotI.start (b : List UInt8) : GotI b [] [] b := ⟨(glue_nil _).symm, by simp⟩
theorem GotI.over {b0 : List UInt8} {acc : List Ch} {last : Key} (h : GotI b0 acc last []) : getC b0 = .ok acc := by
  have := h.1
  simpa [getF, glue] using this
theorem GotI.err {b0 : List UInt8} {acc : List Ch} {last : Key} {s : UInt8} {b : List UInt8} {er : Int} (h : GotI b0 acc last (s :: b)) (hn : nextP last (s :: b) = .error er) : getC b0 = .error er := by
  have := h.1
  simpa [getF, glue, hn] using this
theorem GotI.next {b0 : List UInt8} {acc : List Ch} {last : Key} {s : UInt8} {b r : List UInt8} {c : Ch} (h : GotI b0 acc last (s :: b)) (hn : nextP last (s :: b) = .ok (c, r)) : GotI b0 (acc ++ [c]) c.1 r := by
  have h1 := h.1
  have hl := nextP_short hn
  refine ⟨?_, okC_len (next_back hn).1⟩
  rw [h1]
  have e1 : getF ((s :: b).length + 1) last (s :: b) = glue [c] (getF (r.length + 1) c.1 r) := by
    rw [show getF ((s :: b).length + 1) last (s :: b) = _ from by unfold getF; rfl, hn]
    simp only
    rw [getF_more (s :: b).length (r.length + 1) c.1 r hl (by omega)]
    cases getF (r.length + 1) c.1 r <;> rfl
  rw [e1]
  cases getF (r.length + 1) c.1 r <;> simp [glue]
def GetCRet (b : List UInt8) (w : World) (e : Ending) (w' : World) : Prop := Below w.heap.size w w' ∧ match getC b with
  | .error er => e = .returned (.tuple #[.slice none 0 0, .int .i64 er])
  | .ok l => ∃ v, e = .returned (.tuple #[v, .int .i64 0]) ∧ OwnX chgE w' w.heap.size (w.heap.size ≤ ·) v l
theorem GetCRet.err {b : List UInt8} {w w' : World} {er : Int} (h : getC b = .error er) (hb : Below w.heap.size w w') : GetCRet b w (.returned (.tuple #[.slice none 0 0, .int .i64 er])) w' := ⟨hb, by rw [h]⟩
theorem GetCRet.has {b : List UInt8} {w w' : World} {l : List Ch} {v : Value} (h : getC b = .ok l) (hb : Below w.heap.size w w') (hv : OwnX chgE w' w.heap.size (w.heap.size ≤ ·) v l) : GetCRet b w (.returned (.tuple #[v, .int .i64 0])) w' := ⟨hb, by rw [h]; exact ⟨v, rfl, hv⟩⟩
theorem next_some {last : Key} {b : List UInt8} {er : Int} (h : nextP last b = .error er) : er = 4 ∨ er = 5 := by
  unfold nextP at h
  split at h
  · cases h; exact .inl rfl
  · split at h
    · cases h; exact .inr rfl
    · split at h
      · cases h; exact .inl rfl
      · split at h
        · cases h; exact .inl rfl
        · split at h
          · cases h; exact .inl rfl
          · dsimp only at h
            split at h
            · cases h; exact .inl rfl
            · split at h
              · cases h; exact .inr rfl
              · cases h
/-- a list that takes no more than its bytes -/
theorem GotI.few {b0 : List UInt8} {acc : List Ch} {last : Key} {b : List UInt8} (h : acc.length + b.length ≤ b0.length) {s : UInt8} {b1 r : List UInt8} {c : Ch} (hb : b = s :: b1) (hn : nextP last b = .ok (c, r)) : (acc ++ [c]).length + r.length ≤ b0.length := by
  have := nextP_short hn
  rw [List.length_append, List.length_singleton]
  omega
theorem rd_old {w : World} {A : Option Addr} {b : List UInt8} (h : Rd w A b) : b = [] ∨ ∃ g o, A = some ⟨g, o, none⟩ ∧ g < w.heap.size := by
  by_cases h0 : b = []
  · exact .inl h0
  rcases h with h | ⟨g, o, e, hc⟩
  · exact absurd h h0
  · exact .inr ⟨g, o, e, lt_of_cell (hc 0 (List.length_pos_iff.2 h0))⟩
set_option maxHeartbeats 4000000 in
theorem GetCRef_any (b0 : List UInt8) (A : Option Addr) (c0 : Nat) (w : World) (hb0 : b0.length ≤ 1000000) (hr : Rd w A b0) (hlc : b0.length ≤ c0) (hc : c0 ≤ maxLen) :
    Calls Try.prog 13 #[.slice A b0.length c0] w fun e w' => GetCRet b0 w e w' := by
  have HR := Lib.hid hr
  have HC := Lib.hid (And.intro hlc hc)
  clear hr hlc hc
  go_enter Try.func13, Try.ntmps13
  go_wp2_with fail
  go_loopw [0, 4, 5] (fun bv lv kv wr => ∃ (b : List UInt8) (A' : Option Addr) (c' : Nat) (acc : List Ch) (last : Key), bv = .slice A' b.length c' ∧ kv = .string ⟨last.toArray⟩ ∧ Rd wr A' b ∧ (b = [] ∨ ∃ g o, A' = some ⟨g, o, none⟩ ∧ g < w.heap.size) ∧ b.length ≤ c' ∧ c' ≤ maxLen ∧ GotI b0 acc last b ∧ acc.length + b.length ≤ b0.length ∧ OwnX chgE wr w.heap.size (w.heap.size ≤ ·) lv acc ∧ Below w.heap.size w wr) (fun bv _ _ _ => match bv with | .slice _ n _ => n | _ => 0)
  case atStart => exact ⟨b0, A, c0, [], [], rfl, rfl, HR.out, rd_old HR.out, HC.out.1, HC.out.2, GotI.start b0, by simp, OwnX.nil _ _ _, Below.refl _ _⟩
  case round =>
    obtain ⟨b, A', c', acc, last, rfl, rfl, hrd, hold, hlc, hcm, hI, hfew, ho, hb⟩ := hrel
    have HRD := Lib.hid hrd
    have HCM := Lib.hid (And.intro hlc hcm)
    have HI := Lib.hid hI
    have HF := Lib.hid hfew
    have HO := Lib.hid ho
    have HB := Lib.hid hb
    have hbl : (b.length : Int) ≤ 1000000 := by omega
    clear hrd hlc hcm hI hfew ho hb
    rcases b with _ | ⟨s, b1⟩
    · clear hold
      go_wp2_with fail
      go_ret2
      exact GetCRet.has HI.out.over HB.out HO.out
    · obtain ⟨g, o, rfl, hg0⟩ := hold.resolve_left (by simp)
      have hnx := nextRef_any last s b1 g o c' wr (by have := HI.out.2; omega) HRD.out (by have := HCM.out.1; simpa using this) HCM.out.2
      have hpos : (0 : Int) < (b1.length : Int) + 1 := by omega
      have hpos' : (0 : Int) < ((b1.length + 1 : Nat) : Int) := by omega
      have HNX := Lib.hid hnx
      clear hnx
      go_wp2_with fail
      refine HNX.out.mono ?_
      clear HNX
      rintro e u2 ⟨hb, hm⟩
      have B2 := Lib.hid (below_chain HB.out hb)
      have O2 := Lib.hid (HO.out.below hb)
      have hz := hb.size
      have hz0 := HB.out.size
      cases hn : nextP last (s :: b1) with
      | error er =>
        rw [hn] at hm
        have he := next_some hn
        have HE := Lib.hid (HI.out.err hn)
        subst hm
        clear hn hb
        rcases he with rfl | rfl
        · go_wp2_with (first
            | ((with_reducible show wpList _ _ _ _ _ u2); refine wpList_allocS rfl 52 rfl _ zeroCh ?_; intro g6 u3 hk3 hb3 hg3; go_frame; have K3 := Lib.hid hk3; have B3 := Lib.hid hb3; have G3 := Lib.hid hg3; clear hk3 hb3 hg3)
            | ((with_reducible show wpList _ _ _ _ _ u3); refine wpList_storeS rfl 52 _ _ rfl g6 rfl chZero chZero rfl K3.out rfl (one3c rfl rfl rfl) (infoCh3 _ _ _) ?_; intro u4 hk4 ht4; go_frame; have K4 := Lib.hid hk4; have T4 := Lib.hid ht4; clear hk4 ht4))
          go_ret2
          exact GetCRet.err HE.out (below_turn (below_chain B2.out B3.out) T4.out (below_chain B2.out B3.out).size (Nat.le_trans B2.out.size G3.out))
        · go_wp2_with (first
            | ((with_reducible show wpList _ _ _ _ _ u2); refine wpList_allocS rfl 52 rfl _ zeroCh ?_; intro g6 u3 hk3 hb3 hg3; go_frame; have K3 := Lib.hid hk3; have B3 := Lib.hid hb3; have G3 := Lib.hid hg3; clear hk3 hb3 hg3)
            | ((with_reducible show wpList _ _ _ _ _ u3); refine wpList_storeS rfl 52 _ _ rfl g6 rfl chZero chZero rfl K3.out rfl (one3c rfl rfl rfl) (infoCh3 _ _ _) ?_; intro u4 hk4 ht4; go_frame; have K4 := Lib.hid hk4; have T4 := Lib.hid ht4; clear hk4 ht4))
          go_ret2
          exact GetCRet.err HE.out (below_turn (below_chain B2.out B3.out) T4.out (below_chain B2.out B3.out).size (Nat.le_trans B2.out.size G3.out))
      | ok p =>
        obtain ⟨c, r⟩ := p
        rw [hn] at hm
        obtain ⟨v, o2, c2, rfl, hv, hrd, hr1, hr2⟩ := hm
        have HN := Lib.hid (HI.out.next hn)
        have HF2 := Lib.hid (GotI.few HF.out rfl hn)
        have HSH := Lib.hid (nextP_short hn)
        have HV := Lib.hid hv
        have RR := Lib.hid hrd
        have R12 := Lib.hid (And.intro hr1 hr2)
        obtain ⟨k, val, z⟩ := c
        dsimp only at *
        obtain ⟨A9, c9, hv9, -⟩ := id hv
        subst hv9
        clear hn hb hv hrd hr1 hr2 HI HF
        go_wp2_with (first
          | ((with_reducible show wpList _ _ _ _ _ u2); refine wpList_allocS rfl 52 rfl _ zeroCh ?_; intro g6 u3 hk3 hb3 hg3; go_frame; have K3 := Lib.hid hk3; have B3 := Lib.hid hb3; have G3 := Lib.hid hg3; clear hk3 hb3 hg3)
          | ((with_reducible show wpList _ _ _ _ _ u3); refine wpList_storeS rfl 52 _ _ rfl g6 rfl [.string ⟨k.toArray⟩, .slice A9 val.length c9, .bool z] chZero rfl K3.out rfl (one3c rfl rfl rfl) (infoCh3 _ _ _) ?_; intro u4 hk4 ht4; go_frame; have K4 := Lib.hid hk4; have T4 := Lib.hid ht4; have G6 := Lib.hid (show wr.heap.size ≤ g6 from Nat.le_trans hz G3.out); have O4 := Lib.hid (O2.out.below (below_turn B3.out ht4 B3.out.size G3.out)); have B4 := Lib.hid (below_turn (below_chain B2.out B3.out) ht4 (below_chain B2.out B3.out).size (Nat.le_trans B2.out.size G3.out)); have HV4 := Lib.hid (HV.out.below (below_turn B3.out ht4 B3.out.size G3.out)); have R4 := Lib.hid (RR.out.below (below_turn B3.out ht4 B3.out.size G3.out)); clear hk4 ht4)
          | ((with_reducible show wpList _ _ _ _ _ u4); refine wpList_loadS rfl 52 _ rfl g6 rfl [.string ⟨k.toArray⟩, .slice A9 val.length c9, .bool z] K4.out _ Try.underlying52 rfl (infoCh3 _ _ _) ?_; go_frame)
          | (at_builtin; go_loud (refine wpList_append_x1 (E := chgE) rfl _ _ rfl w.heap.size (w.heap.size ≤ ·) _ acc rfl ((O4.out).below ((Below.refl u4.heap.size u4).alloc (Nat.le_refl _) _)) u4.heap.size 1 rfl [.string ⟨k.toArray⟩, .slice A9 val.length c9, .bool z] (k, val, z) ⟨_, rfl, (HV4.out.below ((Below.refl u4.heap.size u4).alloc (Nat.le_refl _) _)).mono (fun q _ hq => ⟨Nat.le_trans hz0 hq, fun e => by have := (HO.out.lt q e).2; omega⟩)⟩ 52 (Cs.new _ _ _) (by have := HF2.out; simp at this; omega) (by have := B4.out.size; simp; omega) (by have := B4.out.size; simp; omega) ?_; intro v5 u5 ho5 hg5; go_frame; have O5 := Lib.hid ho5; have B5 := Lib.hid ((below_chain B4.out ((Below.refl u4.heap.size u4).alloc (Nat.le_refl _) _)).grown hg5 (by have := B4.out.size; simp; omega) (fun q e => (HO.out.lt q e).1)); have k5 := (K4.out.alloc (.cells #[.string ⟨k.toArray⟩, .slice A9 val.length c9, .bool z] 52)).turn (Turn.of_grown hg5) (fun e => by have := (HO.out.lt _ e).2; have := G6.out; omega); have q5 := ch_d0 k5; have R5 := Lib.hid ((R4.out.below ((Below.refl u4.heap.size u4).alloc (Nat.le_refl _) _)).turn (Turn.of_grown hg5) fun a e he => by cases e; have := (HO.out.lt _ he).1; exact absurd hg0 (Nat.not_lt.2 this)); clear ho5 hg5 k5)))
        go_roundw
        case rel => exact ⟨r, some ⟨g, o2, none⟩, c2, acc ++ [(k, val, z)], k, rfl, rfl, R5.out, .inr ⟨g, o2, rfl, hg0⟩, R12.out.1, R12.out.2, HN.out, HF2.out, O5.out, B5.out⟩
        case measure => have := HSH.out; simp at this ⊢; omega

end Go.Proofs.Ytiemphfikfigdaa

/- The reference of layer 7: Find, without, with. -/
namespace Go.Proofs.Ytiemphfikfigdaa
open Go.RowKit Go.Shelf
set_option linter.unusedVariables false
set_option maxRecDepth 100000
set_option linter.unusedSimpArgs false

def findP (t : List Rw) (k : Key) : Option (List UInt8) := if mayP t then lookR t k else none
theorem look_hit {t : List Rw} {k : Nat} {key : Key} (h : lookR (t.take k) key = none) (hk : k < t.length) (e : t[k].1 = key) : lookR t key = some t[k].2 := by
  conv => lhs; rw [← List.take_append_drop k t, List.drop_eq_getElem_cons hk]
  rw [lookR_append, h, lookR_cons, if_pos e]
  rfl
theorem look_miss {t : List Rw} {k : Nat} {key : Key} (h : lookR (t.take k) key = none) (hk : k < t.length) (e : ¬ t[k].1 = key) : lookR (t.take (k + 1)) key = none := by
  rw [List.take_succ_eq_append_getElem hk, lookR_append, h, lookR_cons, if_neg e]
  rfl
def FindRet (t : List Rw) (key : Key) (w : World) (e : Ending) (w' : World) : Prop := Below w.heap.size w w' ∧ match findP t key with
  | none => e = .returned (.tuple #[.slice none 0 0, .bool false])
  | some x => ∃ v, e = .returned (.tuple #[v, .bool true]) ∧ w'.ownsRow w.heap.size 5 1 v x.length (cellsOf x)
theorem FindRet.no {t : List Rw} {key : Key} {w w' : World} (h : findP t key = none) (hb : Below w.heap.size w w') : FindRet t key w (.returned (.tuple #[.slice none 0 0, .bool false])) w' := ⟨hb, by rw [h]⟩
theorem FindRet.yes {t : List Rw} {key : Key} {w w' : World} {x : List UInt8} {v : Value} (h : findP t key = some x) (hb : Below w.heap.size w w') (ho : w'.ownsRow w.heap.size 5 1 v x.length (cellsOf x)) : FindRet t key w (.returned (.tuple #[v, .bool true])) w' := ⟨hb, by rw [h]; exact ⟨v, rfl, ho⟩⟩
theorem ownsRow_down {w : World} {B B' n size : Nat} {e : TypeId} {v : Value} {xs : List Value} (h : w.ownsRow B e size v n xs) (hb : B' ≤ B) : w.ownsRow B' e size v n xs := by
  refine ⟨h.1, ?_⟩
  rcases h.2 with h | ⟨g, cap, cur, hv, hg, r⟩
  · exact .inl h
  · exact .inr ⟨g, cap, cur, hv, Nat.le_trans hb hg, r⟩
set_option maxHeartbeats 4000000 in
theorem FindRef_any (t : List Rw) (key : Key) (A : Option Addr) (c : Nat) (F : Nat → Prop) (w : World) (hs : SmallR t) (hr : RdX rowE w F A t) :
    Calls Try.prog 29 #[.slice A t.length c, .string ⟨key.toArray⟩] w fun e w' => FindRet t key w e w' := by
  have hl := hs.1
  have hl' : (t.length : Int) ≤ 9223372036854775807 := by omega
  have hmay := fun u (hb : Below w.heap.size w u) => MayRef_any t A c F u hs (hr.below hb)
  have HR := Lib.hid hr
  clear hs hr hl
  obtain ⟨m, hm⟩ : ∃ m, mayP t = m := ⟨_, rfl⟩
  rw [hm] at hmay
  have HM := Lib.hid hm
  have HMAY := Lib.hid hmay
  clear hm hmay
  go_enter Try.func29, Try.ntmps29
  go_wp2_with fail
  go_loopw [6] (fun j wr => ∃ k : Nat, j = .int .i64 k ∧ k ≤ t.length ∧ lookR (t.take k) key = none ∧ Below w.heap.size w wr) (fun j _ => t.length - (RowKit.intOf j).toNat)
  case atStart => exact ⟨0, rfl, Nat.zero_le _, by simp [lookR_nil], Below.refl _ _⟩
  case round =>
    obtain ⟨k, rfl, hk, hlk, hb⟩ := hrel
    have HL := Lib.hid hlk
    have HB := Lib.hid hb
    clear hlk hb
    by_cases hlt : k < t.length
    · have hlt' : (k : Int) < (t.length : Int) := by omega
      cases m
      · have HN := Lib.hid (show findP t key = none by unfold findP; rw [HM.out]; rfl)
        go_wp2_with fail
        refine (HMAY.out wr HB.out).mono ?_
        rintro e w2 ⟨rfl, hb⟩
        go_wp2_with fail
        go_ret2
        exact FindRet.no HN.out (below_chain HB.out hb)
      · go_wp2_with fail
        refine (HMAY.out wr HB.out).mono ?_
        rintro e w2 ⟨rfl, hb⟩
        have B2 := Lib.hid (below_chain HB.out hb)
        clear hb
        obtain ⟨b, off, A1, c1, rfl, hc1, hd1, hr1, hn1, hx1, hx2⟩ := row_at (HR.out.below B2.out) k hlt
        by_cases hkey : t[k].1 = key
        · have hke : (t[k].1 == key) = true := by simpa using hkey
          have HN := Lib.hid (show findP t key = some t[k].2 by unfold findP; rw [HM.out, if_pos rfl]; exact look_hit HL.out hlt hkey)
          have hcp := fun u (hu : Rd u A1 t[k].2) => Copy_any t[k].2 A1 c1 u (by have := (((may_iff t).1 HM.out).1 _ (List.getElem_mem hlt)).2.2; omega) hu hn1
          have HRD := Lib.hid hr1.rd
          generalize t[k] = x at *
          obtain ⟨x1, x2⟩ := x
          dsimp only at *
          have HCP := Lib.hid hcp
          clear hcp hr1 hn1 hkey
          go_wp2_with fail
          refine (HCP.out w2 HRD.out).mono ?_
          rintro e w3 ⟨v, rfl, ho, hb⟩
          go_wp2_with fail
          go_ret2
          exact FindRet.yes HN.out (below_chain B2.out hb) (ownsRow_down ho B2.out.size)
        · have hke : (t[k].1 == key) = false := by simpa using hkey
          have HN := Lib.hid (look_miss HL.out hlt hkey)
          generalize t[k] = x at *
          obtain ⟨x1, x2⟩ := x
          dsimp only at *
          clear hr1 hn1 hkey
          go_wp2_with fail
          go_roundw
          case rel => exact ⟨k + 1, by go_num, hlt, HN.out, B2.out⟩
          case measure => simp [intOf]; omega
    · have hlt' : ¬ (k : Int) < (t.length : Int) := by omega
      have HN := Lib.hid (show findP t key = none by
        unfold findP
        have := HL.out
        rw [List.take_of_length_le (by omega)] at this
        rw [this]
        split <;> rfl)
      go_wp2_with fail
      go_ret2
      exact FindRet.no HN.out HB.out

def rwCells (x : Rw) (A : Option Addr) (c : Nat) : List Value := [.string ⟨x.1.toArray⟩, .slice A x.2.length c]
theorem infoRw (x : Rw) (A : Option Addr) (c : Nat) : (Try.prog.info? 50).map (·.size) = some (rwCells x A c).length := by kernel_rfl
theorem rwCells_one (x : Rw) (A : Option Addr) (c : Nat) : ∀ v ∈ rwCells x A c, v.oneCell' = true := by
  intro v hv
  simp [rwCells] at hv
  rcases hv with rfl | rfl <;> rfl
theorem wp_buildRow {w : World} {o : Oper} {a : Act} {Q : Exit → Act → World → Prop} {K : Act → World → Prop} (x : Operand) (ho : o.op = .buildSlice 36 1 #[(0, x)]) (r : Rw) (A : Option Addr) (c : Nat) (hx : a.eval x = .agg (rwCells r A c).toArray)
    (hK : ∀ g w', Cs w' g 50 (rwCells r A c).toArray → Below w.heap.size w w' → w.heap.size ≤ g → K (a.put o.dst (.slice (some ⟨g, 0, none⟩) 1 1)) w') : o.wp Try.prog a w K Q := by
  refine wp_of_run2 (v := .slice (some ⟨w.heap.size, 0, none⟩) 1 1) (w' := w.alloc (.cells (rwCells r A c).toArray 50)) ?_ (hK _ _ (Cs.new _ _ _) ((Below.refl _ _).alloc (Nat.le_refl _) _) (Nat.le_refl _))
  unfold execOp
  simp only [ho, hx, List.map_toArray, List.map_cons, List.map_nil, rwCells]
  go_simp
theorem kept_bsv (F : Nat → Prop) (v : Value) (l : List UInt8) : Kept (fun u => BsV u F v l) := fun u u' h hb => h.below hb
theorem kept_ownX {α : Type} {E : Elem α} (B : Nat) (F : Nat → Prop) (v : Value) (ls : List α) : Kept (fun u => OwnX E u B F v ls) := fun u u' h hb => h.below hb
theorem without_take {t : List Rw} {k : Nat} {key : Key} (h : k < t.length) : withoutP (t.take (k + 1)) key = if t[k].1 = key then withoutP (t.take k) key else withoutP (t.take k) key ++ [t[k]] := by
  unfold withoutP
  rw [List.take_succ_eq_append_getElem h, List.filter_append]
  by_cases e : t[k].1 = key
  · have : (!(t[k].1 == key)) = false := by simpa using e
    simp [e]
  · have : (t[k].1 == key) = false := by simpa using e
    simp [e, this]
theorem without_len (t : List Rw) (key : Key) : (withoutP t key).length ≤ t.length := List.length_filter_le _ _
def WithoutRet (t : List Rw) (key : Key) (w : World) (e : Ending) (w' : World) : Prop := ∃ v, e = .returned v ∧ OwnX rowE w' w.heap.size (w.heap.size ≤ ·) v (withoutP t key) ∧ Below w.heap.size w w'
set_option maxHeartbeats 8000000 in
theorem WithoutRef_any (t : List Rw) (key : Key) (A : Option Addr) (c : Nat) (F : Nat → Prop) (w : World) (hl : t.length ≤ 1000000) (hv : ∀ x ∈ t, x.2.length ≤ 1000000) (hr : RdX rowE w F A t) :
    Calls Try.prog 48 #[.slice A t.length c, .string ⟨key.toArray⟩] w fun e w' => WithoutRet t key w e w' := by
  have hmix : Try.prog.follows .mixedOrders = true := by kernel_rfl
  have hl' : (t.length : Int) ≤ 9223372036854775807 := by omega
  have HR := Lib.hid hr
  have HV := Lib.hid hv
  clear hr hv
  go_enter Try.func48, Try.ntmps48
  go_wp2_with fail
  go_loopw [5, 6] (fun v j wr => ∃ k : Nat, j = .int .i64 k ∧ k ≤ t.length ∧ OwnX rowE wr w.heap.size (w.heap.size ≤ ·) v (withoutP (t.take k) key) ∧ Below w.heap.size w wr) (fun _ j _ => t.length - (RowKit.intOf j).toNat)
  case atStart => exact ⟨0, rfl, Nat.zero_le _, OwnX.nil _ _ _, Below.refl _ _⟩
  case round =>
    obtain ⟨k, rfl, hk, ho, hb⟩ := hrel
    have HO := Lib.hid ho
    have HB := Lib.hid hb
    clear ho hb
    by_cases hlt : k < t.length
    · have hlt' : (k : Int) < (t.length : Int) := by omega
      obtain ⟨b, off, A1, c1, rfl, hc1, hd1, hr1, hn1, hx1, hx2⟩ := row_at HR.out k hlt
      have hval := HV.out _ (List.getElem_mem hlt)
      have HWT := Lib.hid (without_take (key := key) hlt)
      have hwl := without_len (t.take k) key
      rw [List.length_take] at hwl
      generalize t[k] = x at *
      obtain ⟨x1, x2⟩ := x
      dsimp only at *
      have q1 : wr.cell? ⟨b, off + k * 2, none⟩ = some (.string ⟨x1.toArray⟩) := (HB.out.cell (lt_of_cell hc1)).trans hc1
      have HC1 := Lib.hid hc1
      have HD1 := Lib.hid hd1
      by_cases hkey : x1 = key
      · have hke : (x1 == key) = true := by simpa using hkey
        have HN := Lib.hid (HWT.out.trans (if_pos hkey))
        clear hkey HWT hr1 hn1 hc1 hd1
        go_wp2_with fail
        go_roundw
        case rel => exact ⟨k + 1, by go_num, hlt, by rw [HN.out]; exact HO.out, HB.out⟩
        case measure => simp [intOf]; omega
      · have hke : (x1 == key) = false := by simpa using hkey
        have HN := Lib.hid (HWT.out.trans (if_neg hkey))
        have hcp := fun u (hu : Below w.heap.size w u) => Copy_any x2 A1 c1 u (by omega) (hr1.rd.below hu) hn1
        have HCP := Lib.hid hcp
        clear hkey HWT hr1 hn1 hcp hc1 hd1
        go_wp2_with fail
        refine wp_region_V [14] (fun y => Below w.heap.size w y ∧ OwnX rowE y w.heap.size (w.heap.size ≤ ·) u5 (withoutP (t.take k) key)) hmix (⟨HB.out.drew, HO.out.below (Below.refl _ _).drew⟩) ?_
        change wpAnyV _ _ _ _ _ _ _ _ _
        refine wpAnyV_take (i := 0) (v := u5) 8 (kept_and (kept_below w) (kept_ownX _ _ _ _)) rfl (by kernel_rfl) (by kernel_rfl) (fun _ _ _ h => h) (fun _ h => h) (DoesV.reads (by rfl) fun w9 hS => by go_simp) ?_
        try simp only [List.getElem_toArray, List.getElem_cons_succ, List.getElem_cons_zero, Act.put, List.setIfInBounds_toArray, List.set_cons_succ, List.set_cons_zero]
        refine wpAnyV_take (i := 1) (v := .slice (some ⟨b, off, none⟩) t.length c) 8 (kept_and (kept_below w) (kept_ownX _ _ _ _)) rfl (by kernel_rfl) (by kernel_rfl) (fun _ _ _ h => h) (fun _ h => h) (DoesV.reads (by rfl) fun w9 hS => by go_simp) ?_
        try simp only [List.getElem_toArray, List.getElem_cons_succ, List.getElem_cons_zero, Act.put, List.setIfInBounds_toArray, List.set_cons_succ, List.set_cons_zero]
        refine wpAnyV_take (i := 2) (v := .int .i64 (k : Int)) 8 (kept_and (kept_below w) (kept_ownX _ _ _ _)) rfl (by kernel_rfl) (by kernel_rfl) (fun _ _ _ h => h) (fun _ h => h) (DoesV.reads (by rfl) fun w9 hS => by go_simp) ?_
        try simp only [List.getElem_toArray, List.getElem_cons_succ, List.getElem_cons_zero, Act.put, List.setIfInBounds_toArray, List.set_cons_succ, List.set_cons_zero]
        refine wpAnyV_take (i := 3) (v := .pointer (some ⟨b, off + k * 2, none⟩)) 8 (kept_and (kept_below w) (kept_ownX _ _ _ _)) rfl (by kernel_rfl) (by kernel_rfl) (fun _ _ _ h => h) (fun _ h => h) (DoesV.reads (by rfl) fun w9 hS => by go_simp) ?_
        try simp only [List.getElem_toArray, List.getElem_cons_succ, List.getElem_cons_zero, Act.put, List.setIfInBounds_toArray, List.set_cons_succ, List.set_cons_zero]
        refine wpAnyV_take (i := 4) (v := .pointer (some ⟨b, off + k * 2, none⟩)) 8 (kept_and (kept_below w) (kept_ownX _ _ _ _)) rfl (by kernel_rfl) (by kernel_rfl) (fun _ _ _ h => h) (fun _ h => h) (DoesV.reads (by rfl) fun w9 hS => by go_simp) ?_
        try simp only [List.getElem_toArray, List.getElem_cons_succ, List.getElem_cons_zero, Act.put, List.setIfInBounds_toArray, List.set_cons_succ, List.set_cons_zero]
        refine wpAnyV_take (i := 5) (v := .string ⟨x1.toArray⟩) 8 (kept_and (kept_below w) (kept_ownX _ _ _ _)) rfl (by kernel_rfl) (by kernel_rfl) (fun _ _ _ h => h) (fun _ h => h) (DoesV.reads (by rfl) fun w9 hS => by have q9 := (hS.1.cell (lt_of_cell HC1.out)).trans HC1.out; go_simp) ?_
        try simp only [List.getElem_toArray, List.getElem_cons_succ, List.getElem_cons_zero, Act.put, List.setIfInBounds_toArray, List.set_cons_succ, List.set_cons_zero]
        refine wpAnyV_take (i := 6) (v := .slice (some ⟨b, off, none⟩) t.length c) 8 (kept_and (kept_below w) (kept_ownX _ _ _ _)) rfl (by kernel_rfl) (by kernel_rfl) (fun _ _ _ h => h) (fun _ h => h) (DoesV.reads (by rfl) fun w9 hS => by go_simp) ?_
        try simp only [List.getElem_toArray, List.getElem_cons_succ, List.getElem_cons_zero, Act.put, List.setIfInBounds_toArray, List.set_cons_succ, List.set_cons_zero]
        refine wpAnyV_take (i := 7) (v := .int .i64 (k : Int)) 8 (kept_and (kept_below w) (kept_ownX _ _ _ _)) rfl (by kernel_rfl) (by kernel_rfl) (fun _ _ _ h => h) (fun _ h => h) (DoesV.reads (by rfl) fun w9 hS => by go_simp) ?_
        try simp only [List.getElem_toArray, List.getElem_cons_succ, List.getElem_cons_zero, Act.put, List.setIfInBounds_toArray, List.set_cons_succ, List.set_cons_zero]
        refine wpAnyV_take (i := 8) (v := .pointer (some ⟨b, off + k * 2, none⟩)) 8 (kept_and (kept_below w) (kept_ownX _ _ _ _)) rfl (by kernel_rfl) (by kernel_rfl) (fun _ _ _ h => h) (fun _ h => h) (DoesV.reads (by rfl) fun w9 hS => by go_simp) ?_
        try simp only [List.getElem_toArray, List.getElem_cons_succ, List.getElem_cons_zero, Act.put, List.setIfInBounds_toArray, List.set_cons_succ, List.set_cons_zero]
        refine wpAnyV_take (i := 9) (v := .pointer (some ⟨b, off + k * 2 + 1, none⟩)) 8 (kept_and (kept_below w) (kept_ownX _ _ _ _)) rfl (by kernel_rfl) (by kernel_rfl) (fun _ _ _ h => h) (fun _ h => h) (DoesV.reads (by rfl) fun w9 hS => by go_simp) ?_
        try simp only [List.getElem_toArray, List.getElem_cons_succ, List.getElem_cons_zero, Act.put, List.setIfInBounds_toArray, List.set_cons_succ, List.set_cons_zero]
        refine wpAnyV_take (i := 10) (v := .slice A1 x2.length c1) 8 (kept_and (kept_below w) (kept_ownX _ _ _ _)) rfl (by kernel_rfl) (by kernel_rfl) (fun _ _ _ h => h) (fun _ h => h) (DoesV.reads (by rfl) fun w9 hS => by have q9 := (hS.1.cell (lt_of_cell HD1.out)).trans HD1.out; go_simp) ?_
        try simp only [List.getElem_toArray, List.getElem_cons_succ, List.getElem_cons_zero, Act.put, List.setIfInBounds_toArray, List.set_cons_succ, List.set_cons_zero]
        refine wpAnyV_only (i := 11) rfl (by kernel_rfl) rfl (fun u hS => wp_of_call (by go_simp) (HCP.out u hS.1) fun e u' ⟨v1, he, ho1, hb1⟩ => ⟨v1, he, (fun y => (Below w.heap.size w y ∧ OwnX rowE y w.heap.size (w.heap.size ≤ ·) u5 (withoutP (t.take k) key)) ∧ BsV y (u.heap.size ≤ ·) v1 x2), ⟨⟨below_chain hS.1 hb1, hS.2.below hb1⟩, BsV.own ho1⟩, (kept_and (kept_and (kept_below w) (kept_ownX _ _ _ _)) (kept_bsv _ _ _)), fun _ y h => h.1, ?_⟩)
        try simp only [List.getElem_toArray, List.getElem_cons_succ, List.getElem_cons_zero, Act.put, List.setIfInBounds_toArray, List.set_cons_succ, List.set_cons_zero]
        have hbv := BsV.own ho1
        obtain ⟨A2, c2, hv2, -⟩ := id hbv
        subst hv2
        have hown := fun q e => (hS.2.lt q e).2
        have hwu := hS.1.size
        refine wpAnyV_pure (i := 12) (v := .agg #[.string ⟨x1.toArray⟩, .slice A2 x2.length c2]) (kept_and (kept_and (kept_below w) (kept_ownX _ _ _ _)) (kept_bsv _ _ _)) rfl (by kernel_rfl) (by kernel_rfl) (fun _ _ _ h => h) (DoesV.reads (by rfl) fun w9 hS => by go_simp) ?_
        try simp only [List.getElem_toArray, List.getElem_cons_succ, List.getElem_cons_zero, Act.put, List.setIfInBounds_toArray, List.set_cons_succ, List.set_cons_zero]
        refine wpAnyV_only (i := 13) rfl (by kernel_rfl) rfl (fun y hy => wp_buildRow _ rfl (x1, x2) A2 c2 rfl fun g8 y' hk hb hg => ⟨(fun y => ((Below w.heap.size w y ∧ OwnX rowE y w.heap.size (w.heap.size ≤ ·) u5 (withoutP (t.take k) key)) ∧ BsV y (u.heap.size ≤ ·) (.slice A2 x2.length c2) x2) ∧ Cs y g8 50 (rwCells (x1, x2) A2 c2).toArray), ⟨⟨⟨below_chain hy.1.1 hb, hy.1.2.below hb⟩, hy.2.below hb⟩, hk⟩, kept_and (kept_and (kept_and (kept_below w) (kept_ownX _ _ _ _)) (kept_bsv _ _ _)) (kept_cs _ _ _), fun _ y h => h.1, ?_⟩)
        try simp only [List.getElem_toArray, List.getElem_cons_succ, List.getElem_cons_zero, Act.put, List.setIfInBounds_toArray, List.set_cons_succ, List.set_cons_zero]
        refine wpAnyV_only (i := 14) rfl (by kernel_rfl) rfl (fun y hy => wp_append_x1 (E := rowE) _ _ rfl w.heap.size (w.heap.size ≤ ·) u5 (withoutP (t.take k) key) rfl hy.1.1.2 g8 1 rfl (rwCells (x1, x2) A2 c2) (x1, x2) ⟨_, rfl, hy.1.2.mono fun q _ hq => ⟨Nat.le_trans hwu hq, fun e => absurd hq (Nat.not_le.2 (hown q e))⟩⟩ 50 hy.2 (by omega) hy.1.1.1.size hy.1.1.1.size fun v3 y' ho3 hg3 => ⟨(fun y => Below w.heap.size w y ∧ OwnX rowE y w.heap.size (w.heap.size ≤ ·) v3 (withoutP (t.take k) key ++ [(x1, x2)])), ⟨hy.1.1.1.grown hg3 hy.1.1.1.size (fun q e => (hy.1.1.2.lt q e).1), ho3⟩, kept_and (kept_below w) (kept_ownX _ _ _ _), fun h => absurd (by simp) h, ?_⟩)
        try simp only [List.getElem_toArray, List.getElem_cons_succ, List.getElem_cons_zero, Act.put, List.setIfInBounds_toArray, List.set_cons_succ, List.set_cons_zero]
        refine wpAnyV_pure (i := 15) (v := v3) (kept_and (kept_below w) (kept_ownX _ _ _ _)) rfl (by kernel_rfl) (by kernel_rfl) (fun _ _ _ h => h) (DoesV.reads (by rfl) fun w9 hS => by go_simp) ?_
        try simp only [List.getElem_toArray, List.getElem_cons_succ, List.getElem_cons_zero, Act.put, List.setIfInBounds_toArray, List.set_cons_succ, List.set_cons_zero]
        refine wpAnyV_done (by kernel_rfl) (fun y1 hu => ?_) _
        have HU := Lib.hid hu
        clear hu
        go_wp2_with fail
        go_roundw
        case rel => exact ⟨k + 1, by go_num, hlt, by rw [HN.out]; exact HU.out.2, HU.out.1⟩
        case measure => simp [intOf]; omega
    · go_wp2_with fail
      go_ret
      have ho := HO.out
      rw [List.take_of_length_le (by omega)] at ho
      exact ⟨_, rfl, ho, HB.out⟩

end Go.Proofs.Ytiemphfikfigdaa

/- The reference of layer 7: with. -/
namespace Go.Proofs.Ytiemphfikfigdaa
open Go.RowKit Go.Shelf
set_option linter.unusedVariables false
set_option maxRecDepth 100000
set_option linter.unusedSimpArgs false

section
variable {α : Type} {E : Elem α}
/-- a list of one's own in new memory, of elements that hold old memory -/
structure OwnO (E : Elem α) (w : World) (B : Nat) (F : Nat → Prop) (v : Value) (ls : List α) : Prop where
  row : ∃ xs, w.ownsRow B E.ety E.n v ls.length xs ∧ RowX E w F xs ls
  old : ∀ k, F k → k < B
theorem OwnO.nil (w : World) (B : Nat) (F : Nat → Prop) (hF : ∀ k, F k → k < B) : OwnO E w B F (.slice none 0 0) [] := ⟨⟨[], World.ownsRow_nil _ _ _ _, RowX.nil _ _⟩, hF⟩
theorem OwnO.lt {w : World} {B : Nat} {F : Nat → Prop} {v : Value} {ls : List α} (h : OwnO E w B F v ls) : ∀ k, v.ownBlock = some k → B ≤ k ∧ k < w.heap.size := by
  obtain ⟨⟨vs, h1, h2⟩, h3⟩ := h
  exact h1.lt
theorem OwnO.turn {w w' : World} {B : Nat} {F G : Nat → Prop} {v : Value} {ls : List α} (h : OwnO E w B F v ls) (ht : Turn w w' G) (h1 : ∀ k, F k → ¬ G k) (h2 : ∀ k, v.ownBlock = some k → ¬ G k) : OwnO E w' B F v ls := by
  obtain ⟨⟨vs, hr, hx⟩, h3⟩ := h
  exact ⟨⟨vs, ownsRow_turn' hr ht h2, hx.turn ht h1⟩, h3⟩
theorem OwnO.below {w w' : World} {B : Nat} {F : Nat → Prop} {v : Value} {ls : List α} (h : OwnO E w B F v ls) (hb : Below w.heap.size w w') : OwnO E w' B F v ls := h.turn (Turn.of_below hb fun _ => False) (fun _ _ h => h) fun _ _ h => h
/-- the list, with all that it holds -/
theorem OwnO.x {w : World} {B : Nat} {F : Nat → Prop} {v : Value} {ls : List α} (h : OwnO E w B F v ls) : OwnX E w B (fun q => F q ∨ B ≤ q) v ls := by
  obtain ⟨⟨vs, hr, hx⟩, h3⟩ := id h
  exact ⟨⟨vs, hr, hx.mono fun k _ hk => ⟨.inl hk, fun e => by have := (h.lt k e).1; have := h3 k hk; omega⟩⟩, fun k hk => .inr (h.lt k hk).1⟩
theorem OwnO.form {w : World} {B : Nat} {F : Nat → Prop} {v : Value} {ls : List α} (h : OwnO E w B F v ls) : ∃ A c, v = .slice A ls.length c ∧ RdX E w (fun q => F q ∨ B ≤ q) A ls ∧ ls.length ≤ c ∧ c ≤ maxLen ∧ (A = none → ls = [] ∧ c = 0) := h.x.form
theorem run_append_o {w : World} (ty : TypeId) (B : Nat) (F : Nat → Prop) (v : Value) (ls : List α) (hown : OwnO E w B F v ls) (b off m c : Nat) (ys : List Value) (ms : List α) (hm : m = ms.length) (hy : RowX E w F ys ms)
    (hc : ∀ j u, ys[j]? = some u → w.cell? ⟨b, off + j, none⟩ = some u) (hb : ls.length + m ≤ 1099511627776) (hbase : B ≤ w.heap.size) :
    ∃ v' w', (Builtin.append_ #[E.sty, E.sty] ty #[v, .slice (some ⟨b, off, none⟩) m c]).run Try.prog w = .ok v' w' ∧ OwnO E w' B F v' (ls ++ ms) ∧ w.grownBy w' v.ownBlock ∧ (v'.ownBlock = v.ownBlock ∨ v'.ownBlock = some w.heap.size) := by
  obtain ⟨i0, z, hi, hz0, hz1, hz2, hz3⟩ := E.info
  obtain ⟨⟨vs, h1, h2⟩, h3⟩ := id hown
  have hby := E.byt
  obtain ⟨v', w', hrun, r1, r2, r3, r4⟩ := run_append_own_at (P := Try.prog) w B E.sty ty E.ety i0 z E.n E.bytes E.und hi hz0 hz1 hz2 hz3 E.pos v ls.length vs h1 ⟨b, off, none⟩ m c ys (by rw [hy.1, hm])
    (fun j u hu => by
      have e1 : (⟨b, off, none⟩ : Addr).add j = ⟨b, off + j, none⟩ := by
        unfold Addr.add
        split <;> simp_all
      rw [e1]
      exact hc j u hu) hy.one (by simp only [maxLen]; omega) (Nat.le_trans (Nat.mul_le_mul hb hby) (by decide)) hbase
  exact ⟨v', w', hrun, ⟨⟨vs ++ ys, by rw [List.length_append, ← hm]; exact r1, (h2.append hy).turn (Turn.of_grown r2) fun k hk e => by have := (hown.lt k e).1; have := h3 k hk; omega⟩, h3⟩, r2, r4⟩
variable {w : World} {ops : Array Oper} {rest : List Oper} {o : Oper} {a : Act} {Q : Exit → Act → World → Prop} {K : Act → World → Prop}
theorem wpList_append_o1 (hgd : o.guard = none) (s x : Operand) (ho : o.op = .call { callee := .builtin .append, args := #[s, x], argTypes := #[E.sty, E.sty] }) (B : Nat) (F : Nat → Prop) (v : Value) (ls : List α) (hs : a.eval s = v) (hown : OwnO E w B F v ls)
    (g c : Nat) (hx : a.eval x = .slice (some ⟨g, 0, none⟩) 1 c) (cs : List Value) (y : α) (hy : E.rd w F cs y) (t : TypeId) (hg : Cs w g t cs.toArray) (hb : ls.length + 1 ≤ 1099511627776) (hbase : B ≤ w.heap.size)
    (h : ∀ v' w', OwnO E w' B F v' (ls ++ [y]) → w.grownBy w' v.ownBlock → (v'.ownBlock = v.ownBlock ∨ v'.ownBlock = some w.heap.size) → wpList Try.prog ops Q rest (a.put o.dst v') w') : wpList Try.prog ops Q (o :: rest) a w := by
  refine wpList_plain hgd fun K hK => ?_
  obtain ⟨v', w', hr, h2, h3, h4⟩ := run_append_o (E := E) o.type B F v ls hown g 0 1 c cs [y] rfl (RowX.single hy) (fun j u hu => by rw [Nat.zero_add]; exact hg.cell j (by simpa using hu)) hb hbase
  unfold Oper.wp execOp
  simp only [ho, resolve, invoke, builtin, Sem.run_bind, Sem.run_pure, Result.andThen_ok, List.map_toArray, List.map_cons, List.map_nil, hs, hx, hr]
  exact hK _ _ (h v' w' h2 h3 h4)
/-- append of a whole list -/
theorem wpList_append_o (hgd : o.guard = none) (s x : Operand) (ho : o.op = .call { callee := .builtin .append, args := #[s, x], argTypes := #[E.sty, E.sty] }) (B : Nat) (F : Nat → Prop) (v u : Value) (ls ms : List α) (hs : a.eval s = v) (hown : OwnO E w B F v ls) (hx : a.eval x = u) (hu : OwnO E w B F u ms) (hb : ls.length + ms.length ≤ 1099511627776) (hbase : B ≤ w.heap.size)
    (h : ∀ v' w', OwnO E w' B F v' (ls ++ ms) → w.grownBy w' v.ownBlock → wpList Try.prog ops Q rest (a.put o.dst v') w') : wpList Try.prog ops Q (o :: rest) a w := by
  obtain ⟨⟨ys, h1, h2⟩, _⟩ := id hu
  rcases h1.2 with ⟨rfl, h0⟩ | ⟨g, cap, cur, rfl, hg, hh, hl, hm, hsz, htk⟩
  · have : ms = [] := List.eq_nil_of_length_eq_zero h0
    subst this
    obtain ⟨i0, z, hi, hz0, hz1, hz2, hz3⟩ := E.info
    obtain ⟨⟨vs, k1, k2⟩, k3⟩ := id hown
    refine wpList_append_own_none hgd s x E.sty ho B E.ety i0 E.n E.und hi v ls.length vs hs k1 hx ?_
    refine h v w ?_ (World.grownBy.refl w _)
    rw [List.append_nil]
    exact hown
  · refine wpList_plain hgd fun K hK => ?_
    obtain ⟨v', w', hr, h2, h3, h4⟩ := run_append_o (E := E) o.type B F v ls hown g 0 ms.length cap ys ms rfl h2 (fun j q hq => by
      have := h1.cells (g := g) rfl j q hq
      have e1 : (⟨g, 0, none⟩ : Addr).add j = ⟨g, 0 + j, none⟩ := by
        unfold Addr.add
        split <;> simp_all
      rwa [e1] at this) hb hbase
    unfold Oper.wp execOp
    simp only [ho, resolve, invoke, builtin, Sem.run_bind, Sem.run_pure, Result.andThen_ok, List.map_toArray, List.map_cons, List.map_nil, hs, hx, hr]
    exact hK _ _ (h v' w' h2 h3)
end
def aheadP (t : List Rw) (k : Key) : List Rw := t.filter fun y => lessK y.1 k
def behindP (t : List Rw) (k : Key) : List Rw := t.filter fun y => !lessK y.1 k
theorem withP_parts (t : List Rw) (x : Rw) : withP t x = aheadP t x.1 ++ [x] ++ behindP t x.1 := by simp [withP, aheadP, behindP]
theorem parts_take {t : List Rw} {k : Nat} {key : Key} (h : k < t.length) : aheadP (t.take (k + 1)) key = (if lessK t[k].1 key then aheadP (t.take k) key ++ [t[k]] else aheadP (t.take k) key) ∧ behindP (t.take (k + 1)) key = if lessK t[k].1 key then behindP (t.take k) key else behindP (t.take k) key ++ [t[k]] := by
  unfold aheadP behindP
  rw [List.take_succ_eq_append_getElem h, List.filter_append, List.filter_append]
  cases e : lessK t[k].1 key <;> simp [e]
theorem ab_len (t : List Rw) (key : Key) : (aheadP t key).length ≤ t.length ∧ (behindP t key).length ≤ t.length := ⟨List.length_filter_le _ _, List.length_filter_le _ _⟩
theorem row_rd {w : World} {F : Nat → Prop} {A : Option Addr} {ls : List Rw} (h : RdX rowE w F A ls) (j : Nat) (hj : j < ls.length) : ∃ b off A' c, A = some ⟨b, off, none⟩ ∧ At w b (off + j * 2) (rwCells ls[j] A' c) ∧ BsV w F (.slice A' ls[j].2.length c) ls[j].2 := by
  obtain ⟨b, off, cs, e, ⟨v, rfl, A', c, rfl, h1⟩, hat⟩ := h.get j hj
  exact ⟨b, off, A', c, e, hat, A', c, rfl, h1⟩
theorem rw_c0 {w : World} {g : Nat} {x : Rw} {A : Option Addr} {c : Nat} (h : Cs w g 50 (rwCells x A c).toArray) : w.cell? ⟨g, 0, none⟩ = some (.string ⟨x.1.toArray⟩) := h.cell 0 rfl
def WithRet (t : List Rw) (x : Rw) (F : Nat → Prop) (w : World) (e : Ending) (w' : World) : Prop := ∃ v, e = .returned v ∧ OwnX rowE w' w.heap.size (fun q => F q ∨ w.heap.size ≤ q) v (withP t x) ∧ Below w.heap.size w w'
theorem wpList_buildRow {w : World} {ops : Array Oper} {rest : List Oper} {o : Oper} {a : Act} {Q : Exit → Act → World → Prop} (hgd : o.guard = none) (x : Operand) (ho : o.op = .buildSlice 36 1 #[(0, x)]) (r : Rw) (A : Option Addr) (c : Nat) (hx : a.eval x = .agg (rwCells r A c).toArray)
    (hK : ∀ g w', Cs w' g 50 (rwCells r A c).toArray → Below w.heap.size w w' → w.heap.size ≤ g → wpList Try.prog ops Q rest (a.put o.dst (.slice (some ⟨g, 0, none⟩) 1 1)) w') : wpList Try.prog ops Q (o :: rest) a w :=
  wpList_plain hgd fun _ hh => wp_buildRow x ho r A c hx fun g w' h1 h2 h3 => hh _ _ (hK g w' h1 h2 h3)
set_option maxHeartbeats 8000000 in
theorem WithRef_any (t : List Rw) (x : Rw) (A A' : Option Addr) (c c' : Nat) (F : Nat → Prop) (w : World) (hl : t.length ≤ 1000000) (hF : ∀ k, F k → k < w.heap.size) (hr : RdX rowE w F A t) (hx : BsV w F (.slice A' x.2.length c') x.2) :
    Calls Try.prog 49 #[.slice A t.length c, .agg (rwCells x A' c').toArray] w fun e w' => WithRet t x F w e w' := by
  have hl' : (t.length : Int) ≤ 9223372036854775807 := by omega
  have HR := Lib.hid hr
  have HX := Lib.hid hx
  have HF := Lib.hid hF
  have hlb := less_bytes
  clear hr hx hF
  go_enter Try.func49, Try.ntmps49
  go_wp2_with (first | ((with_reducible show wpList _ _ _ _ _ w); refine wpList_boxS rfl 50 _ rfl (rwCells x A' c') rfl ?_; intro g3 w1 hk1 hb1 hg1; go_frame; have K1 := Lib.hid hk1; have B1 := Lib.hid hb1; have G3 := Lib.hid hg1; clear hk1 hb1 hg1))
  go_loopw [5, 6, 7] (fun va vb j wr => ∃ k : Nat, j = .int .i64 k ∧ k ≤ t.length ∧ OwnO rowE wr w1.heap.size F va (aheadP (t.take k) x.1) ∧ OwnO rowE wr w1.heap.size F vb (behindP (t.take k) x.1) ∧ (∀ q, va.ownBlock = some q → vb.ownBlock ≠ some q) ∧ Cs wr g3 50 (rwCells x A' c').toArray ∧ Below w.heap.size w wr ∧ w1.heap.size ≤ wr.heap.size) (fun _ _ j _ => t.length - (RowKit.intOf j).toNat)
  case atStart => exact ⟨0, rfl, Nat.zero_le _, OwnO.nil _ _ _ fun k hk => Nat.lt_of_lt_of_le (HF.out k hk) B1.out.size, OwnO.nil _ _ _ fun k hk => Nat.lt_of_lt_of_le (HF.out k hk) B1.out.size, (fun q h => by cases h), K1.out, B1.out, Nat.le_refl _⟩
  case round =>
    obtain ⟨k, rfl, hk, hoa, hob, hap, hk3, hb, hw1⟩ := hrel
    have HA := Lib.hid hoa
    have HB := Lib.hid hob
    have HAP := Lib.hid hap
    have K3 := Lib.hid hk3
    have BW := Lib.hid hb
    have HG := Lib.hid K1.out.lt
    clear hoa hob hap hk3 hb
    have la := (ab_len (t.take k) x.1).1
    have lb := (ab_len (t.take k) x.1).2
    rw [List.length_take] at la lb
    by_cases hlt : k < t.length
    · have hlt' : (k : Int) < (t.length : Int) := by omega
      obtain ⟨b, off, A1, c1, rfl, hat, hbv⟩ := row_rd HR.out k hlt
      have HP1 := Lib.hid (parts_take (key := x.1) hlt).1
      have HP2 := Lib.hid (parts_take (key := x.1) hlt).2
      generalize t[k] = y at *
      have HAT := Lib.hid (show At wr b (off + k * 2) (rwCells y A1 c1) from fun j v hv => (BW.out.cell (lt_of_cell (hat j v hv))).trans (hat j v hv))
      have HBV := Lib.hid (show BsV wr F (.slice A1 y.2.length c1) y.2 from hbv.turn (Turn.of_below (BW.out.mono (Nat.le_refl _)) fun _ => False) fun _ _ h => h)
      have q1 : wr.cell? ⟨b, off + k * 2, none⟩ = some (.string ⟨y.1.toArray⟩) := HAT.out 0 _ rfl
      have q2 := rw_c0 K3.out
      clear hat hbv
      obtain ⟨y1, y2⟩ := y
      dsimp only at *
      cases hls : lessK y1 x.1
      · skip
        rw [hls] at HP1 HP2
        have HN1 := Lib.hid HP1.out
        have HN2 := Lib.hid HP2.out
        simp only [if_true, Bool.false_eq_true, if_false] at HN1 HN2
        clear HP1 HP2
        go_wp2_with fail
        go_quiet (fail)
        clear q1 q2
        have HA2 := Lib.hid (HA.out.below (below_drewN (Below.refl _ _) nq))
        have HB2 := Lib.hid (HB.out.below (below_drewN (Below.refl _ _) nq))
        have K4 := Lib.hid (K3.out.below (below_drewN (Below.refl _ _) nq) K3.out.lt)
        have BW2 := Lib.hid (below_drewN BW.out nq)
        have HAT2 := Lib.hid (show At (wr.drewN nq) b (off + k * 2) (rwCells (y1, y2) A1 c1) from HAT.out)
        have HBV2 := Lib.hid (HBV.out.below (below_drewN (Below.refl _ _) nq))
        have hw2 : w1.heap.size ≤ (wr.drewN nq).heap.size := hw1
        clear HAT HBV K3 BW
        generalize wr.drewN nq = w2 at *
        have HTA := HA
        have HTB := HB
        clear HA HB
        go_wp2_with (first
          | ((with_reducible show wpList _ _ _ _ _ w2); refine wpList_load_agg rfl 50 _ rfl b (off + k * 2) rfl (rwCells (y1, y2) A1 c1) HAT2.out _ Try.underlying50 rfl (infoRw (y1, y2) A1 c1) ?_; go_frame)
          | ((with_reducible show wpList _ _ _ _ _ w2); refine wpList_buildRow rfl _ rfl (y1, y2) A1 c1 rfl ?_; intro g9 u3 hk hb hg; go_frame; have K9 := Lib.hid hk; have B9 := Lib.hid hb; clear hk hb hg)
          | (at_builtin; go_loud (refine wpList_append_o1 (E := rowE) rfl _ _ rfl w1.heap.size F _ (behindP (t.take k) x.1) rfl (HB2.out.below B9.out) g9 1 rfl (rwCells (y1, y2) A1 c1) (y1, y2) ⟨_, rfl, HBV2.out.below B9.out⟩ 50 K9.out (by omega) (Nat.le_trans hw2 B9.out.size) ?_; intro v5 u5 ho5 hg5 h5; go_frame; have O5 := Lib.hid ho5; have G5 := Lib.hid hg5; have H5 := Lib.hid h5; clear ho5 hg5 h5)))
        have OT := Lib.hid ((HA2.out.below B9.out).turn (Turn.of_grown G5.out) (fun q hq e => by have := (HB2.out.lt q e).1; have := HB2.out.old q hq; omega) (fun q e1 e2 => HAP.out q e1 e2))
        have K5 := Lib.hid ((K4.out.below B9.out K4.out.lt).turn (Turn.of_grown G5.out) (fun e => by have := (HB2.out.lt _ e).1; have := HG.out; omega))
        have B5 := Lib.hid ((BW2.out.trans (B9.out.mono BW2.out.size)).grown G5.out (Nat.le_trans BW2.out.size B9.out.size) (fun q e => by have := (HB2.out.lt q e).1; have := B1.out.size; omega))
        have S5 := Lib.hid (show w1.heap.size ≤ u5.heap.size from Nat.le_trans hw2 (Nat.le_trans B9.out.size G5.out.size))
        have D5 := Lib.hid (show ∀ q, v5.ownBlock = some q → ¬ (Value.ownBlock _) = some q from fun q e1 e2 => by
          rcases H5.out with h | h
          · rw [h] at e1; exact HAP.out q e2 e1
          · rw [h] at e1; cases e1; have := (HA2.out.lt _ e2).2; have := B9.out.size; omega)
        go_roundw
        case rel => exact ⟨k + 1, by go_num, hlt, by rw [HN1.out]; exact OT.out, by rw [HN2.out]; exact O5.out, fun q e1 e2 => D5.out q e2 e1, K5.out, B5.out, S5.out⟩
        case measure => simp [intOf]; omega
      · skip
        rw [hls] at HP1 HP2
        have HN1 := Lib.hid HP1.out
        have HN2 := Lib.hid HP2.out
        simp only [if_true, Bool.false_eq_true, if_false] at HN1 HN2
        clear HP1 HP2
        go_wp2_with fail
        go_quiet (fail)
        clear q1 q2
        have HA2 := Lib.hid (HA.out.below (below_drewN (Below.refl _ _) nq))
        have HB2 := Lib.hid (HB.out.below (below_drewN (Below.refl _ _) nq))
        have K4 := Lib.hid (K3.out.below (below_drewN (Below.refl _ _) nq) K3.out.lt)
        have BW2 := Lib.hid (below_drewN BW.out nq)
        have HAT2 := Lib.hid (show At (wr.drewN nq) b (off + k * 2) (rwCells (y1, y2) A1 c1) from HAT.out)
        have HBV2 := Lib.hid (HBV.out.below (below_drewN (Below.refl _ _) nq))
        have hw2 : w1.heap.size ≤ (wr.drewN nq).heap.size := hw1
        clear HAT HBV K3 BW
        generalize wr.drewN nq = w2 at *
        have HTA := HA
        have HTB := HB
        clear HA HB
        go_wp2_with (first
          | ((with_reducible show wpList _ _ _ _ _ w2); refine wpList_load_agg rfl 50 _ rfl b (off + k * 2) rfl (rwCells (y1, y2) A1 c1) HAT2.out _ Try.underlying50 rfl (infoRw (y1, y2) A1 c1) ?_; go_frame)
          | ((with_reducible show wpList _ _ _ _ _ w2); refine wpList_buildRow rfl _ rfl (y1, y2) A1 c1 rfl ?_; intro g9 u3 hk hb hg; go_frame; have K9 := Lib.hid hk; have B9 := Lib.hid hb; clear hk hb hg)
          | (at_builtin; go_loud (refine wpList_append_o1 (E := rowE) rfl _ _ rfl w1.heap.size F _ (aheadP (t.take k) x.1) rfl (HA2.out.below B9.out) g9 1 rfl (rwCells (y1, y2) A1 c1) (y1, y2) ⟨_, rfl, HBV2.out.below B9.out⟩ 50 K9.out (by omega) (Nat.le_trans hw2 B9.out.size) ?_; intro v5 u5 ho5 hg5 h5; go_frame; have O5 := Lib.hid ho5; have G5 := Lib.hid hg5; have H5 := Lib.hid h5; clear ho5 hg5 h5)))
        have OT := Lib.hid ((HB2.out.below B9.out).turn (Turn.of_grown G5.out) (fun q hq e => by have := (HA2.out.lt q e).1; have := HA2.out.old q hq; omega) (fun q e1 e2 => HAP.out q e2 e1))
        have K5 := Lib.hid ((K4.out.below B9.out K4.out.lt).turn (Turn.of_grown G5.out) (fun e => by have := (HA2.out.lt _ e).1; have := HG.out; omega))
        have B5 := Lib.hid ((BW2.out.trans (B9.out.mono BW2.out.size)).grown G5.out (Nat.le_trans BW2.out.size B9.out.size) (fun q e => by have := (HA2.out.lt q e).1; have := B1.out.size; omega))
        have S5 := Lib.hid (show w1.heap.size ≤ u5.heap.size from Nat.le_trans hw2 (Nat.le_trans B9.out.size G5.out.size))
        have D5 := Lib.hid (show ∀ q, v5.ownBlock = some q → ¬ (Value.ownBlock _) = some q from fun q e1 e2 => by
          rcases H5.out with h | h
          · rw [h] at e1; exact HAP.out q e1 e2
          · rw [h] at e1; cases e1; have := (HB2.out.lt _ e2).2; have := B9.out.size; omega)
        go_roundw
        case rel => exact ⟨k + 1, by go_num, hlt, by rw [HN1.out]; exact O5.out, by rw [HN2.out]; exact OT.out, fun q e1 e2 => D5.out q e1 e2, K5.out, B5.out, S5.out⟩
        case measure => simp [intOf]; omega
    · have hk' : t.take k = t := List.take_of_length_le (by omega)
      rw [hk'] at HA HB la lb
      have hm : min k t.length = t.length := by omega
      go_wp2_with (first
        | ((with_reducible show wpList _ _ _ _ _ wr); refine wpList_loadS rfl 50 _ rfl g3 rfl (rwCells x A' c') K3.out _ Try.underlying50 rfl (infoRw x A' c') ?_; go_frame)
        | ((with_reducible show wpList _ _ _ _ _ wr); refine wpList_buildRow rfl _ rfl x A' c' rfl ?_; intro g9 u3 hk hb hg; go_frame; have K9 := Lib.hid hk; have B9 := Lib.hid hb; clear hk hb hg)
        | ((with_reducible show wpList _ _ _ _ _ u3); at_builtin; go_loud (refine wpList_append_o1 (E := rowE) rfl _ _ rfl w1.heap.size F _ (aheadP t x.1) rfl (HA.out.below B9.out) g9 1 rfl (rwCells x A' c') x ⟨_, rfl, (HX.out.turn (Turn.of_below BW.out fun _ => False) fun _ _ h => h).below B9.out⟩ 50 K9.out (by omega) (Nat.le_trans hw1 B9.out.size) ?_; intro v5 u5 ho5 hg5 h5; go_frame; have O5 := Lib.hid ho5; have G5 := Lib.hid hg5; have H5 := Lib.hid h5; have OT := Lib.hid ((HB.out.below B9.out).turn (Turn.of_grown hg5) (fun q hq e => by have := (HA.out.lt q e).1; have := HA.out.old q hq; omega) (fun q e1 e2 => HAP.out q e2 e1)); have B5 := Lib.hid ((BW.out.trans (B9.out.mono BW.out.size)).grown hg5 (Nat.le_trans BW.out.size B9.out.size) (fun q e => by have := (HA.out.lt q e).1; have := B1.out.size; omega)); have S5 := Lib.hid (Nat.le_trans hw1 (Nat.le_trans B9.out.size hg5.size)); clear ho5 hg5 h5))
        | ((with_reducible show wpList _ _ _ _ _ u5); at_builtin; go_loud (refine wpList_append_o (E := rowE) rfl _ _ rfl w1.heap.size F _ _ (aheadP t x.1 ++ [x]) (behindP t x.1) rfl O5.out rfl OT.out (by simp; omega) S5.out ?_; intro v6 u6 ho6 hg6; go_frame; have O6 := Lib.hid ho6; have B6 := Lib.hid (B5.out.grown hg6 B5.out.size (fun q e => by have := (O5.out.lt q e).1; have := B1.out.size; omega)); clear ho6 hg6)))
      go_ret
      refine ⟨_, rfl, ?_, B6.out⟩
      rw [withP_parts]
      exact (O6.out.x.base B1.out.size).mono fun q _ hq => hq.imp id fun h => Nat.le_trans B1.out.size h

end Go.Proofs.Ytiemphfikfigdaa

/- The reference of layer 7: Apply. -/
namespace Go.Proofs.Ytiemphfikfigdaa
open Go.RowKit Go.Shelf
set_option linter.unusedVariables false
set_option maxRecDepth 100000
set_option linter.unusedSimpArgs false

theorem apply_take {t : List Rw} {l : List Ch} {k : Nat} (h : k < l.length) : applyP t (l.take (k + 1)) = stepP (applyP t (l.take k)) l[k] := by
  rw [List.take_succ_eq_append_getElem h]
  unfold applyP
  rw [List.foldl_append]
  rfl
theorem step_len (t : List Rw) (c : Ch) : (stepP t c).length ≤ t.length + 1 := by
  unfold stepP
  have h1 := without_len t c.1
  split
  · omega
  · rw [withP_parts]
    have h2 : (aheadP (withoutP t c.1) c.1).length + (behindP (withoutP t c.1) c.1).length = (withoutP t c.1).length := by
      unfold aheadP behindP
      generalize withoutP t c.1 = u
      induction u with
      | nil => rfl
      | cons y u ih => cases e : lessK y.1 c.1 <;> simp [e] <;> omega
    simp
    omega
theorem apply_len : ∀ (l : List Ch) (t : List Rw), (applyP t l).length ≤ t.length + l.length
  | [], t => by simp [applyP]
  | c :: l, t => by
    have h1 := apply_len l (stepP t c)
    have h2 := step_len t c
    show (applyP (stepP t c) l).length ≤ _
    simp only [List.length_cons]
    omega
def ApplyRet (t : List Rw) (l : List Ch) (w : World) (e : Ending) (w' : World) : Prop := Below w.heap.size w w' ∧
  if mayP t && mayCP l then ∃ v, e = .returned (.tuple #[v, .int .i64 0]) ∧ OwnX rowE w' w.heap.size (w.heap.size ≤ ·) v (applyP t l) else e = .returned (.tuple #[.slice none 0 0, .int .i64 2])
theorem ApplyRet.no {t : List Rw} {l : List Ch} {w w' : World} (h : (mayP t && mayCP l) = false) (hb : Below w.heap.size w w') : ApplyRet t l w (.returned (.tuple #[.slice none 0 0, .int .i64 2])) w' := ⟨hb, by rw [h]; rfl⟩
theorem ApplyRet.yes {t : List Rw} {l : List Ch} {w w' : World} {v : Value} (h : (mayP t && mayCP l) = true) (hb : Below w.heap.size w w') (ho : OwnX rowE w' w.heap.size (w.heap.size ≤ ·) v (applyP t l)) : ApplyRet t l w (.returned (.tuple #[v, .int .i64 0])) w' := ⟨hb, by rw [h, if_pos rfl]; exact ⟨v, rfl, ho⟩⟩
set_option maxHeartbeats 8000000 in
theorem ApplyRef_any (t : List Rw) (l : List Ch) (A B : Option Addr) (ca cb : Nat) (F G : Nat → Prop) (w : World) (hs : SmallR t) (hs' : SmallC l) (ht : t.length ≤ 100000) (hl : l.length ≤ 100000) (hr : RdX rowE w F A t) (hr' : RdX chgE w G B l) :
    Calls Try.prog 22 #[.slice A t.length ca, .slice B l.length cb] w fun e w' => ApplyRet t l w e w' := by
  have hmix : Try.prog.follows .mixedOrders = true := by kernel_rfl
  have hm1 := MayRef_any t A ca F w hs hr
  have hm2 := fun u (hb : Below w.heap.size w u) => MayCRef_any l B cb G u hs' (hr'.below hb)
  have HR := Lib.hid hr
  have HR2 := Lib.hid hr'
  have hl' : (l.length : Int) ≤ 9223372036854775807 := by omega
  clear hs hs' hr hr'
  cases h1 : mayP t
  · rw [h1] at hm1
    have HN := Lib.hid (show (mayP t && mayCP l) = false by rw [h1]; rfl)
    clear h1 hm2
    go_enter Try.func22, Try.ntmps22
    go_wp2_with fail
    refine hm1.mono ?_
    rintro e w1 ⟨rfl, hb⟩
    go_wp2_with fail
    go_ret2
    exact ApplyRet.no HN.out hb
  cases h2 : mayCP l
  · rw [h1] at hm1
    have HM2 := Lib.hid hm2
    have HN := Lib.hid (show (mayP t && mayCP l) = false by rw [h1, h2]; rfl)
    have H2 := Lib.hid h2
    clear h1 h2 hm2
    go_enter Try.func22, Try.ntmps22
    go_wp2_with fail
    refine hm1.mono ?_
    rintro e w1 ⟨rfl, hb⟩
    go_wp2_with fail
    have hx := HM2.out w1 hb
    rw [H2.out] at hx
    refine hx.mono ?_
    clear hx
    rintro e w2 ⟨rfl, hb2⟩
    go_wp2_with fail
    go_ret2
    exact ApplyRet.no HN.out (below_chain hb hb2)
  rw [h1] at hm1
  have HM2 := Lib.hid hm2
  have HN := Lib.hid (show (mayP t && mayCP l) = true by rw [h1, h2]; rfl)
  have H1 := Lib.hid h1
  have H2 := Lib.hid h2
  have hgood := fun k => good_apply (l.take k) (t := t) ((may_iff t).1 h1).1 fun c hc => ((mayC_iff l).1 h2).1 c (List.mem_of_mem_take hc)
  have hlen := fun k => apply_len (l.take k) t
  have HG := Lib.hid hgood
  have HL := Lib.hid hlen
  have H0 := Lib.hid (show applyP t (l.take 0) = withoutP t [] by rw [without_nil h1]; rfl)
  have HV0 := Lib.hid (show ∀ x ∈ t, x.2.length ≤ 1000000 from fun x hx => by have := (((may_iff t).1 h1).1 x hx).2.2; omega)
  clear h1 h2 hm2 hgood hlen
  go_enter Try.func22, Try.ntmps22
  go_wp2_with fail
  refine hm1.mono ?_
  clear hm1
  rintro e w1 ⟨rfl, hb⟩
  have B1 := Lib.hid hb
  clear hb
  go_wp2_with fail
  have hx := HM2.out w1 B1.out
  rw [H2.out] at hx
  refine hx.mono ?_
  clear hx
  rintro e w2 ⟨rfl, hb⟩
  have B2 := Lib.hid (below_chain B1.out hb)
  clear hb B1 HM2
  go_wp2_with fail
  refine (WithoutRef_any t [] A ca F w2 (by omega) HV0.out (HR.out.below B2.out)).mono ?_
  rintro e w3 ⟨v3, rfl, ho3, hb⟩
  have O3 := Lib.hid (show OwnX rowE w3 w.heap.size (w.heap.size ≤ ·) v3 (applyP t (l.take 0)) from by rw [H0.out]; exact (ho3.base B2.out.size).mono fun q _ hq => Nat.le_trans B2.out.size hq)
  have B3 := Lib.hid (below_chain B2.out hb)
  clear ho3 hb B2
  go_wp2_with fail
  go_loopw [6, 7] (fun v j wr => ∃ k : Nat, j = .int .i64 k ∧ k ≤ l.length ∧ OwnX rowE wr w.heap.size (w.heap.size ≤ ·) v (applyP t (l.take k)) ∧ Below w.heap.size w wr) (fun _ j _ => l.length - (RowKit.intOf j).toNat)
  case atStart => exact ⟨0, rfl, Nat.zero_le _, O3.out, B3.out⟩
  case round =>
    obtain ⟨k, rfl, hk, ho, hb⟩ := hrel
    have HO := Lib.hid ho
    have HB := Lib.hid hb
    clear hb O3 B3
    by_cases hlt : k < l.length
    · have hlt' : (k : Int) < (l.length : Int) := by omega
      obtain ⟨b, off, A1, c1, rfl, hc1, hd1, hg1, hr1, hn1, hx1, hx2⟩ := chg_at HR2.out k hlt
      have HST := Lib.hid (apply_take (t := t) hlt)
      have hcl := HL.out k
      rw [List.length_take] at hcl
      have HCG := Lib.hid (HG.out k)
      have hcv : l[k].2.1.length ≤ 8192 := (((mayC_iff l).1 H2.out).1 _ (List.getElem_mem hlt)).1.2.2
      generalize l[k] = x at *
      obtain ⟨x1, x2, x3⟩ := x
      dsimp only at *
      obtain ⟨cur, hcur⟩ : ∃ cur, applyP t (l.take k) = cur := ⟨_, rfl⟩
      rw [hcur] at HST HO HCG hcl ho
      unfold stepP at HST
      dsimp only at HST
      clear hcur
      obtain ⟨A5, c5, hv5, hrd5, hl5, hm5, hn5⟩ := ho.form
      subst hv5
      have HRD5 := Lib.hid hrd5
      have HC1 := Lib.hid hc1
      have HD1 := Lib.hid hd1
      have HRV := Lib.hid hr1.rd
      have HNV := Lib.hid hn1
      have q1 : wr.cell? ⟨b, off + k * 3, none⟩ = some (.string ⟨x1.toArray⟩) := (HB.out.cell (lt_of_cell hc1)).trans hc1
      have hwo := WithoutRef_any cur x1 A5 c5 _ wr (by omega) (fun y hy => by have := (HCG.out y hy).2.2; omega) hrd5
      have HWO := Lib.hid hwo
      clear hc1 hd1 hr1 hn1 hrd5 ho hwo
      have HG1 := Lib.hid hg1
      clear hg1
      go_wp2_with fail
      refine HWO.out.mono ?_
      clear HWO q1
      rintro e w4 ⟨v4, rfl, ho4, hb4⟩
      have hzz := HB.out.size
      have O4 := Lib.hid ((ho4.base hzz).mono (G := (w.heap.size ≤ ·)) fun q _ hq => Nat.le_trans hzz hq)
      have B4 := Lib.hid (below_chain HB.out hb4)
      have q2 : w4.cell? ⟨b, off + k * 3 + 2, none⟩ = some (.bool x3) := (B4.out.cell (lt_of_cell HG1.out)).trans HG1.out
      clear ho4 hb4
      cases x3
      · obtain ⟨A6, c6, hv6, hrd6, hl6, hm6, hn6⟩ := O4.out.form
        subst hv6
        have hwl := without_len cur x1
        have HRD6 := Lib.hid hrd6
        have HN2 := Lib.hid (HST.out.trans (if_neg (by decide)))
        clear hrd6
        have hcp := fun u (hu : Below w.heap.size w u) => Copy_any x2 A1 c1 u (by omega) (HRV.out.below hu) HNV.out
        have HCP := Lib.hid hcp
        clear hcp
        go_wp2_with fail
        clear q2
        refine wp_region_V [13] (fun y => Below w.heap.size w y ∧ OwnX rowE y w.heap.size (w.heap.size ≤ ·) (.slice A6 (withoutP cur x1).length c6) (withoutP cur x1)) hmix (⟨B4.out.drew, O4.out.below (Below.refl _ _).drew⟩) ?_
        change wpAnyV _ _ _ _ _ _ _ _ _
        refine wpAnyV_take (i := 0) (v := .slice A6 (withoutP cur x1).length c6) 8 (kept_and (kept_below w) (kept_ownX _ _ _ _)) rfl (by kernel_rfl) (by kernel_rfl) (fun _ _ _ h => h) (fun _ h => h) (DoesV.reads (by rfl) fun w9 hS => by go_simp) ?_
        try simp only [List.getElem_toArray, List.getElem_cons_succ, List.getElem_cons_zero, Act.put, List.setIfInBounds_toArray, List.set_cons_succ, List.set_cons_zero]
        refine wpAnyV_take (i := 1) (v := .slice (some ⟨b, off, none⟩) l.length cb) 8 (kept_and (kept_below w) (kept_ownX _ _ _ _)) rfl (by kernel_rfl) (by kernel_rfl) (fun _ _ _ h => h) (fun _ h => h) (DoesV.reads (by rfl) fun w9 hS => by go_simp) ?_
        try simp only [List.getElem_toArray, List.getElem_cons_succ, List.getElem_cons_zero, Act.put, List.setIfInBounds_toArray, List.set_cons_succ, List.set_cons_zero]
        refine wpAnyV_take (i := 2) (v := .int .i64 (k : Int)) 8 (kept_and (kept_below w) (kept_ownX _ _ _ _)) rfl (by kernel_rfl) (by kernel_rfl) (fun _ _ _ h => h) (fun _ h => h) (DoesV.reads (by rfl) fun w9 hS => by go_simp) ?_
        try simp only [List.getElem_toArray, List.getElem_cons_succ, List.getElem_cons_zero, Act.put, List.setIfInBounds_toArray, List.set_cons_succ, List.set_cons_zero]
        refine wpAnyV_take (i := 3) (v := .pointer (some ⟨b, off + k * 3, none⟩)) 8 (kept_and (kept_below w) (kept_ownX _ _ _ _)) rfl (by kernel_rfl) (by kernel_rfl) (fun _ _ _ h => h) (fun _ h => h) (DoesV.reads (by rfl) fun w9 hS => by go_simp) ?_
        try simp only [List.getElem_toArray, List.getElem_cons_succ, List.getElem_cons_zero, Act.put, List.setIfInBounds_toArray, List.set_cons_succ, List.set_cons_zero]
        refine wpAnyV_take (i := 4) (v := .pointer (some ⟨b, off + k * 3, none⟩)) 8 (kept_and (kept_below w) (kept_ownX _ _ _ _)) rfl (by kernel_rfl) (by kernel_rfl) (fun _ _ _ h => h) (fun _ h => h) (DoesV.reads (by rfl) fun w9 hS => by go_simp) ?_
        try simp only [List.getElem_toArray, List.getElem_cons_succ, List.getElem_cons_zero, Act.put, List.setIfInBounds_toArray, List.set_cons_succ, List.set_cons_zero]
        refine wpAnyV_take (i := 5) (v := .string ⟨x1.toArray⟩) 8 (kept_and (kept_below w) (kept_ownX _ _ _ _)) rfl (by kernel_rfl) (by kernel_rfl) (fun _ _ _ h => h) (fun _ h => h) (DoesV.reads (by rfl) fun w9 hS => by have q9 := (hS.1.cell (lt_of_cell HC1.out)).trans HC1.out; go_simp) ?_
        try simp only [List.getElem_toArray, List.getElem_cons_succ, List.getElem_cons_zero, Act.put, List.setIfInBounds_toArray, List.set_cons_succ, List.set_cons_zero]
        refine wpAnyV_take (i := 6) (v := .slice (some ⟨b, off, none⟩) l.length cb) 8 (kept_and (kept_below w) (kept_ownX _ _ _ _)) rfl (by kernel_rfl) (by kernel_rfl) (fun _ _ _ h => h) (fun _ h => h) (DoesV.reads (by rfl) fun w9 hS => by go_simp) ?_
        try simp only [List.getElem_toArray, List.getElem_cons_succ, List.getElem_cons_zero, Act.put, List.setIfInBounds_toArray, List.set_cons_succ, List.set_cons_zero]
        refine wpAnyV_take (i := 7) (v := .int .i64 (k : Int)) 8 (kept_and (kept_below w) (kept_ownX _ _ _ _)) rfl (by kernel_rfl) (by kernel_rfl) (fun _ _ _ h => h) (fun _ h => h) (DoesV.reads (by rfl) fun w9 hS => by go_simp) ?_
        try simp only [List.getElem_toArray, List.getElem_cons_succ, List.getElem_cons_zero, Act.put, List.setIfInBounds_toArray, List.set_cons_succ, List.set_cons_zero]
        refine wpAnyV_take (i := 8) (v := .pointer (some ⟨b, off + k * 3, none⟩)) 8 (kept_and (kept_below w) (kept_ownX _ _ _ _)) rfl (by kernel_rfl) (by kernel_rfl) (fun _ _ _ h => h) (fun _ h => h) (DoesV.reads (by rfl) fun w9 hS => by go_simp) ?_
        try simp only [List.getElem_toArray, List.getElem_cons_succ, List.getElem_cons_zero, Act.put, List.setIfInBounds_toArray, List.set_cons_succ, List.set_cons_zero]
        refine wpAnyV_take (i := 9) (v := .pointer (some ⟨b, off + k * 3 + 1, none⟩)) 8 (kept_and (kept_below w) (kept_ownX _ _ _ _)) rfl (by kernel_rfl) (by kernel_rfl) (fun _ _ _ h => h) (fun _ h => h) (DoesV.reads (by rfl) fun w9 hS => by go_simp) ?_
        try simp only [List.getElem_toArray, List.getElem_cons_succ, List.getElem_cons_zero, Act.put, List.setIfInBounds_toArray, List.set_cons_succ, List.set_cons_zero]
        refine wpAnyV_take (i := 10) (v := .slice A1 x2.length c1) 8 (kept_and (kept_below w) (kept_ownX _ _ _ _)) rfl (by kernel_rfl) (by kernel_rfl) (fun _ _ _ h => h) (fun _ h => h) (DoesV.reads (by rfl) fun w9 hS => by have q9 := (hS.1.cell (lt_of_cell HD1.out)).trans HD1.out; go_simp) ?_
        try simp only [List.getElem_toArray, List.getElem_cons_succ, List.getElem_cons_zero, Act.put, List.setIfInBounds_toArray, List.set_cons_succ, List.set_cons_zero]
        refine wpAnyV_only (i := 11) rfl (by kernel_rfl) rfl (fun u hS => wp_of_call (by go_simp) (HCP.out u hS.1) fun e u' ⟨v1, he, ho1, hb1⟩ => ⟨v1, he, (fun y => (Below w.heap.size w y ∧ OwnX rowE y w.heap.size (w.heap.size ≤ ·) (.slice A6 (withoutP cur x1).length c6) (withoutP cur x1)) ∧ BsV y (w.heap.size ≤ ·) v1 x2), ⟨⟨below_chain hS.1 hb1, hS.2.below hb1⟩, (BsV.own ho1).mono fun q _ hq => Nat.le_trans hS.1.size hq⟩, (kept_and (kept_and (kept_below w) (kept_ownX _ _ _ _)) (kept_bsv _ _ _)), fun _ y h => h.1, ?_⟩)
        try simp only [List.getElem_toArray, List.getElem_cons_succ, List.getElem_cons_zero, Act.put, List.setIfInBounds_toArray, List.set_cons_succ, List.set_cons_zero]
        have hbv := BsV.own ho1
        obtain ⟨A2, c2, hv2, -⟩ := id hbv
        subst hv2
        refine wpAnyV_pure (i := 12) (v := .agg #[.string ⟨x1.toArray⟩, .slice A2 x2.length c2]) (kept_and (kept_and (kept_below w) (kept_ownX _ _ _ _)) (kept_bsv _ _ _)) rfl (by kernel_rfl) (by kernel_rfl) (fun _ _ _ h => h) (DoesV.reads (by rfl) fun w9 hS => by go_simp) ?_
        try simp only [List.getElem_toArray, List.getElem_cons_succ, List.getElem_cons_zero, Act.put, List.setIfInBounds_toArray, List.set_cons_succ, List.set_cons_zero]
        refine wpAnyV_only (i := 13) rfl (by kernel_rfl) rfl (fun y hy => wp_of_call (f := 49) (by simp only [rwCells]; go_simp) (WithRef_any (withoutP cur x1) (x1, x2) A6 A2 c6 c2 (fun q => w.heap.size ≤ q ∧ q < y.heap.size) y (by omega) (fun q hq => hq.2) (by obtain ⟨A7, c7, e7, h7, -⟩ := hy.1.2.form; cases e7; exact h7.mono fun q hq h => ⟨h, hq⟩) (hy.2.mono fun q hq h => ⟨h, hq⟩)) fun e y' ⟨v3', he, ho3, hb3⟩ => ⟨v3', he, (fun y => Below w.heap.size w y ∧ OwnX rowE y w.heap.size (w.heap.size ≤ ·) v3' (withP (withoutP cur x1) (x1, x2))), ⟨below_chain hy.1.1 hb3, (ho3.base hy.1.1.size).mono fun q _ hq => hq.elim (fun h => h.1) fun h => Nat.le_trans hy.1.1.size h⟩, kept_and (kept_below w) (kept_ownX _ _ _ _), fun h => absurd (by simp) h, ?_⟩)
        try simp only [List.getElem_toArray, List.getElem_cons_succ, List.getElem_cons_zero, Act.put, List.setIfInBounds_toArray, List.set_cons_succ, List.set_cons_zero]
        refine wpAnyV_pure (i := 14) (v := v3') (kept_and (kept_below w) (kept_ownX _ _ _ _)) rfl (by kernel_rfl) (by kernel_rfl) (fun _ _ _ h => h) (DoesV.reads (by rfl) fun w9 hS => by go_simp) ?_
        try simp only [List.getElem_toArray, List.getElem_cons_succ, List.getElem_cons_zero, Act.put, List.setIfInBounds_toArray, List.set_cons_succ, List.set_cons_zero]
        refine wpAnyV_done (by kernel_rfl) (fun y1 hu => ?_) _
        have HU := Lib.hid hu
        clear hu
        go_wp2_with fail
        go_roundw
        case rel => exact ⟨k + 1, by go_num, hlt, by rw [HN2.out]; exact HU.out.2, HU.out.1⟩
        case measure => simp [intOf]; omega
      · have HN2 := Lib.hid (HST.out.trans (if_pos rfl))
        go_wp2_with fail
        go_roundw
        case rel => exact ⟨k + 1, by go_num, hlt, by rw [HN2.out]; exact O4.out, B4.out⟩
        case measure => simp [intOf]; omega
    · have hk' : l.take k = l := List.take_of_length_le (by omega)
      rw [hk'] at HO
      go_wp2_with fail
      go_ret2
      exact ApplyRet.yes HN.out HB.out HO.out

end Go.Proofs.Ytiemphfikfigdaa

/- The reference of layer 7: Between. -/
namespace Go.Proofs.Ytiemphfikfigdaa
open Go.RowKit Go.Shelf
set_option linter.unusedVariables false
set_option maxRecDepth 100000
set_option linter.unusedSimpArgs false

def rwZero : List Value := [.string ⟨#[]⟩, .slice none 0 0]
theorem zeroRw (w : World) : (zeroValue 50).run Try.prog w = .ok (.agg rwZero.toArray) w := by kernel_rfl
theorem infoRw2 (a b : Value) : (Try.prog.info? 50).map (·.size) = some [a, b].length := by kernel_rfl
theorem one2r {a b : Value} (h1 : a.oneCell' = true) (h2 : b.oneCell' = true) : ∀ v ∈ [a, b], v.oneCell' = true := by
  intro v hv
  simp at hv
  rcases hv with rfl | rfl <;> assumption
theorem keys_apply (l : List Rw) : keysP l = applyP [] (l.map fun x => (x.1, [], false)) := by
  unfold keysP applyP
  rw [List.foldl_map]
  rfl
theorem keys_len (l : List Rw) : (keysP l).length ≤ l.length := by
  have := apply_len (l.map fun x => ((x.1, [], false) : Ch)) []
  rw [keys_apply]
  simpa using this
theorem keys_take {l : List Rw} {k : Nat} (h : k < l.length) : keysP (l.take (k + 1)) = withP (withoutP (keysP (l.take k)) l[k].1) (l[k].1, []) := by
  unfold keysP
  rw [List.take_succ_eq_append_getElem h, List.foldl_append]
  rfl
theorem keys_vals (l : List Rw) : ∀ y ∈ keysP l, y.2 = [] := by
  have h : ∀ (l ks : List Rw), (∀ y ∈ ks, y.2 = []) → ∀ y ∈ l.foldl (fun ks x => withP (withoutP ks x.1) (x.1, [])) ks, y.2 = [] := by
    intro l
    induction l with
    | nil => exact fun ks h => h
    | cons x l ih =>
      intro ks hk
      exact ih _ fun y hy => by
        rcases mem_with hy with rfl | hy
        · rfl
        · exact hk y (of_filter hy)
  exact h l [] (by simp)
theorem between_take {a b : List Rw} {ks : List Rw} {k : Nat} (h : k < ks.length) : (ks.take (k + 1)).filterMap (fun x => chgP a b x.1) = (ks.take k).filterMap (fun x => chgP a b x.1) ++ (chgP a b ks[k].1).toList := by
  rw [List.take_succ_eq_append_getElem h, List.filterMap_append]
  cases e : chgP a b ks[k].1 <;> simp [e]
def BetwRet (a b : List Rw) (w : World) (e : Ending) (w' : World) : Prop := Below w.heap.size w w' ∧
  if mayP a && mayP b then ∃ v, e = .returned (.tuple #[v, .int .i64 0]) ∧ OwnX chgE w' w.heap.size (w.heap.size ≤ ·) v (betweenP a b) else e = .returned (.tuple #[.slice none 0 0, .int .i64 2])
theorem BetwRet.no {a b : List Rw} {w w' : World} (h : (mayP a && mayP b) = false) (hb : Below w.heap.size w w') : BetwRet a b w (.returned (.tuple #[.slice none 0 0, .int .i64 2])) w' := ⟨hb, by rw [h]; rfl⟩
theorem BetwRet.yes {a b : List Rw} {w w' : World} {v : Value} (h : (mayP a && mayP b) = true) (hb : Below w.heap.size w w') (ho : OwnX chgE w' w.heap.size (w.heap.size ≤ ·) v (betweenP a b)) : BetwRet a b w (.returned (.tuple #[v, .int .i64 0])) w' := ⟨hb, by rw [h, if_pos rfl]; exact ⟨v, rfl, ho⟩⟩
/-- a key of both -/
theorem key_at {w : World} {F G : Nat → Prop} {A B : Option Addr} {a b : List Rw} (ha : RdX rowE w F A a) (hb : RdX rowE w G B b) {k : Nat} (hk : k < a.length) : ∃ g off, A = some ⟨g, off, none⟩ ∧ w.cell? ⟨g, off + k * 2, none⟩ = some (.string ⟨((a ++ b)[k]'(by rw [List.length_append]; omega)).1.toArray⟩) := by
  obtain ⟨g, off, A', c, e, h, _⟩ := row_at ha k hk
  refine ⟨g, off, e, ?_⟩
  rw [List.getElem_append_left hk]
  exact h
theorem key_at2 {w : World} {F G : Nat → Prop} {A B : Option Addr} {a b : List Rw} (ha : RdX rowE w F A a) (hb : RdX rowE w G B b) {j : Nat} (hj : j < b.length) : ∃ g off, B = some ⟨g, off, none⟩ ∧ w.cell? ⟨g, off + j * 2, none⟩ = some (.string ⟨((a ++ b)[a.length + j]'(by rw [List.length_append]; omega)).1.toArray⟩) := by
  obtain ⟨g, off, A', c, e, h, _⟩ := row_at hb j hj
  refine ⟨g, off, e, ?_⟩
  rw [List.getElem_append_right (by omega)]
  simpa using h
theorem wpList_buildCh {w : World} {ops : Array Oper} {rest : List Oper} {o : Oper} {a : Act} {Q : Exit → Act → World → Prop} (hgd : o.guard = none) (x : Operand) (ho : o.op = .buildSlice 22 1 #[(0, x)]) (k : Key) (A : Option Addr) (n c : Nat) (z : Bool) (hx : a.eval x = .agg #[.string ⟨k.toArray⟩, .slice A n c, .bool z])
    (hK : ∀ g w', Cs w' g 52 #[.string ⟨k.toArray⟩, .slice A n c, .bool z] → Below w.heap.size w w' → w.heap.size ≤ g → wpList Try.prog ops Q rest (a.put o.dst (.slice (some ⟨g, 0, none⟩) 1 1)) w') : wpList Try.prog ops Q (o :: rest) a w := by
  refine wpList_plain hgd fun _ hh => wp_of_run2 (v := .slice (some ⟨w.heap.size, 0, none⟩) 1 1) (w' := w.alloc (.cells #[.string ⟨k.toArray⟩, .slice A n c, .bool z] 52)) ?_ (hh _ _ (hK _ _ (Cs.new _ _ _) ((Below.refl _ _).alloc (Nat.le_refl _) _) (Nat.le_refl _)))
  unfold execOp
  simp only [ho, hx, List.map_toArray, List.map_cons, List.map_nil]
  go_simp
set_option maxHeartbeats 8000000 in
theorem BetwRef_any (a b : List Rw) (A B : Option Addr) (ca cb : Nat) (F G : Nat → Prop) (w : World) (hs : SmallR a) (hs' : SmallR b) (hla : a.length ≤ 100000) (hlb : b.length ≤ 100000) (hr : RdX rowE w F A a) (hr' : RdX rowE w G B b) :
    Calls Try.prog 27 #[.slice A a.length ca, .slice B b.length cb] w fun e w' => BetwRet a b w e w' := by
  have hmix : Try.prog.follows .mixedOrders = true := by kernel_rfl
  have hm1 := MayRef_any a A ca F w hs hr
  have hm2 := fun u (hb : Below w.heap.size w u) => MayRef_any b B cb G u hs' (hr'.below hb)
  have hla' : (a.length : Int) ≤ 100000 := by omega
  have hlb' : (b.length : Int) ≤ 100000 := by omega
  cases h1 : mayP a
  · rw [h1] at hm1
    have HN := Lib.hid (show (mayP a && mayP b) = false by rw [h1]; rfl)
    clear h1 hm2 hs hs' hr hr'
    go_enter Try.func27, Try.ntmps27
    go_wp2_with fail
    refine hm1.mono ?_
    rintro e w1 ⟨rfl, hb⟩
    go_wp2_with fail
    go_ret2
    exact BetwRet.no HN.out hb
  cases h2 : mayP b
  · rw [h1] at hm1
    have HM2 := Lib.hid hm2
    have HN := Lib.hid (show (mayP a && mayP b) = false by rw [h1, h2]; rfl)
    have H2 := Lib.hid h2
    clear h1 h2 hm2 hs hs' hr hr'
    go_enter Try.func27, Try.ntmps27
    go_wp2_with fail
    refine hm1.mono ?_
    rintro e w1 ⟨rfl, hb⟩
    go_wp2_with fail
    have hx := HM2.out w1 hb
    rw [H2.out] at hx
    refine hx.mono ?_
    clear hx
    rintro e w2 ⟨rfl, hb2⟩
    go_wp2_with fail
    go_ret2
    exact BetwRet.no HN.out (below_chain hb hb2)
  rw [h1] at hm1
  have HM2 := Lib.hid hm2
  have HN := Lib.hid (show (mayP a && mayP b) = true by rw [h1, h2]; rfl)
  have H1 := Lib.hid h1
  have H2 := Lib.hid h2
  have HRA := Lib.hid hr
  have HRB := Lib.hid hr'
  have HSA := Lib.hid hs
  have HSB := Lib.hid hs'
  clear h1 h2 hm2 hr hr' hs hs'
  go_enter Try.func27, Try.ntmps27
  go_wp2_with fail
  refine hm1.mono ?_
  clear hm1
  rintro e w1 ⟨rfl, hb⟩
  have B1 := Lib.hid hb
  clear hb
  go_wp2_with fail
  have hx := HM2.out w1 B1.out
  rw [H2.out] at hx
  refine hx.mono ?_
  clear hx
  rintro e w2 ⟨rfl, hb⟩
  have B2 := Lib.hid (below_chain B1.out hb)
  clear hb B1 HM2
  go_wp2_with fail
  go_loopw [6, 7] (fun v j wr => ∃ k : Nat, j = .int .i64 k ∧ k ≤ a.length + b.length ∧ OwnX rowE wr w.heap.size (w.heap.size ≤ ·) v (keysP ((a ++ b).take k)) ∧ Below w.heap.size w wr) (fun _ j _ => a.length + b.length - (RowKit.intOf j).toNat)
  case atStart => exact ⟨0, rfl, Nat.zero_le _, OwnX.nil _ _ _, B2.out⟩
  case round =>
    obtain ⟨k, rfl, hk, ho, hb⟩ := hrel
    have HO := Lib.hid ho
    have HB := Lib.hid hb
    clear hb B2
    by_cases hlt : k < a.length + b.length
    · have hlt' : (k : Int) < (a.length : Int) + (b.length : Int) := by omega
      have hk' : (k : Int) ≤ 200000 := by omega
      have hkl : k < (a ++ b).length := by rw [List.length_append]; omega
      have HKT := Lib.hid (keys_take hkl)
      have hcl := keys_len ((a ++ b).take k)
      rw [List.length_take, List.length_append] at hcl
      have HVV := Lib.hid (keys_vals ((a ++ b).take k))
      obtain ⟨key, hkey⟩ : ∃ key, (a ++ b)[k].1 = key := ⟨_, rfl⟩
      have HKEY := Lib.hid hkey
      rw [hkey] at HKT
      obtain ⟨cur, hcur⟩ : ∃ cur, keysP ((a ++ b).take k) = cur := ⟨_, rfl⟩
      rw [hcur] at HKT HO HVV hcl ho
      clear hcur hkey
      obtain ⟨A5, c5, hv5, hrd5, hl5, hm5, hn5⟩ := ho.form
      subst hv5
      have HRD5 := Lib.hid hrd5
      clear hrd5 ho
      by_cases hka : k < a.length
      · have hka' : (k : Int) < (a.length : Int) := by omega
        obtain ⟨g, off, rfl, hc⟩ := key_at HRA.out HRB.out hka
        rw [HKEY.out] at hc
        have HC := Lib.hid hc
        clear hc
        go_wp2_with (first
          | ((with_reducible show wpList _ _ _ _ _ wr); refine wpList_allocS rfl 50 rfl _ zeroRw ?_; intro g8 u1 hk1 hb1 hg1; go_frame; have K1 := Lib.hid hk1; have B3 := Lib.hid hb1; have G1 := Lib.hid hg1; clear hk1 hb1 hg1)
          | ((with_reducible show wpList _ _ _ _ _ u1); refine wpList_storeS rfl 50 _ _ rfl g8 rfl rwZero rwZero rfl K1.out rfl (one2r rfl rfl) (infoRw2 _ _) ?_; intro u2 hk2 ht2; go_frame; have K2 := Lib.hid hk2; have T2 := Lib.hid ht2; have B4 := Lib.hid (below_turn B3.out T2.out B3.out.size G1.out); have q2 : u2.cell? ⟨g, off + k * 2, none⟩ = some (.string ⟨key.toArray⟩) := ((below_chain HB.out B4.out).cell (lt_of_cell HC.out)).trans HC.out; clear hk2 ht2)
          | ((with_reducible show wpList _ _ _ _ _ u2); refine wpList_store1 rfl 9 _ _ rfl g8 0 rfl (.string ⟨key.toArray⟩) rfl rfl (by kernel_rfl) 50 _ K2.out (by simp [rwZero]) ?_; intro u3 hk3 ht3; go_frame; have K3 := Lib.hid (show Cs u3 g8 50 (rwCells (key, []) none 0).toArray by simpa [rwZero, rwCells] using hk3); have B5 := Lib.hid (below_turn B4.out ht3 B4.out.size G1.out); clear hk3 ht3))
        clear q2
        have BB := Lib.hid (below_chain HB.out B5.out)
        have O5 := Lib.hid (HO.out.below B5.out)
        refine wp_region_V [5] (fun y => (Below w.heap.size w y ∧ OwnX rowE y w.heap.size (w.heap.size ≤ ·) (.slice A5 cur.length c5) cur) ∧ Cs y g8 50 (rwCells (key, []) none 0).toArray) hmix (⟨⟨BB.out.drew, O5.out.below (Below.refl _ _).drew⟩, K3.out.drew⟩) ?_
        change wpAnyV _ _ _ _ _ _ _ _ _
        refine wpAnyV_take (i := 0) (v := .slice A5 cur.length c5) 8 (kept_and (kept_and (kept_below w) (kept_ownX _ _ _ _)) (kept_cs _ _ _)) rfl (by kernel_rfl) (by kernel_rfl) (fun _ _ _ h => h) (fun _ h => h) (DoesV.reads (by rfl) fun w9 hS => by go_simp) ?_
        try simp only [List.getElem_toArray, List.getElem_cons_succ, List.getElem_cons_zero, Act.put, List.setIfInBounds_toArray, List.set_cons_succ, List.set_cons_zero]
        refine wpAnyV_take (i := 1) (v := .pointer (some ⟨g8, 0, none⟩)) 8 (kept_and (kept_and (kept_below w) (kept_ownX _ _ _ _)) (kept_cs _ _ _)) rfl (by kernel_rfl) (by kernel_rfl) (fun _ _ _ h => h) (fun _ h => h) (DoesV.reads (by rfl) fun w9 hS => by go_simp) ?_
        try simp only [List.getElem_toArray, List.getElem_cons_succ, List.getElem_cons_zero, Act.put, List.setIfInBounds_toArray, List.set_cons_succ, List.set_cons_zero]
        refine wpAnyV_take (i := 2) (v := .string ⟨key.toArray⟩) 8 (kept_and (kept_and (kept_below w) (kept_ownX _ _ _ _)) (kept_cs _ _ _)) rfl (by kernel_rfl) (by kernel_rfl) (fun _ _ _ h => h) (fun _ h => h) (DoesV.reads (by rfl) fun w9 hS => by have q9 := rw_c0 hS.2; go_simp) ?_
        try simp only [List.getElem_toArray, List.getElem_cons_succ, List.getElem_cons_zero, Act.put, List.setIfInBounds_toArray, List.set_cons_succ, List.set_cons_zero]
        refine wpAnyV_take (i := 4) (v := .agg #[.string ⟨key.toArray⟩, .slice none 0 0]) 8 (kept_and (kept_and (kept_below w) (kept_ownX _ _ _ _)) (kept_cs _ _ _)) rfl (by kernel_rfl) (by kernel_rfl) (fun _ _ _ h => h) (fun _ h => h) (DoesV.reads (by rfl) fun w9 hS => exec_load_agg 50 _ rfl g8 0 rfl (rwCells (key, []) none 0) (At.whole hS.2) _ Try.underlying50 rfl (infoRw _ _ _)) ?_
        try simp only [List.getElem_toArray, List.getElem_cons_succ, List.getElem_cons_zero, Act.put, List.setIfInBounds_toArray, List.set_cons_succ, List.set_cons_zero]
        refine wpAnyV_only (i := 3) rfl (by kernel_rfl) rfl (fun u hS => wp_of_call (f := 48) (by go_simp) (WithoutRef_any cur key A5 c5 (w.heap.size ≤ ·) u (by omega) (fun y hy => by rw [HVV.out y hy]; decide) (by obtain ⟨A7, c7, e7, h7, -⟩ := hS.1.2.form; cases e7; exact h7)) fun e u' ⟨v1, he, ho1, hb1⟩ => ⟨v1, he, (fun y => ((Below w.heap.size w y ∧ OwnX rowE y w.heap.size (w.heap.size ≤ ·) (.slice A5 cur.length c5) cur) ∧ Cs y g8 50 (rwCells (key, []) none 0).toArray) ∧ OwnX rowE y w.heap.size (w.heap.size ≤ ·) v1 (withoutP cur key)), ⟨⟨⟨below_chain hS.1.1 hb1, hS.1.2.below hb1⟩, hS.2.below hb1 hS.2.lt⟩, (ho1.base hS.1.1.size).mono fun q _ hq => Nat.le_trans hS.1.1.size hq⟩, (kept_and (kept_and (kept_and (kept_below w) (kept_ownX _ _ _ _)) (kept_cs _ _ _)) (kept_ownX _ _ _ _)), fun _ y h => h.1, ?_⟩)
        try simp only [List.getElem_toArray, List.getElem_cons_succ, List.getElem_cons_zero, Act.put, List.setIfInBounds_toArray, List.set_cons_succ, List.set_cons_zero]
        have hwl := without_len cur key
        obtain ⟨A6, c6, hv6, -⟩ := ho1.form
        subst hv6
        refine wpAnyV_only (i := 5) rfl (by kernel_rfl) rfl (fun y hy => wp_of_call (f := 49) (args := #[.slice A6 (withoutP cur key).length c6, .agg (rwCells (key, []) none 0).toArray]) (by simp only [rwCells]; go_simp) (WithRef_any (withoutP cur key) (key, []) A6 none c6 0 (fun q => w.heap.size ≤ q ∧ q < y.heap.size) y (by omega) (fun q hq => hq.2) (by obtain ⟨A7, c7, e7, h7, -⟩ := hy.2.form; cases e7; exact h7.mono fun q hq h => ⟨h, hq⟩) (BsV.nil _ _)) fun e y' ⟨v2, he, ho3, hb3⟩ => ⟨v2, he, (fun y => Below w.heap.size w y ∧ OwnX rowE y w.heap.size (w.heap.size ≤ ·) v2 (withP (withoutP cur key) (key, []))), ⟨below_chain hy.1.1.1 hb3, (ho3.base hy.1.1.1.size).mono fun q _ hq => hq.elim (fun h => h.1) fun h => Nat.le_trans hy.1.1.1.size h⟩, (kept_and (kept_below w) (kept_ownX _ _ _ _)), fun h => absurd (by simp) h, ?_⟩)
        try simp only [List.getElem_toArray, List.getElem_cons_succ, List.getElem_cons_zero, Act.put, List.setIfInBounds_toArray, List.set_cons_succ, List.set_cons_zero]
        refine wpAnyV_pure (i := 6) (v := v2) (kept_and (kept_below w) (kept_ownX _ _ _ _)) rfl (by kernel_rfl) (by kernel_rfl) (fun _ _ _ h => h) (DoesV.reads (by rfl) fun w9 hS => by go_simp) ?_
        try simp only [List.getElem_toArray, List.getElem_cons_succ, List.getElem_cons_zero, Act.put, List.setIfInBounds_toArray, List.set_cons_succ, List.set_cons_zero]
        refine wpAnyV_done (by kernel_rfl) (fun y1 hu => ?_) _
        have HU := Lib.hid hu
        clear hu
        go_wp2_with fail
        go_roundw
        case rel => exact ⟨k + 1, by go_num, by omega, by rw [HKT.out]; exact HU.out.2, HU.out.1⟩
        case measure => simp [intOf]; omega
      · skip
        obtain ⟨j, rfl⟩ : ∃ j, k = a.length + j := ⟨k - a.length, by omega⟩
        have hj : j < b.length := by omega
        have hj' : (j : Int) < (b.length : Int) := by omega
        obtain ⟨g, off, rfl, hc⟩ := key_at2 HRA.out HRB.out hj
        rw [HKEY.out] at hc
        have hka' : ¬ (((a.length + j : Nat) : Int)) < (a.length : Int) := by omega
        have hsub : (((a.length + j : Nat) : Int)) - (a.length : Int) = (j : Int) := by omega
        have HC := Lib.hid hc
        clear hc
        go_wp2_with (first
          | ((with_reducible show wpList _ _ _ _ _ wr); refine wpList_allocS rfl 50 rfl _ zeroRw ?_; intro g8 u1 hk1 hb1 hg1; go_frame; have K1 := Lib.hid hk1; have B3 := Lib.hid hb1; have G1 := Lib.hid hg1; clear hk1 hb1 hg1)
          | ((with_reducible show wpList _ _ _ _ _ u1); refine wpList_storeS rfl 50 _ _ rfl g8 rfl rwZero rwZero rfl K1.out rfl (one2r rfl rfl) (infoRw2 _ _) ?_; intro u2 hk2 ht2; go_frame; have K2 := Lib.hid hk2; have T2 := Lib.hid ht2; have B4 := Lib.hid (below_turn B3.out T2.out B3.out.size G1.out); have q2 : u2.cell? ⟨g, off + j * 2, none⟩ = some (.string ⟨key.toArray⟩) := ((below_chain HB.out B4.out).cell (lt_of_cell HC.out)).trans HC.out; clear hk2 ht2)
          | ((with_reducible show wpList _ _ _ _ _ u2); refine wpList_store1 rfl 9 _ _ rfl g8 0 rfl (.string ⟨key.toArray⟩) rfl rfl (by kernel_rfl) 50 _ K2.out (by simp [rwZero]) ?_; intro u3 hk3 ht3; go_frame; have K3 := Lib.hid (show Cs u3 g8 50 (rwCells (key, []) none 0).toArray by simpa [rwZero, rwCells] using hk3); have B5 := Lib.hid (below_turn B4.out ht3 B4.out.size G1.out); clear hk3 ht3))
        clear q2
        have BB := Lib.hid (below_chain HB.out B5.out)
        have O5 := Lib.hid (HO.out.below B5.out)
        refine wp_region_V [5] (fun y => (Below w.heap.size w y ∧ OwnX rowE y w.heap.size (w.heap.size ≤ ·) (.slice A5 cur.length c5) cur) ∧ Cs y g8 50 (rwCells (key, []) none 0).toArray) hmix (⟨⟨BB.out.drew, O5.out.below (Below.refl _ _).drew⟩, K3.out.drew⟩) ?_
        change wpAnyV _ _ _ _ _ _ _ _ _
        refine wpAnyV_take (i := 0) (v := .slice A5 cur.length c5) 8 (kept_and (kept_and (kept_below w) (kept_ownX _ _ _ _)) (kept_cs _ _ _)) rfl (by kernel_rfl) (by kernel_rfl) (fun _ _ _ h => h) (fun _ h => h) (DoesV.reads (by rfl) fun w9 hS => by go_simp) ?_
        try simp only [List.getElem_toArray, List.getElem_cons_succ, List.getElem_cons_zero, Act.put, List.setIfInBounds_toArray, List.set_cons_succ, List.set_cons_zero]
        refine wpAnyV_take (i := 1) (v := .pointer (some ⟨g8, 0, none⟩)) 8 (kept_and (kept_and (kept_below w) (kept_ownX _ _ _ _)) (kept_cs _ _ _)) rfl (by kernel_rfl) (by kernel_rfl) (fun _ _ _ h => h) (fun _ h => h) (DoesV.reads (by rfl) fun w9 hS => by go_simp) ?_
        try simp only [List.getElem_toArray, List.getElem_cons_succ, List.getElem_cons_zero, Act.put, List.setIfInBounds_toArray, List.set_cons_succ, List.set_cons_zero]
        refine wpAnyV_take (i := 2) (v := .string ⟨key.toArray⟩) 8 (kept_and (kept_and (kept_below w) (kept_ownX _ _ _ _)) (kept_cs _ _ _)) rfl (by kernel_rfl) (by kernel_rfl) (fun _ _ _ h => h) (fun _ h => h) (DoesV.reads (by rfl) fun w9 hS => by have q9 := rw_c0 hS.2; go_simp) ?_
        try simp only [List.getElem_toArray, List.getElem_cons_succ, List.getElem_cons_zero, Act.put, List.setIfInBounds_toArray, List.set_cons_succ, List.set_cons_zero]
        refine wpAnyV_take (i := 4) (v := .agg #[.string ⟨key.toArray⟩, .slice none 0 0]) 8 (kept_and (kept_and (kept_below w) (kept_ownX _ _ _ _)) (kept_cs _ _ _)) rfl (by kernel_rfl) (by kernel_rfl) (fun _ _ _ h => h) (fun _ h => h) (DoesV.reads (by rfl) fun w9 hS => exec_load_agg 50 _ rfl g8 0 rfl (rwCells (key, []) none 0) (At.whole hS.2) _ Try.underlying50 rfl (infoRw _ _ _)) ?_
        try simp only [List.getElem_toArray, List.getElem_cons_succ, List.getElem_cons_zero, Act.put, List.setIfInBounds_toArray, List.set_cons_succ, List.set_cons_zero]
        refine wpAnyV_only (i := 3) rfl (by kernel_rfl) rfl (fun u hS => wp_of_call (f := 48) (by go_simp) (WithoutRef_any cur key A5 c5 (w.heap.size ≤ ·) u (by omega) (fun y hy => by rw [HVV.out y hy]; decide) (by obtain ⟨A7, c7, e7, h7, -⟩ := hS.1.2.form; cases e7; exact h7)) fun e u' ⟨v1, he, ho1, hb1⟩ => ⟨v1, he, (fun y => ((Below w.heap.size w y ∧ OwnX rowE y w.heap.size (w.heap.size ≤ ·) (.slice A5 cur.length c5) cur) ∧ Cs y g8 50 (rwCells (key, []) none 0).toArray) ∧ OwnX rowE y w.heap.size (w.heap.size ≤ ·) v1 (withoutP cur key)), ⟨⟨⟨below_chain hS.1.1 hb1, hS.1.2.below hb1⟩, hS.2.below hb1 hS.2.lt⟩, (ho1.base hS.1.1.size).mono fun q _ hq => Nat.le_trans hS.1.1.size hq⟩, (kept_and (kept_and (kept_and (kept_below w) (kept_ownX _ _ _ _)) (kept_cs _ _ _)) (kept_ownX _ _ _ _)), fun _ y h => h.1, ?_⟩)
        try simp only [List.getElem_toArray, List.getElem_cons_succ, List.getElem_cons_zero, Act.put, List.setIfInBounds_toArray, List.set_cons_succ, List.set_cons_zero]
        have hwl := without_len cur key
        obtain ⟨A6, c6, hv6, -⟩ := ho1.form
        subst hv6
        refine wpAnyV_only (i := 5) rfl (by kernel_rfl) rfl (fun y hy => wp_of_call (f := 49) (args := #[.slice A6 (withoutP cur key).length c6, .agg (rwCells (key, []) none 0).toArray]) (by simp only [rwCells]; go_simp) (WithRef_any (withoutP cur key) (key, []) A6 none c6 0 (fun q => w.heap.size ≤ q ∧ q < y.heap.size) y (by omega) (fun q hq => hq.2) (by obtain ⟨A7, c7, e7, h7, -⟩ := hy.2.form; cases e7; exact h7.mono fun q hq h => ⟨h, hq⟩) (BsV.nil _ _)) fun e y' ⟨v2, he, ho3, hb3⟩ => ⟨v2, he, (fun y => Below w.heap.size w y ∧ OwnX rowE y w.heap.size (w.heap.size ≤ ·) v2 (withP (withoutP cur key) (key, []))), ⟨below_chain hy.1.1.1 hb3, (ho3.base hy.1.1.1.size).mono fun q _ hq => hq.elim (fun h => h.1) fun h => Nat.le_trans hy.1.1.1.size h⟩, (kept_and (kept_below w) (kept_ownX _ _ _ _)), fun h => absurd (by simp) h, ?_⟩)
        try simp only [List.getElem_toArray, List.getElem_cons_succ, List.getElem_cons_zero, Act.put, List.setIfInBounds_toArray, List.set_cons_succ, List.set_cons_zero]
        refine wpAnyV_pure (i := 6) (v := v2) (kept_and (kept_below w) (kept_ownX _ _ _ _)) rfl (by kernel_rfl) (by kernel_rfl) (fun _ _ _ h => h) (DoesV.reads (by rfl) fun w9 hS => by go_simp) ?_
        try simp only [List.getElem_toArray, List.getElem_cons_succ, List.getElem_cons_zero, Act.put, List.setIfInBounds_toArray, List.set_cons_succ, List.set_cons_zero]
        refine wpAnyV_done (by kernel_rfl) (fun y1 hu => ?_) _
        have HU := Lib.hid hu
        clear hu
        go_wp2_with fail
        go_roundw
        case rel => exact ⟨a.length + j + 1, by go_num, by omega, by rw [HKT.out]; exact HU.out.2, HU.out.1⟩
        case measure => simp [intOf]; omega
    · have hkk : (a ++ b).take k = a ++ b := List.take_of_length_le (by rw [List.length_append]; omega)
      rw [hkk] at HO ho
      have HKL := keys_len (a ++ b)
      rw [List.length_append] at HKL
      have HBT := Lib.hid (show betweenP a b = (keysP (a ++ b)).filterMap (fun x => chgP a b x.1) from rfl)
      generalize keysP (a ++ b) = ks at *
      obtain ⟨A5, c5, hv5, hrd5, hl5, hm5, hn5⟩ := ho.form
      subst hv5
      have HKS := Lib.hid hrd5
      have KLT := Lib.hid HO.out.lt
      clear hrd5 ho hkk
      have hks' : (ks.length : Int) ≤ 200000 := by omega
      clear KLT
      generalize hwo : wr = wo at *
      clear hwo
      go_wp2_with fail
      go_loopw [9, 10] (fun v j wy => ∃ i : Nat, j = .int .i64 i ∧ i ≤ ks.length ∧ OwnX chgE wy wo.heap.size (wo.heap.size ≤ ·) v ((ks.take i).filterMap fun x => chgP a b x.1) ∧ Below wo.heap.size wo wy) (fun _ j _ => ks.length - (RowKit.intOf j).toNat)
      case atStart => exact ⟨0, rfl, Nat.zero_le _, OwnX.nil _ _ _, Below.refl _ _⟩
      case round =>
        obtain ⟨i, rfl, hi, ho2, hb2⟩ := hrel
        have OL := Lib.hid ho2
        have BL := Lib.hid hb2
        clear ho2 hb2
        by_cases hlt2 : i < ks.length
        · have hlt3 : (i : Int) < (ks.length : Int) := by omega
          obtain ⟨g, off, A1, c1, e5, hc1, -⟩ := row_at HKS.out i hlt2
          subst e5
          have HBT2 := Lib.hid (between_take (a := a) (b := b) hlt2)
          have hfl : ((ks.take i).filterMap fun x => chgP a b x.1).length ≤ i := Nat.le_trans (List.length_filterMap_le _ _) (by rw [List.length_take]; omega)
          generalize ks[i] = x at *
          obtain ⟨key, x2⟩ := x
          dsimp only at *
          obtain ⟨lst, hlst⟩ : ∃ lst, ((ks.take i).filterMap fun x => chgP a b x.1) = lst := ⟨_, rfl⟩
          rw [hlst] at OL HBT2 hfl
          clear hlst
          have HK := Lib.hid hc1
          clear hc1
          have BWr := Lib.hid (HB.out.trans (BL.out.mono HB.out.size))
          have q1 : wr.cell? ⟨g, off + i * 2, none⟩ = some (.string ⟨key.toArray⟩) := (BL.out.cell (lt_of_cell HK.out)).trans HK.out
          have hfa : findP a key = lookR a key := by unfold findP; rw [H1.out, if_pos rfl]
          have hfb : findP b key = lookR b key := by unfold findP; rw [H2.out, if_pos rfl]
          have HFA := Lib.hid hfa
          have HFB := Lib.hid hfb
          clear hfa hfb
          go_wp2_with fail
          refine (FindRef_any a key A ca F wr HSA.out (HRA.out.below BWr.out)).mono ?_
          rintro e u1 ⟨hb, hm⟩
          have B1 := Lib.hid (below_chain BL.out hb)
          have BW1 := Lib.hid (below_chain BWr.out hb)
          have O1 := Lib.hid (OL.out.below hb)
          have hz1 := B1.out.size
          have q2 : u1.cell? ⟨g, off + i * 2, none⟩ = some (.string ⟨key.toArray⟩) := (B1.out.cell (lt_of_cell HK.out)).trans HK.out
          have hzl := BL.out.size
          clear q1
          have hf2 := FindRef_any b key B cb G u1 HSB.out (HRB.out.below BW1.out)
          have HF2 := Lib.hid hf2
          clear hf2
          rcases hfa : findP a key with _ | va
          · rw [hfa] at hm
            subst hm
            go_wp2_with fail
            refine HF2.out.mono ?_
            rintro e u2 ⟨hb2, hm2⟩
            have B2 := Lib.hid (below_chain B1.out hb2)
            have BW2 := Lib.hid (below_chain BW1.out hb2)
            have O2 := Lib.hid (O1.out.below hb2)
            have hz2 := B2.out.size
            have q3 : u2.cell? ⟨g, off + i * 2, none⟩ = some (.string ⟨key.toArray⟩) := (B2.out.cell (lt_of_cell HK.out)).trans HK.out
            clear q2
            rcases hfb : findP b key with _ | vb
            · rw [hfb] at hm2
              subst hm2
              have HC := Lib.hid (show (chgP a b key).toList = [(key, [], true)] by unfold chgP; rw [← HFB.out, hfb]; rfl)
              clear hfa hfb
              go_wp2_with (first
                | ((with_reducible show wpList _ _ _ _ _ u2); refine wpList_buildCh rfl _ rfl key none 0 0 true rfl ?_; intro g9 u3 hk9 hb9 hg9; go_frame; have K9 := Lib.hid hk9; have B9 := Lib.hid hb9; clear hk9 hb9 hg9)
                | (at_builtin; go_loud (refine wpList_append_x1 (E := chgE) rfl _ _ rfl wo.heap.size (wo.heap.size ≤ ·) _ lst rfl (O2.out.below B9.out) g9 1 rfl [.string ⟨key.toArray⟩, .slice none 0 0, .bool true] (key, [], true) ⟨_, rfl, BsV.nil _ _⟩ 52 K9.out (by omega) (Nat.le_trans hz2 B9.out.size) (Nat.le_trans hz2 B9.out.size) ?_; intro v5 u5 ho5 hg5; go_frame; have O5 := Lib.hid ho5; have B5 := Lib.hid ((B2.out.trans (B9.out.mono hz2)).grown hg5 (Nat.le_trans hz2 B9.out.size) (fun q e => (O2.out.lt q e).1)); clear ho5 hg5)))
              go_roundw
              case rel => exact ⟨i + 1, by go_num, hlt2, by rw [HBT2.out, HC.out]; exact O5.out, B5.out⟩
              case measure => simp [intOf]; omega
            · rw [hfb] at hm2
              obtain ⟨v2, rfl, ho2⟩ := hm2
              have hv2 := BsV.own ho2
              obtain ⟨A7, c7, e7, -⟩ := id hv2
              subst e7
              have VB := Lib.hid ((BsV.own ho2).mono (G := (wo.heap.size ≤ ·)) fun q _ hq => Nat.le_trans hz1 hq)
              have VBN := Lib.hid (BsV.own ho2)
              clear ho2 hv2 hb2
              have HC := Lib.hid (show (chgP a b key).toList = [(key, vb, false)] by unfold chgP; rw [← HFB.out, hfb, ← HFA.out, hfa]; rfl)
              clear hfa hfb
              go_wp2_with (first
                | ((with_reducible show wpList _ _ _ _ _ u2); refine wpList_buildCh rfl _ rfl key A7 vb.length c7 false rfl ?_; intro g9 u3 hk9 hb9 hg9; go_frame; have K9 := Lib.hid hk9; have B9 := Lib.hid hb9; clear hk9 hb9 hg9)
                | (at_builtin; go_loud (refine wpList_append_x1 (E := chgE) rfl _ _ rfl wo.heap.size (wo.heap.size ≤ ·) _ lst rfl (O2.out.below B9.out) g9 1 rfl [.string ⟨key.toArray⟩, .slice A7 vb.length c7, .bool false] (key, vb, false) ⟨_, rfl, (VBN.out.below B9.out).mono fun q _ h => ⟨Nat.le_trans hz1 h, fun e => by have := (O1.out.lt q e).2; exact absurd h (Nat.not_le.2 this)⟩⟩ 52 K9.out (by omega) (Nat.le_trans hz2 B9.out.size) (Nat.le_trans hz2 B9.out.size) ?_; intro v5 u5 ho5 hg5; go_frame; have O5 := Lib.hid ho5; have B5 := Lib.hid ((B2.out.trans (B9.out.mono hz2)).grown hg5 (Nat.le_trans hz2 B9.out.size) (fun q e => (O2.out.lt q e).1)); clear ho5 hg5)))
              go_roundw
              case rel => exact ⟨i + 1, by go_num, hlt2, by rw [HBT2.out, HC.out]; exact O5.out, B5.out⟩
              case measure => simp [intOf]; omega
          · rw [hfa] at hm
            obtain ⟨v1, rfl, ho1⟩ := hm
            have hv1 := BsV.own ho1
            obtain ⟨A9, c9, e9, -⟩ := id hv1
            subst e9
            have VA := Lib.hid hv1
            clear ho1 hv1
            go_wp2_with fail
            refine HF2.out.mono ?_
            rintro e u2 ⟨hb2, hm2⟩
            have B2 := Lib.hid (below_chain B1.out hb2)
            have BW2 := Lib.hid (below_chain BW1.out hb2)
            have O2 := Lib.hid (O1.out.below hb2)
            have hz2 := B2.out.size
            have q3 : u2.cell? ⟨g, off + i * 2, none⟩ = some (.string ⟨key.toArray⟩) := (B2.out.cell (lt_of_cell HK.out)).trans HK.out
            clear q2
            have VA2 := Lib.hid (VA.out.below hb2)
            rcases hfb : findP b key with _ | vb
            · rw [hfb] at hm2
              subst hm2
              have HC := Lib.hid (show (chgP a b key).toList = [(key, [], true)] by unfold chgP; rw [← HFB.out, hfb]; rfl)
              clear hfa hfb
              go_wp2_with (first
                | ((with_reducible show wpList _ _ _ _ _ u2); refine wpList_buildCh rfl _ rfl key none 0 0 true rfl ?_; intro g9 u3 hk9 hb9 hg9; go_frame; have K9 := Lib.hid hk9; have B9 := Lib.hid hb9; clear hk9 hb9 hg9)
                | (at_builtin; go_loud (refine wpList_append_x1 (E := chgE) rfl _ _ rfl wo.heap.size (wo.heap.size ≤ ·) _ lst rfl (O2.out.below B9.out) g9 1 rfl [.string ⟨key.toArray⟩, .slice none 0 0, .bool true] (key, [], true) ⟨_, rfl, BsV.nil _ _⟩ 52 K9.out (by omega) (Nat.le_trans hz2 B9.out.size) (Nat.le_trans hz2 B9.out.size) ?_; intro v5 u5 ho5 hg5; go_frame; have O5 := Lib.hid ho5; have B5 := Lib.hid ((B2.out.trans (B9.out.mono hz2)).grown hg5 (Nat.le_trans hz2 B9.out.size) (fun q e => (O2.out.lt q e).1)); clear ho5 hg5)))
              go_roundw
              case rel => exact ⟨i + 1, by go_num, hlt2, by rw [HBT2.out, HC.out]; exact O5.out, B5.out⟩
              case measure => simp [intOf]; omega
            · rw [hfb] at hm2
              obtain ⟨v2, rfl, ho2⟩ := hm2
              have hv2 := BsV.own ho2
              obtain ⟨A7, c7, e7, -⟩ := id hv2
              subst e7
              have VB := Lib.hid ((BsV.own ho2).mono (G := (wo.heap.size ≤ ·)) fun q _ hq => Nat.le_trans hz1 hq)
              have VBN := Lib.hid (BsV.own ho2)
              clear ho2 hv2 hb2
              have hsame := Same_any A9 A7 va vb c9 c7 u2 (by obtain ⟨A8, c8, e8, h8, -⟩ := VA2.out; cases e8; exact h8.rd) (by obtain ⟨A8, c8, e8, h8, -⟩ := VB.out; cases e8; exact h8.rd)
              have HSM := Lib.hid hsame
              clear hsame
              by_cases hvv : va = vb
              · have HC := Lib.hid (show (chgP a b key).toList = [] by unfold chgP; rw [← HFB.out, hfb, ← HFA.out, hfa, hvv]; simp)
                have HT := Lib.hid (show (va == vb) = true by simpa using hvv)
                clear hfa hfb hvv
                go_wp2_with fail
                refine HSM.out.mono ?_
                rw [HT.out]
                rintro e _ ⟨rfl, rfl⟩
                go_wp2_with fail
                go_roundw
                case rel => exact ⟨i + 1, by go_num, hlt2, by rw [HBT2.out, HC.out, List.append_nil]; exact O2.out, B2.out⟩
                case measure => simp [intOf]; omega
              · have HC := Lib.hid (show (chgP a b key).toList = [(key, vb, false)] by unfold chgP; rw [← HFB.out, hfb, ← HFA.out, hfa]; simp [hvv])
                have HT := Lib.hid (show (va == vb) = false by simpa using hvv)
                clear hfa hfb hvv
                go_wp2_with fail
                refine HSM.out.mono ?_
                rw [HT.out]
                rintro e _ ⟨rfl, rfl⟩
                go_wp2_with (first
                  | ((with_reducible show wpList _ _ _ _ _ u2); refine wpList_buildCh rfl _ rfl key A7 vb.length c7 false rfl ?_; intro g9 u3 hk9 hb9 hg9; go_frame; have K9 := Lib.hid hk9; have B9 := Lib.hid hb9; clear hk9 hb9 hg9)
                  | (at_builtin; go_loud (refine wpList_append_x1 (E := chgE) rfl _ _ rfl wo.heap.size (wo.heap.size ≤ ·) _ lst rfl (O2.out.below B9.out) g9 1 rfl [.string ⟨key.toArray⟩, .slice A7 vb.length c7, .bool false] (key, vb, false) ⟨_, rfl, (VBN.out.below B9.out).mono fun q _ h => ⟨Nat.le_trans hz1 h, fun e => by have := (O1.out.lt q e).2; exact absurd h (Nat.not_le.2 this)⟩⟩ 52 K9.out (by omega) (Nat.le_trans hz2 B9.out.size) (Nat.le_trans hz2 B9.out.size) ?_; intro v5 u5 ho5 hg5; go_frame; have O5 := Lib.hid ho5; have B5 := Lib.hid ((B2.out.trans (B9.out.mono hz2)).grown hg5 (Nat.le_trans hz2 B9.out.size) (fun q e => (O2.out.lt q e).1)); clear ho5 hg5)))
                go_roundw
                case rel => exact ⟨i + 1, by go_num, hlt2, by rw [HBT2.out, HC.out]; exact O5.out, B5.out⟩
                case measure => simp [intOf]; omega
        · have hk2 : ks.take i = ks := List.take_of_length_le (by omega)
          have ho := OL.out
          rw [hk2, ← HBT.out] at ho
          have HO2 := Lib.hid ho
          clear ho
          go_wp2_with fail
          go_ret2
          exact BetwRet.yes HN.out (HB.out.trans (BL.out.mono HB.out.size)) ((HO2.out.base HB.out.size).mono fun q _ hq => Nat.le_trans HB.out.size hq)

end Go.Proofs.Ytiemphfikfigdaa
