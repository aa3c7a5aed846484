/- The reference: may spans be, is a place in one? -/
import Derived.Test.YthjcnijageiaiaaSpa1
import Derived.Test.YthjcnijageiaiaaSpaQ
namespace Go.Proofs.Ythjcnijageiaiaa
open Go.RowKit Go.Shelf
set_option linter.unusedVariables false
set_option maxRecDepth 100000
set_option linter.unusedSimpArgs false

def MayI (l : List Sp) (k : Nat) : Prop := k ≤ l.length ∧ mayS (l.take k) = true
theorem MayI.next {l : List Sp} {k : Nat} (h : MayI l k) (hk : k < l.length) (h1 : aheadS l k ≤ l[k].1) (h2 : l[k].1 < l[k].2) : MayI l (k + 1) := ⟨hk, by
  rw [mayS_take hk, h.2]
  simp [h1, h2]⟩
theorem MayI.over {l : List Sp} {k : Nat} (h : MayI l k) (hk : ¬ k < l.length) : mayS l = true := by
  have := h.2
  rwa [List.take_of_length_le (by omega)] at this
set_option maxHeartbeats 4000000 in
theorem MayR_v (l : List Sp) (A : Option Addr) (c : Nat) (F : Nat → Prop) (w : World) (hl : l.length ≤ 140737488355328) (r : RdX spE w F A l) :
    Calls Try.prog 14 #[.slice A l.length c] w fun e w' => e = .returned (.bool (mayS l)) ∧ Below w.heap.size w w' := by
  have HP := Lib.hid r
  clear r
  go_enter Try.func14, Try.ntmps14
  go_wp2
  go_loopw [3] (fun j wr => ∃ k : Nat, j = .int .i64 k ∧ MayI l k ∧ Below w.heap.size w wr) (fun j _ => l.length - (RowKit.intOf j).toNat)
  case atStart => exact ⟨0, rfl, ⟨Nat.zero_le _, rfl⟩, Below.refl _ _⟩
  case round =>
    obtain ⟨k, rfl, hI, hB⟩ := hrel
    by_cases hk : k < l.length
    · obtain ⟨b, off, rfl, hc1, hd1, -⟩ := sp_at (HP.out.below hB) k hk
      have HX := Lib.hid (fun e => mayS_no hk e)
      have HY := Lib.hid (fun e1 e2 => hI.next hk e1 e2)
      clear hI
      cases k with
      | zero =>
        simp only [Nat.zero_mul, Nat.add_zero] at hc1 hd1
        have ha := Lib.hid (show aheadS l 0 ≤ l[0].1 from Nat.zero_le _)
        generalize l[0] = x at *
        obtain ⟨x1, x2⟩ := x
        dsimp only at *
        by_cases h1 : x1 < x2
        · have e1 : ¬ x2 ≤ x1 := by omega
          have hf := Lib.hid (HY.out ha.out h1)
          clear HX HY ha h1
          go_wp2_with fail
          go_quiet (fail)
          go_wp2_with fail
          go_roundw
          case rel => exact ⟨1, by go_num, hf.out, below_drewN hB _⟩
          case measure => simp [RowKit.intOf]; omega
        · have e1 : x2 ≤ x1 := by omega
          have hf := Lib.hid (HX.out fun h => h1 h.2)
          clear HX HY ha h1
          go_wp2_with fail
          go_quiet (fail)
          go_wp2_with fail
          go_ret
          exact ⟨by rw [hf.out]; first | done | rfl, below_drewN hB _⟩
      | succ m =>
        obtain ⟨b', off', e', hc2, hd2, -⟩ := sp_at (HP.out.below hB) m (by omega)
        cases e'
        have ha := Lib.hid (aheadS_succ (l := l) (k := m) (by omega))
        have hk0 : (0 : Int) < ((m + 1 : Nat) : Int) := by omega
        generalize l[m + 1] = x at *
        generalize l[m] = y at *
        obtain ⟨x1, x2⟩ := x
        obtain ⟨y1, y2⟩ := y
        dsimp only at *
        clear hc2
        by_cases h1 : x1 < x2
        · have e1 : ¬ x2 ≤ x1 := by omega
          by_cases h2 : y2 < x1
          · have e2 : ¬ x1 ≤ y2 := by omega
            have hf := Lib.hid (HY.out (by rw [ha.out]; exact h2) h1)
            clear HX HY ha h1 h2
            go_wp2_with fail
            go_quiet (fail)
            go_wp2_with fail
            go_roundw
            case rel => exact ⟨m + 1 + 1, by go_num, hf.out, below_drewN hB _⟩
            case measure => simp [RowKit.intOf]; omega
          · have e2 : x1 ≤ y2 := by omega
            have hf := Lib.hid (HX.out fun h => h2 (by have := h.1; rw [ha.out] at this; exact this))
            clear HX HY ha h1 h2
            go_wp2_with fail
            go_quiet (fail)
            go_wp2_with fail
            go_ret
            exact ⟨by rw [hf.out]; first | done | rfl, below_drewN hB _⟩
        · have e1 : x2 ≤ x1 := by omega
          have hf := Lib.hid (HX.out fun h => h1 h.2)
          clear HX HY ha h1
          go_wp2_with fail
          go_quiet (fail)
          go_wp2_with fail
          go_ret
          exact ⟨by rw [hf.out]; first | done | rfl, below_drewN hB _⟩
    · have hv := Lib.hid (hI.over hk)
      clear hI
      go_wp2_with fail
      go_ret
      exact ⟨by rw [hv.out]; first | done | rfl, hB⟩
/-- none of the first k holds x -/
def InI (l : List Sp) (x k : Nat) : Prop := k ≤ l.length ∧ memS (l.take k) x = false
theorem InI.next {l : List Sp} {x k : Nat} (h : InI l x k) (hk : k < l.length) (h1 : ¬ (l[k].1 ≤ x ∧ x < l[k].2)) : InI l x (k + 1) := ⟨hk, by
  rw [List.take_succ_eq_append_getElem hk, memS_app, h.2, Bool.false_or, memS_cons, memS_nil, Bool.or_false]
  cases e : inS l[k] x
  · rfl
  · exact absurd ((inS_iff _ _).1 e) h1⟩
theorem InI.over {l : List Sp} {x k : Nat} (h : InI l x k) (hk : ¬ k < l.length) : memS l x = false := by
  have := h.2
  rwa [List.take_of_length_le (by omega)] at this
theorem memS_yes {l : List Sp} {x k : Nat} (hk : k < l.length) (h1 : l[k].1 ≤ x ∧ x < l[k].2) : memS l x = true := (memS_iff l x).2 ⟨_, List.getElem_mem hk, h1⟩
set_option maxHeartbeats 4000000 in
theorem inR_v (l : List Sp) (x : Nat) (A : Option Addr) (c : Nat) (F : Nat → Prop) (w : World) (hl : l.length ≤ 140737488355328) (r : RdX spE w F A l) :
    Calls Try.prog 29 #[.slice A l.length c, .int .u32 (x : Int)] w fun e w' => e = .returned (.bool (memS l x)) ∧ Below w.heap.size w w' := by
  have HP := Lib.hid r
  clear r
  go_enter Try.func29, Try.ntmps29
  go_wp2
  go_loopw [5] (fun j wr => ∃ k : Nat, j = .int .i64 k ∧ InI l x k ∧ Below w.heap.size w wr) (fun j _ => l.length - (RowKit.intOf j).toNat)
  case atStart => exact ⟨0, rfl, ⟨Nat.zero_le _, rfl⟩, Below.refl _ _⟩
  case round =>
    obtain ⟨k, rfl, hI, hB⟩ := hrel
    by_cases hk : k < l.length
    · obtain ⟨b, off, rfl, hc1, hd1, -⟩ := sp_at (HP.out.below hB) k hk
      have HX := Lib.hid (fun e => memS_yes (x := x) hk e)
      have HY := Lib.hid (fun e => hI.next hk e)
      clear hI
      generalize l[k] = y at *
      obtain ⟨y1, y2⟩ := y
      dsimp only at *
      by_cases h1 : y1 ≤ x
      · have e1 : (y1 : Int) ≤ x := by omega
        by_cases h2 : x < y2
        · have e2 : (x : Int) < y2 := by omega
          have hf := Lib.hid (HX.out ⟨h1, h2⟩)
          clear HX HY h1 h2
          go_wp2_with fail
          go_ret
          exact ⟨by rw [hf.out]; first | done | rfl, hB⟩
        · have e2 : ¬ (x : Int) < y2 := by omega
          have hf := Lib.hid (HY.out fun h => h2 h.2)
          clear HX HY h1 h2
          go_wp2_with fail
          go_roundw
          case rel => exact ⟨k + 1, by go_num, hf.out, hB⟩
          case measure => simp [RowKit.intOf]; omega
      · have e1 : ¬ (y1 : Int) ≤ x := by omega
        have hf := Lib.hid (HY.out fun h => h1 h.1)
        clear HX HY h1
        go_wp2_with fail
        go_roundw
        case rel => exact ⟨k + 1, by go_num, hf.out, hB⟩
        case measure => simp [RowKit.intOf]; omega
    · have hv := Lib.hid (hI.over hk)
      clear hI
      go_wp2_with fail
      go_ret
      exact ⟨by rw [hv.out]; first | done | rfl, hB⟩

end Go.Proofs.Ythjcnijageiaiaa
