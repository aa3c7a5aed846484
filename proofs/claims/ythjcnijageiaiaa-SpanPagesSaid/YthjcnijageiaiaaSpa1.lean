/- Spans and places as elements of lists; the reference's Spans, Ints: the same ones? -/
import Derived.Test.YthjcnijageiaiaaSpaP
import Derived.Test.YthjcnijageiaiaaTblK
namespace Go.Proofs.Ythjcnijageiaiaa
open Go.RowKit Go.Shelf
set_option linter.unusedVariables false
set_option maxRecDepth 100000
set_option linter.unusedSimpArgs false

def spE : Elem Sp where
  ety := 25
  sty := 22
  n := 2
  bytes := 8
  rd w F cs x := cs = [.int .u32 (x.1 : Int), .int .u32 (x.2 : Int)] ∧ x.1 < 4294967296 ∧ x.2 < 4294967296
  und := Try.underlying22
  info := ⟨_, _, rfl, rfl, rfl, rfl, rfl⟩
  pos := by decide
  byt := by decide
  len := by rintro w F cs x ⟨rfl, _⟩; rfl
  one := by
    rintro w F cs x ⟨rfl, _⟩ u hu
    simp at hu
    rcases hu with rfl | rfl <;> rfl
  turn := fun h _ _ => h
  mono := fun h _ => h
def ptE : Elem Nat where
  ety := 23
  sty := 37
  n := 1
  bytes := 4
  rd w F cs x := cs = [.int .u32 (x : Int)] ∧ x < 4294967296
  und := Try.underlying37
  info := ⟨_, _, rfl, rfl, rfl, rfl, rfl⟩
  pos := by decide
  byt := by decide
  len := by rintro w F cs x ⟨rfl, _⟩; rfl
  one := by
    rintro w F cs x ⟨rfl, _⟩ u hu
    simp at hu
    subst hu
    rfl
  turn := fun h _ _ => h
  mono := fun h _ => h
/-- a span's cells; a place's -/
theorem sp_at {w : World} {F : Nat → Prop} {A : Option Addr} {ls : List Sp} (h : RdX spE w F A ls) (j : Nat) (hj : j < ls.length) : ∃ b off, A = some ⟨b, off, none⟩ ∧ w.cell? ⟨b, off + j * 2, none⟩ = some (.int .u32 (ls[j].1 : Int)) ∧ w.cell? ⟨b, off + j * 2 + 1, none⟩ = some (.int .u32 (ls[j].2 : Int)) ∧ ls[j].1 < 4294967296 ∧ ls[j].2 < 4294967296 := by
  obtain ⟨b, off, cs, e, ⟨rfl, h1⟩, hat⟩ := h.get j hj
  exact ⟨b, off, e, hat 0 _ rfl, hat 1 _ rfl, h1⟩
theorem pt_at {w : World} {F : Nat → Prop} {A : Option Addr} {ls : List Nat} (h : RdX ptE w F A ls) (j : Nat) (hj : j < ls.length) : ∃ b off, A = some ⟨b, off, none⟩ ∧ w.cell? ⟨b, off + j, none⟩ = some (.int .u32 (ls[j] : Int)) ∧ ls[j] < 4294967296 := by
  obtain ⟨b, off, cs, e, ⟨rfl, h1⟩, hat⟩ := h.get j hj
  have := hat 0 _ rfl
  rw [show ptE.n = 1 from rfl, Nat.mul_one] at this
  exact ⟨b, off, e, this, h1⟩
set_option maxHeartbeats 4000000 in
theorem Spans_any (p q : List Sp) (A B : Option Addr) (ca cb : Nat) (F G : Nat → Prop) (w : World) (hp : p.length ≤ 140737488355328) (hq : q.length ≤ 140737488355328) (rp : RdX spE w F A p) (rq : RdX spE w G B q) :
    Calls Try.prog 12 #[.slice A p.length ca, .slice B q.length cb] w fun e w' => e = .returned (.bool (decide (p = q))) ∧ Below w.heap.size w w' := by
  by_cases hl : p.length = q.length
  · have el : ((p.length : Int) == (q.length : Int)) = true := by simp [hl]
    have el' : ((p.length : Int) != (q.length : Int)) = false := by simp [hl]
    have HP := Lib.hid rp
    have HQ := Lib.hid rq
    have HL := Lib.hid hl
    clear rp rq hl
    go_enter Try.func12, Try.ntmps12
    go_wp2
    clear el el'
    go_loopw [5] (fun j wr => ∃ k : Nat, j = .int .i64 k ∧ SameL p q k ∧ Below w.heap.size w wr) (fun j _ => p.length - (RowKit.intOf j).toNat)
    case atStart => exact ⟨0, rfl, ⟨Nat.zero_le _, by simp⟩, Below.refl _ _⟩
    case round =>
      obtain ⟨k, rfl, hI, hB⟩ := hrel
      by_cases hk : k < p.length
      · have hk2 : k < q.length := by rw [← HL.out]; exact hk
        obtain ⟨b, off, rfl, hc1, hd1, -⟩ := sp_at (HP.out.below hB) k hk
        obtain ⟨b', off', rfl, hc2, hd2, -⟩ := sp_at (HQ.out.below hB) k hk2
        have HX := Lib.hid (fun e => sameL_no hk hk2 e)
        have HY := Lib.hid (fun e => hI.next hk hk2 e)
        generalize p[k] = x at *
        generalize q[k] = y at *
        obtain ⟨x1, x2⟩ := x
        obtain ⟨y1, y2⟩ := y
        dsimp only at *
        clear hI
        by_cases h1 : x1 = y1
        · subst h1
          by_cases h2 : x2 = y2
          · subst h2
            have hf := Lib.hid (HY.out rfl)
            clear HX HY
            go_wp2_with fail
            go_quiet (fail)
            go_wp2_with fail
            go_roundw
            case rel => exact ⟨k + 1, by go_num, hf.out, below_drewN hB _⟩
            case measure => simp [RowKit.intOf]; omega
          · have hf := Lib.hid (HX.out (by rintro ⟨⟩; exact h2 rfl))
            have e1 : ¬ (x2 : Int) = y2 := by omega
            clear HX HY h2
            go_wp2_with fail
            go_quiet (fail)
            go_wp2_with fail
            go_ret
            exact ⟨by rw [hf.out]; first | done | rfl, below_drewN hB _⟩
        · have hf := Lib.hid (HX.out (by rintro ⟨⟩; exact h1 rfl))
          have e1 : ¬ (x1 : Int) = y1 := by omega
          clear HX HY h1
          go_wp2_with fail
          go_quiet (fail)
          go_wp2_with fail
          go_ret
          exact ⟨by rw [hf.out]; first | done | rfl, below_drewN hB _⟩
      · have hv := Lib.hid (hI.over hk HL.out)
        clear hI
        go_wp2_with fail
        go_ret
        exact ⟨by rw [hv.out]; first | done | rfl, hB⟩
  · have el : ((p.length : Int) == (q.length : Int)) = false := by simp; omega
    have el' : ((p.length : Int) != (q.length : Int)) = true := by simp; omega
    have hv := Lib.hid (sameL_len hl)
    clear hl rp rq
    go_enter Try.func12, Try.ntmps12
    go_wp2_with fail
    go_ret
    exact ⟨by rw [hv.out]; first | done | rfl, Below.refl _ _⟩
set_option maxHeartbeats 4000000 in
theorem Ints_any (p q : List Nat) (A B : Option Addr) (ca cb : Nat) (F G : Nat → Prop) (w : World) (hp : p.length ≤ 140737488355328) (hq : q.length ≤ 140737488355328) (rp : RdX ptE w F A p) (rq : RdX ptE w G B q) :
    Calls Try.prog 21 #[.slice A p.length ca, .slice B q.length cb] w fun e w' => e = .returned (.bool (decide (p = q))) ∧ Below w.heap.size w w' := by
  by_cases hl : p.length = q.length
  · have el : ((p.length : Int) == (q.length : Int)) = true := by simp [hl]
    have el' : ((p.length : Int) != (q.length : Int)) = false := by simp [hl]
    have HP := Lib.hid rp
    have HQ := Lib.hid rq
    have HL := Lib.hid hl
    clear rp rq hl
    go_enter Try.func21, Try.ntmps21
    go_wp2
    clear el el'
    go_loopw [5] (fun j wr => ∃ k : Nat, j = .int .i64 k ∧ SameL p q k ∧ Below w.heap.size w wr) (fun j _ => p.length - (RowKit.intOf j).toNat)
    case atStart => exact ⟨0, rfl, ⟨Nat.zero_le _, by simp⟩, Below.refl _ _⟩
    case round =>
      obtain ⟨k, rfl, hI, hB⟩ := hrel
      by_cases hk : k < p.length
      · have hk2 : k < q.length := by rw [← HL.out]; exact hk
        obtain ⟨b, off, rfl, hc1, -⟩ := pt_at (HP.out.below hB) k hk
        obtain ⟨b', off', rfl, hc2, -⟩ := pt_at (HQ.out.below hB) k hk2
        have HX := Lib.hid (fun e => sameL_no hk hk2 e)
        have HY := Lib.hid (fun e => hI.next hk hk2 e)
        generalize p[k] = x at *
        generalize q[k] = y at *
        clear hI
        by_cases hxy : x = y
        · obtain rfl := hxy
          have hf := Lib.hid (HY.out rfl)
          clear HX HY
          go_wp2_with fail
          go_quiet (fail)
          go_wp2_with fail
          go_roundw
          case rel => exact ⟨k + 1, by go_num, hf.out, below_drewN hB _⟩
          case measure => simp [RowKit.intOf]; omega
        · have hf := Lib.hid (HX.out hxy)
          clear HX HY
          have e1 : ((x : Int) == y) = false := by simp; omega
          have e2 : ((x : Int) != y) = true := by simp; omega
          clear hxy
          go_wp2_with fail
          go_quiet (fail)
          go_wp2_with fail
          go_ret
          exact ⟨by rw [hf.out]; first | done | rfl, below_drewN hB _⟩
      · have hv := Lib.hid (hI.over hk HL.out)
        clear hI
        go_wp2_with fail
        go_ret
        exact ⟨by rw [hv.out]; first | done | rfl, hB⟩
  · have el : ((p.length : Int) == (q.length : Int)) = false := by simp; omega
    have el' : ((p.length : Int) != (q.length : Int)) = true := by simp; omega
    have hv := Lib.hid (sameL_len hl)
    clear hl rp rq
    go_enter Try.func21, Try.ntmps21
    go_wp2_with fail
    go_ret
    exact ⟨by rw [hv.out]; first | done | rfl, Below.refl _ _⟩

end Go.Proofs.Ythjcnijageiaiaa
