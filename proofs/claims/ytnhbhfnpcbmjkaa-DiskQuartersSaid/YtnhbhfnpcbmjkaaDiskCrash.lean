/- Crash: the quarters that the list names are laid down, and the power is back. -/
import Derived.Test.YtnhbhfnpcbmjkaaDiskFlush
import Derived.Deep.RegionHeld3
namespace Go.Proofs.Ytnhbhfnpcbmjkaa
open Go.RowKit Go.Shelf Go.Maps
set_option linter.unusedVariables false
set_option linter.unusedSimpArgs false

/-- a slice reads as these numbers -/
def RdI (w : World) (A : Option Addr) (l : List Int) : Prop := l = [] ∨ ∃ b f, A = some ⟨b, f, none⟩ ∧ ∀ j (h : j < l.length), w.cell? ⟨b, f + j, none⟩ = some (.int .i64 l[j])
theorem run_from {w : World} {b f : Nat} {l : Blk} (h : At w b f (cellsOf l)) (hl : l.length = 64) : (loadCellsFrom ⟨b, f, none⟩ 0 64 #[]).run Try.prog w = .ok (cellsOf l).toArray w := by
  have := run_loadCells_list (P := Try.prog) w ⟨b, f, none⟩ (cellsOf l) (fun j v hv => by rw [addr_add]; exact h j v hv)
  rw [cellsOf_length, hl] at this
  exact this
theorem yieldsIf_load_blk {ops : Array Oper} {o : Oper} {a : Act} {S : World → Prop} (hg : o.guard = none) (x : Operand) (ho : o.op = .load 30 x) (b f : Nat) (hx : a.eval x = .pointer (some ⟨b, f, none⟩)) (l : Blk) (hl : l.length = 64)
    (hc : ∀ w, S w → At w b f (cellsOf l)) : YieldsIf Try.prog ops S o (bv l) a := .inl ⟨by simp [Region.wanted, hg], fun w hS => exec_load_blk x ho b f hx l hl (hc w hS)⟩
theorem tear_take (zs : List ((Int × Blk) × Int)) (f : Tab) (k : Nat) (hk : k < zs.length) : tear (zs.take (k + 1)) f = upd (tear (zs.take k) f) zs[k].1.1 (torn (tell (tear (zs.take k) f) zs[k].1.1) zs[k].1.2 zs[k].2) := by
  rw [List.take_succ_eq_append_getElem hk, tear_snoc]
theorem MapIs.ne_cell {w : World} {b B : Nat} {f : Tab} {a : Addr} {v : Value} (h : MapIs w b B f) (hc : w.cell? a = some v) : a.block ≠ b := by
  rintro rfl
  obtain ⟨D, ⟨es, clock, hb, _⟩, _⟩ := h
  simp [World.cell?, hb] at hc
theorem cell_turn {w w' : World} {F : Nat → Prop} {a : Addr} {v : Value} (h : w.cell? a = some v) (ht : Turn w w' F) (hF : ¬ F a.block) : w'.cell? a = some v :=
  (World.cell?_of_block (w := w) (ht.block _ (lt_of_cell h) hF)).trans h
theorem crash_end {w W wr w' w1 w2 : World} {p : DP} {s : DS} {picks : List Int} {yb : Nat} (hd : w = W) (hR : Turn W wr (· = p.lb)) (hE : DiskAt w' ⟨p.db, p.lb, yb, none, 0⟩ (emptied { s with laid := tear (s.q.zip picks) s.laid })) (hyb : wr.heap.size ≤ yb) (ht : Turn wr w' (· = p.db))
    (h1 : w1 = w'.setCell ⟨p.db, 5, none⟩ (.int .i64 0)) (h2 : w2 = w1.setCell ⟨p.db, 6, none⟩ (.bool false)) : DPost w p (crashed s picks) (.int .i64 0) (.returned (.int .i64 0)) w2 := by
  subst hd
  have t1 : Turn w' w2 (· = p.db) := by rw [h2, h1]; exact (turn_set w' p.db 5 _).trans (turn_set _ p.db 6 _) (fun _ _ e => e)
  have hc : Cs w2 p.db 49 (((dcells ⟨p.db, p.lb, yb, none, 0⟩ (emptied { s with laid := tear (s.q.zip picks) s.laid })).setIfInBounds 5 (.int .i64 0)).setIfInBounds 6 (.bool false)) := by
    rw [h2, h1]
    exact (hE.cells.set 5 _).set 6 _
  have hD : DiskAt w2 ⟨p.db, p.lb, yb, none, 0⟩ (crashed s picks) := by
    refine hE.set t1 ?_ rfl rfl rfl rfl hE.stp (by show (0 : Nat) < _; decide)
    rw [show dcells ⟨p.db, p.lb, yb, none, 0⟩ (crashed s picks) = ((dcells ⟨p.db, p.lb, yb, none, 0⟩ (emptied { s with laid := tear (s.q.zip picks) s.laid })).setIfInBounds 5 (.int .i64 0)).setIfInBounds 6 (.bool false) from by simp [dcells, emptied, crashed]]
    exact hc
  exact worked_turn (s0 := s) (hR := hR) (Turn.refl w _) hD hyb (ht.trans t1 (fun _ _ e => e))

set_option maxHeartbeats 4000000 in
theorem Crash_disk {w : World} {p : DP} {s : DS} (h : DiskAt w p s) (picks : List Int) (PA : Option Addr) (pc : Nat) (hr : RdI w PA picks) (hwf : ∀ x ∈ picks, -9223372036854775808 ≤ x ∧ x ≤ 9223372036854775807)
    (hq : s.q.length < 1099511627776) (hpl : picks.length ≤ 9223372036854775807) :
    Calls Try.prog 12 #[.pointer (some ⟨p.db, 0, none⟩), .slice PA picks.length pc] w fun e w' => DPost w p (crashed s picks) (.int .i64 0) e w' := by
  have hmix : Try.prog.follows .mixedOrders = true := by kernel_rfl
  have cn := isNone_disk h
  have c3 := h.at.2.2.2.1
  obtain ⟨A0, hA0⟩ : ∃ A0, p.A = A0 := ⟨_, rfl⟩
  obtain ⟨c0, hc0⟩ : ∃ c0, p.cap = c0 := ⟨_, rfl⟩
  rw [hA0, hc0] at c3
  have HA0 := Lib.hid hA0
  clear hA0 hc0
  have HW := Lib.hid h
  have WF := Lib.hid h.wfq
  have RD := Lib.hid hr
  have WP := Lib.hid hwf
  have HQ := Lib.hid hq
  have HPL := Lib.hid hpl
  clear h hr hwf hq hpl
  have hn0 : (0 : Int) ≤ (s.q.length : Int) := Int.natCast_nonneg _
  have hn1 : (s.q.length : Int) ≤ 1099511627776 := by have := HQ.out; omega
  have hp0 : (0 : Int) ≤ (picks.length : Int) := Int.natCast_nonneg _
  have hp1 : (picks.length : Int) ≤ 9223372036854775807 := by have := HPL.out; omega
  go_enter Try.func12, Try.ntmps12
  go_wp2_with fail
  refine cn.mono ?_
  clear cn
  rintro e _ ⟨rfl, rfl⟩
  go_wp2_with fail
  go_loopw [14] (fun i wr => ∃ k : Nat, k ≤ s.q.length ∧ k ≤ picks.length ∧ i = .int .i64 k ∧ MapIs wr p.lb s.blocks (tear ((s.q.zip picks).take k) s.laid) ∧ Turn w wr (· = p.lb)) (fun i _ => s.q.length - (intOf i).toNat)
  case atStart => exact ⟨0, Nat.zero_le _, Nat.zero_le _, rfl, HW.out.laid, Turn.refl _ _⟩
  case round =>
    obtain ⟨k, hk, hkp, rfl, hm, ht⟩ := hrel
    have HM := Lib.hid hm
    have HR := Lib.hid ht
    clear hm ht
    by_cases hlt : k < s.q.length
    · obtain ⟨g, cap', hA⟩ := ownsRow_form HW.out.q (by omega)
      injection hA with hA _ hcap
      have hz := Lib.hid (WF.out _ (List.getElem_mem hlt))
      have PQ := Lib.hid (laid_turn HW.out HR.out)
      have HZ := Lib.hid (at_queue (by have := PQ.out.2.2; rw [hA] at this; exact this) (fun x hx => (WF.out x hx).2.2) k hlt)
      have hA2 := HA0.out.symm.trans hA
      clear hA hcap
      subst hA2
      have lt1 : (k : Int) < (s.q.length : Int) := by omega
      obtain ⟨z, hzz⟩ : ∃ z, s.q[k] = z := ⟨_, rfl⟩
      rw [hzz] at hz HZ
      by_cases hp : k < picks.length
      · have ne1 : ((k : Int) == (picks.length : Int)) = false := by simp; omega
        have lt2 : (k : Int) < (picks.length : Int) := by omega
        have hlz : k < (s.q.zip picks).length := by rw [List.length_zip]; omega
        have HT := Lib.hid (tear_take (s.q.zip picks) s.laid k hlz)
        have hzip : (s.q.zip picks)[k] = (z, picks[k]) := by rw [List.getElem_zip, hzz]
        rw [hzip] at HT
        have HWP := Lib.hid (WP.out _ (List.getElem_mem hp))
        obtain ⟨pb, pf, hPA, hcp⟩ : ∃ b f, PA = some ⟨b, f, none⟩ ∧ ∀ j (h : j < picks.length), w.cell? ⟨b, f + j, none⟩ = some (.int .i64 picks[j]) := by
          rcases RD.out with h | h
          · rw [h] at hp; cases hp
          · exact h
        have CP0 := Lib.hid (hcp k hp)
        obtain ⟨pick, hpick⟩ : ∃ x, picks[k] = x := ⟨_, rfl⟩
        rw [hpick] at CP0 HT HWP
        clear hcp hpick hzip hzz
        subst hPA
        go_wp2_with (first
          | (refine wpList_load_write rfl (.tmp 17) rfl g _ rfl z hz.out.2.2 (HZ.out.off (by omega)) ?_; go_frame)
          | (refine wpList_alloc_write rfl rfl ?_; intro g6 w1 hk5 hb5 hg5; go_frame; have K5 := Lib.hid hk5; have B5 := Lib.hid hb5; have G5 := Lib.hid hg5; clear hk5 hb5 hg5)
          | (refine wpList_fill_write rfl (.tmp 6) (.tmp 18) rfl g6 rfl z rfl hz.out.2.2 K5.out ?_; intro w2 hk2 hr2; go_frame; have K2 := Lib.hid hk2; have R2 := Lib.hid hr2; clear hk2 hr2))
        have B2 := Lib.hid (keep_own B5.out R2.out G5.out)
        have T2 := Lib.hid (HR.out.trans (Turn.of_below B2.out (· = p.lb)) (fun _ _ e => e))
        have NG := Lib.hid (show ¬ g6 = p.lb by have := HM.out.lt; have := G5.out; omega)
        have C1 := Lib.hid (show ∀ w9, Turn w2 w9 (· = p.lb) → w9.cell? ⟨p.db, 1, none⟩ = some (.map (some p.lb)) from fun w9 h9 => (laid_turn HW.out (T2.out.trans h9 (fun _ _ e => e))).1.cell 1 rfl)
        have CN := Lib.hid (show ∀ w9, Turn w2 w9 (· = p.lb) → w9.cell? ⟨g6, 0, none⟩ = some (.int .i64 z.1) from fun w9 h9 => (at_write (K2.out.turn h9 NG.out)).1)
        have AZ := Lib.hid (show ∀ w9, Turn w2 w9 (· = p.lb) → At w9 g6 1 (cellsOf z.2) from fun w9 h9 => (at_write (K2.out.turn h9 NG.out)).2)
        have NP := Lib.hid (HW.out.laid.ne_cell CP0.out)
        have CP := Lib.hid (show ∀ w9, Turn w2 w9 (· = p.lb) → w9.cell? ⟨pb, pf + k, none⟩ = some (.int .i64 pick) from fun w9 h9 => cell_turn CP0.out (T2.out.trans h9 (fun _ _ e => e)) NP.out)
        refine wp_region_held (S := fun w9 => Turn w2 w9 (· = p.lb)) hmix ?_
        change wpAnyH _ _ _ _ _ _ _ _ (World.drew w2)
        have S4 := Lib.hid (Turn.drew w2 (· = p.lb))
        have M4 := Lib.hid (HM.out.turn (Turn.of_below B2.out.drew fun _ => False) (fun h => h))
        generalize World.drew w2 = w4 at S4 M4 ⊢
        refine wpAnyH_take (i := 0) (v := .pointer (some ⟨p.db, 0, none⟩)) rfl (by kernel_rfl) (by kernel_rfl) (by kernel_rfl) (fun _ _ _ h => h) (Or.inl ⟨by rfl, by intro w9 hS; go_simp⟩) S4.out ?_
        simp only [List.getElem_toArray, List.getElem_cons_succ, List.getElem_cons_zero, Act.put, List.setIfInBounds_toArray, List.set_cons_succ, List.set_cons_zero]
        refine wpAnyH_take (i := 1) (v := .pointer (some ⟨p.db, 0, none⟩)) rfl (by kernel_rfl) (by kernel_rfl) (by kernel_rfl) (fun _ _ _ h => h) (Or.inl ⟨by rfl, by intro w9 hS; go_simp⟩) S4.out ?_
        simp only [List.getElem_toArray, List.getElem_cons_succ, List.getElem_cons_zero, Act.put, List.setIfInBounds_toArray, List.set_cons_succ, List.set_cons_zero]
        refine wpAnyH_take (i := 2) (v := .pointer (some ⟨p.db, 1, none⟩)) rfl (by kernel_rfl) (by kernel_rfl) (by kernel_rfl) (fun _ _ _ h => h) (Or.inl ⟨by rfl, by intro w9 hS; go_simp⟩) S4.out ?_
        simp only [List.getElem_toArray, List.getElem_cons_succ, List.getElem_cons_zero, Act.put, List.setIfInBounds_toArray, List.set_cons_succ, List.set_cons_zero]
        refine wpAnyH_take (i := 3) (v := .map (some p.lb)) rfl (by kernel_rfl) (by kernel_rfl) (by kernel_rfl) (fun _ _ _ h => h) (Or.inl ⟨by rfl, by intro w9 hS; have cc := C1.out w9 hS; go_simp⟩) S4.out ?_
        simp only [List.getElem_toArray, List.getElem_cons_succ, List.getElem_cons_zero, Act.put, List.setIfInBounds_toArray, List.set_cons_succ, List.set_cons_zero]
        refine wpAnyH_take (i := 4) (v := .pointer (some ⟨g6, 0, none⟩)) rfl (by kernel_rfl) (by kernel_rfl) (by kernel_rfl) (fun _ _ _ h => h) (Or.inl ⟨by rfl, by intro w9 hS; go_simp⟩) S4.out ?_
        simp only [List.getElem_toArray, List.getElem_cons_succ, List.getElem_cons_zero, Act.put, List.setIfInBounds_toArray, List.set_cons_succ, List.set_cons_zero]
        refine wpAnyH_take (i := 5) (v := .int .i64 z.1) rfl (by kernel_rfl) (by kernel_rfl) (by kernel_rfl) (fun _ _ _ h => h) (Or.inl ⟨by rfl, by intro w9 hS; have cc := CN.out w9 hS; go_simp⟩) S4.out ?_
        simp only [List.getElem_toArray, List.getElem_cons_succ, List.getElem_cons_zero, Act.put, List.setIfInBounds_toArray, List.set_cons_succ, List.set_cons_zero]
        refine wpAnyH_take (i := 6) (v := .pointer (some ⟨p.db, 0, none⟩)) rfl (by kernel_rfl) (by kernel_rfl) (by kernel_rfl) (fun _ _ _ h => h) (Or.inl ⟨by rfl, by intro w9 hS; go_simp⟩) S4.out ?_
        simp only [List.getElem_toArray, List.getElem_cons_succ, List.getElem_cons_zero, Act.put, List.setIfInBounds_toArray, List.set_cons_succ, List.set_cons_zero]
        refine wpAnyH_take (i := 7) (v := .pointer (some ⟨p.db, 0, none⟩)) rfl (by kernel_rfl) (by kernel_rfl) (by kernel_rfl) (fun _ _ _ h => h) (Or.inl ⟨by rfl, by intro w9 hS; go_simp⟩) S4.out ?_
        simp only [List.getElem_toArray, List.getElem_cons_succ, List.getElem_cons_zero, Act.put, List.setIfInBounds_toArray, List.set_cons_succ, List.set_cons_zero]
        refine wpAnyH_take (i := 8) (v := .pointer (some ⟨p.db, 1, none⟩)) rfl (by kernel_rfl) (by kernel_rfl) (by kernel_rfl) (fun _ _ _ h => h) (Or.inl ⟨by rfl, by intro w9 hS; go_simp⟩) S4.out ?_
        simp only [List.getElem_toArray, List.getElem_cons_succ, List.getElem_cons_zero, Act.put, List.setIfInBounds_toArray, List.set_cons_succ, List.set_cons_zero]
        refine wpAnyH_take (i := 9) (v := .map (some p.lb)) rfl (by kernel_rfl) (by kernel_rfl) (by kernel_rfl) (fun _ _ _ h => h) (Or.inl ⟨by rfl, by intro w9 hS; have cc := C1.out w9 hS; go_simp⟩) S4.out ?_
        simp only [List.getElem_toArray, List.getElem_cons_succ, List.getElem_cons_zero, Act.put, List.setIfInBounds_toArray, List.set_cons_succ, List.set_cons_zero]
        refine wpAnyH_take (i := 10) (v := .pointer (some ⟨g6, 0, none⟩)) rfl (by kernel_rfl) (by kernel_rfl) (by kernel_rfl) (fun _ _ _ h => h) (Or.inl ⟨by rfl, by intro w9 hS; go_simp⟩) S4.out ?_
        simp only [List.getElem_toArray, List.getElem_cons_succ, List.getElem_cons_zero, Act.put, List.setIfInBounds_toArray, List.set_cons_succ, List.set_cons_zero]
        refine wpAnyH_take (i := 11) (v := .int .i64 z.1) rfl (by kernel_rfl) (by kernel_rfl) (by kernel_rfl) (fun _ _ _ h => h) (Or.inl ⟨by rfl, by intro w9 hS; have cc := CN.out w9 hS; go_simp⟩) S4.out ?_
        simp only [List.getElem_toArray, List.getElem_cons_succ, List.getElem_cons_zero, Act.put, List.setIfInBounds_toArray, List.set_cons_succ, List.set_cons_zero]
        refine wpAnyH_take (i := 13) (v := .pointer (some ⟨g6, 1, none⟩)) rfl (by kernel_rfl) (by kernel_rfl) (by kernel_rfl) (fun _ _ _ h => h) (Or.inl ⟨by rfl, by intro w9 hS; go_simp⟩) S4.out ?_
        simp only [List.getElem_toArray, List.getElem_cons_succ, List.getElem_cons_zero, Act.put, List.setIfInBounds_toArray, List.set_cons_succ, List.set_cons_zero]
        refine wpAnyH_take (i := 14) (v := bv z.2) rfl (by kernel_rfl) (by kernel_rfl) (by kernel_rfl) (fun _ _ _ h => h) (yieldsIf_load_blk rfl (.tmp 36) rfl g6 1 rfl z.2 hz.out.2.2 AZ.out) S4.out ?_
        simp only [List.getElem_toArray, List.getElem_cons_succ, List.getElem_cons_zero, Act.put, List.setIfInBounds_toArray, List.set_cons_succ, List.set_cons_zero]
        refine wpAnyH_take (i := 15) (v := .slice (some ⟨pb, pf, none⟩) picks.length pc) rfl (by kernel_rfl) (by kernel_rfl) (by kernel_rfl) (fun _ _ _ h => h) (Or.inl ⟨by rfl, by intro w9 hS; go_simp⟩) S4.out ?_
        simp only [List.getElem_toArray, List.getElem_cons_succ, List.getElem_cons_zero, Act.put, List.setIfInBounds_toArray, List.set_cons_succ, List.set_cons_zero]
        refine wpAnyH_take (i := 16) (v := .int .i64 (k : Int)) rfl (by kernel_rfl) (by kernel_rfl) (by kernel_rfl) (fun _ _ _ h => h) (Or.inl ⟨by rfl, by intro w9 hS; go_simp⟩) S4.out ?_
        simp only [List.getElem_toArray, List.getElem_cons_succ, List.getElem_cons_zero, Act.put, List.setIfInBounds_toArray, List.set_cons_succ, List.set_cons_zero]
        refine wpAnyH_take (i := 17) (v := .pointer (some ⟨pb, pf + k, none⟩)) rfl (by kernel_rfl) (by kernel_rfl) (by kernel_rfl) (fun _ _ _ h => h) (Or.inl ⟨by rfl, by intro w9 hS; go_simp⟩) S4.out ?_
        simp only [List.getElem_toArray, List.getElem_cons_succ, List.getElem_cons_zero, Act.put, List.setIfInBounds_toArray, List.set_cons_succ, List.set_cons_zero]
        refine wpAnyH_take (i := 18) (v := .int .i64 pick) rfl (by kernel_rfl) (by kernel_rfl) (by kernel_rfl) (fun _ _ _ h => h) (Or.inl ⟨by rfl, by intro w9 hS; have cc := CP.out w9 hS; go_simp⟩) S4.out ?_
        simp only [List.getElem_toArray, List.getElem_cons_succ, List.getElem_cons_zero, Act.put, List.setIfInBounds_toArray, List.set_cons_succ, List.set_cons_zero]
        have hlt16 := Lib.hid (show z.1 < 16384 by have := HW.out.hi; have := hz.out.2.1; omega)
        have TL := Lib.hid (tell_len M4.out z.1 hz.out.1 hlt16.out).1
        refine wpAnyH_ready (rs := [12]) (by kernel_rfl) (by simp) ?_
        refine AllReadyH.cons rfl (fun K hK => ?_) AllReadyH.nil
        dsimp only [List.getElem_toArray, List.getElem_cons_succ, List.getElem_cons_zero]
        refine step_if rfl ?_
        refine wp_look (.tmp 32) (.tmp 34) rfl rfl z.1 rfl M4.out hz.out.1 hlt16.out ?_
        refine hK.out _ _ S4.out (fun _ => ?_)
        clear hK K
        simp only [List.getElem_toArray, List.getElem_cons_succ, List.getElem_cons_zero, Act.put, List.setIfInBounds_toArray, List.set_cons_succ, List.set_cons_zero]
        refine wpAnyH_ready (rs := [19]) (by kernel_rfl) (by simp) ?_
        refine AllReadyH.cons rfl (fun K hK => ?_) AllReadyH.nil
        dsimp only [List.getElem_toArray, List.getElem_cons_succ, List.getElem_cons_zero]
        go_simp
        refine (torn_any _ z.2 pick _ TL.out hz.out.2.2 HWP.out.1 HWP.out.2).mono ?_
        rintro e w5 ⟨rfl, hb5⟩
        have B5' := Lib.hid hb5
        have S5 := Lib.hid (S4.out.trans (Turn.of_below hb5 (· = p.lb)) (fun _ _ e => e))
        have M5 := Lib.hid (M4.out.turn (Turn.of_below hb5 fun _ => False) (fun h => h))
        clear hb5
        refine hK.out _ _ S5.out (fun _ => ?_)
        clear hK K
        try simp only [List.getElem_toArray, List.getElem_cons_succ, List.getElem_cons_zero, Act.put, List.setIfInBounds_toArray, List.set_cons_succ, List.set_cons_zero]
        refine wpAnyH_ready (rs := [20]) (by kernel_rfl) (by simp) ?_
        refine AllReadyH.cons rfl (fun K hK => ?_) AllReadyH.nil
        dsimp only [List.getElem_toArray, List.getElem_cons_succ, List.getElem_cons_zero]
        refine step_if rfl ?_
        refine wp_upd (.tmp 26) (.tmp 28) (.tmp 42) rfl rfl z.1 rfl (torn _ z.2 pick) rfl (torn_len _ _ _ TL.out hz.out.2.2) M5.out hz.out.1 hz.out.2.1 HW.out.hi ?_
        intro w6 hm6 hg6
        have S6 := Lib.hid (S5.out.trans (Turn.of_grown hg6) (fun i _ e => by injection e with e; exact e.symm))
        have M6 := Lib.hid (show MapIs w6 p.lb s.blocks (tear ((s.q.zip picks).take (k + 1)) s.laid) by rw [HT.out]; exact hm6)
        have T6 := Lib.hid (T2.out.trans S6.out (fun _ _ e => e))
        clear hm6 hg6
        refine hK.out _ _ S6.out (fun _ => ?_)
        clear hK K
        try simp only [List.getElem_toArray, List.getElem_cons_succ, List.getElem_cons_zero, Act.put, List.setIfInBounds_toArray, List.set_cons_succ, List.set_cons_zero]
        refine wpAnyH_done (by kernel_rfl) ?_ _
        go_wp2
        go_roundw
        case rel => exact ⟨k + 1, by omega, by omega, by go_num, M6.out, T6.out⟩
        case measure => simp [intOf]; omega
      · have eq1 : ((k : Int) == (picks.length : Int)) = true := by simp; omega
        clear hzz
        have HK := Lib.hid (show picks.length ≤ k by omega)
        go_wp2_with (first
          | (refine wpList_load_write rfl (.tmp 17) rfl g _ rfl z hz.out.2.2 (HZ.out.off (by omega)) ?_; go_frame)
          | (refine wpList_alloc_write rfl rfl ?_; intro g6 w1 hk5 hb5 hg5; go_frame; have K5 := Lib.hid hk5; have B5 := Lib.hid hb5; have G5 := Lib.hid hg5; clear hk5 hb5 hg5)
          | (refine wpList_fill_write rfl (.tmp 6) (.tmp 18) rfl g6 rfl z rfl hz.out.2.2 K5.out ?_; intro w2 hk2 hr2; go_frame; have K2 := Lib.hid hk2; have R2 := Lib.hid hr2; clear hk2 hr2))
        have B2 := Lib.hid (keep_own B5.out R2.out G5.out)
        have T2 := Lib.hid (HR.out.trans (Turn.of_below B2.out (· = p.lb)) (fun _ _ e => e))
        have M2 := Lib.hid (HM.out.turn (Turn.of_below B2.out fun _ => False) (fun h => h))
        have HE := Lib.hid (laid_disk HW.out T2.out (f := tear (s.q.zip picks) s.laid) (by have := M2.out; rwa [List.take_of_length_le (by rw [List.length_zip]; have := HK.out; omega)] at this))
        go_wp2_with fail
        refine (emptyQueue_disk HE.out).mono ?_
        rintro e w' ⟨rfl, he, ht⟩
        have HE2 := Lib.hid he
        have HT2 := Lib.hid ht
        have c5 := he.at.2.2.2.2.2.1
        have c6 := he.at.2.2.2.2.2.2
        have f5 := he.cells.frozen 5
        have f6 := he.cells.frozen 6
        clear he ht
        go_wp2_with fail
        go_ret
        exact crash_end rfl T2.out HE2.out (Nat.le_refl _) HT2.out rfl rfl
    · have HK := Lib.hid (show s.q.length ≤ k by omega)
      have HE := Lib.hid (laid_disk HW.out HR.out (f := tear (s.q.zip picks) s.laid) (by have := HM.out; rwa [List.take_of_length_le (by rw [List.length_zip]; have := HK.out; omega)] at this))
      go_wp2_with fail
      refine (emptyQueue_disk HE.out).mono ?_
      rintro e w' ⟨rfl, he, ht⟩
      have HE2 := Lib.hid he
      have HT2 := Lib.hid ht
      have c5 := he.at.2.2.2.2.2.1
      have c6 := he.at.2.2.2.2.2.2
      have f5 := he.cells.frozen 5
      have f6 := he.cells.frozen 6
      clear he ht
      go_wp2_with fail
      go_ret
      exact crash_end rfl HR.out HE2.out (Nat.le_refl _) HT2.out rfl rfl

end Go.Proofs.Ytnhbhfnpcbmjkaa
