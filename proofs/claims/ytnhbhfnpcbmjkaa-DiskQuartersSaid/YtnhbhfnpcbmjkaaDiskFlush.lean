/- Flush: what waits is laid down. -/
import Derived.Test.YtnhbhfnpcbmjkaaDiskWrite2
namespace Go.Proofs.Ytnhbhfnpcbmjkaa
open Go.RowKit Go.Shelf Go.Maps
set_option linter.unusedVariables false
set_option linter.unusedSimpArgs false

theorem At.off {w : World} {b f f' : Nat} {cs : List Value} (h : At w b f cs) (e : f = f') : At w b f' cs := e ▸ h
/-- the queue's writes, in memory -/
theorem at_queue {w : World} {g n cap : Nat} {q : List (Int × Blk)} (h : w.ownsRow 0 53 65 (.slice (some ⟨g, 0, none⟩) n cap) n (qcells q)) (hq : ∀ x ∈ q, x.2.length = 64) (k : Nat) (hk : k < q.length) : At w g (k * 65) (wcells q[k]) := by
  intro j v hv
  have hj : j < 65 := by
    have := (List.getElem?_eq_some_iff.1 hv).1
    rwa [wcells_len _ (hq _ (List.getElem_mem hk))] at this
  have := h.cells (g := g) rfl (k * 65 + j) v (by rw [qcells_at q hq k hk j hj]; exact hv)
  rwa [addr_add, Nat.zero_add] at this
section
variable {w : World} {ops : Array Oper} {rest : List Oper} {o : Oper} {a : Act} {Q : Exit → Act → World → Prop} {K : Act → World → Prop}
theorem wpList_alloc_write (hgd : o.guard = none) (ho : o.op = .alloc 53) (hK : ∀ g w', Cs w' g 53 (wcells (0, zb)).toArray → Below w.heap.size w w' → w.heap.size ≤ g → wpList Try.prog ops Q rest (a.put o.dst (.pointer (some ⟨g, 0, none⟩))) w') : wpList Try.prog ops Q (o :: rest) a w :=
  wpList_alloc_agg hgd 53 ho (wcells (0, zb)) zero53 (hK _ _ (Cs.new _ _ _) ((Below.refl _ _).alloc (Nat.le_refl _) _) (Nat.le_refl _))
theorem wpList_fill_write (hgd : o.guard = none) (x y : Operand) (ho : o.op = .store 53 x y) (g : Nat) (hx : a.eval x = .pointer (some ⟨g, 0, none⟩)) (z : Int × Blk) (hy : a.eval y = .agg (wcells z).toArray) (hl : z.2.length = 64) (hg : Cs w g 53 (wcells (0, zb)).toArray)
    (hK : ∀ w', Cs w' g 53 (wcells z).toArray → w.grownBy w' (some g) → wpList Try.prog ops Q rest (a.put o.dst undef) w') : wpList Try.prog ops Q (o :: rest) a w := by
  have e : (wcells z).length = (wcells (0, zb)).toArray.size := by rw [List.size_toArray, wcells_len z hl, wcells_len _ zb_len]
  refine wpList_store_agg hgd 53 x y ho g 0 hx (wcells z) hy 53 (wcells (0, zb)).toArray hg (by omega) (wcells_one z) (info53s z hl) (hK _ ?_ (grown_row _ _ _))
  have := hg.row (over (wcells (0, zb)).toArray 0 (wcells z))
  rwa [over_whole _ _ e] at this ⊢
theorem wpList_load_write (hgd : o.guard = none) (x : Operand) (ho : o.op = .load 53 x) (b f : Nat) (hx : a.eval x = .pointer (some ⟨b, f, none⟩)) (z : Int × Blk) (hl : z.2.length = 64) (hc : At w b f (wcells z))
    (hK : wpList Try.prog ops Q rest (a.put o.dst (.agg (wcells z).toArray)) w) : wpList Try.prog ops Q (o :: rest) a w :=
  wpList_load_agg hgd 53 x ho b f hx (wcells z) hc _ Try.underlying53 rfl (info53s z hl) hK
end
/-- what a write's variable holds -/
theorem at_write {w : World} {g : Nat} {z : Int × Blk} (h : Cs w g 53 (wcells z).toArray) : w.cell? ⟨g, 0, none⟩ = some (.int .i64 z.1) ∧ At w g 1 (cellsOf z.2) :=
  ⟨h.cell 0 (by simp [wcells]), At.of_cs h 1 _ fun j v hv => by rw [List.getElem?_toArray, show 1 + j = j + 1 by omega]; simpa [wcells] using hv⟩
theorem lay_take (q : List (Int × Blk)) (f : Tab) (k : Nat) (hk : k < q.length) : lay (q.take (k + 1)) f = upd (lay (q.take k) f) q[k].1 q[k].2 := by
  rw [List.take_succ_eq_append_getElem hk, lay_snoc]

/-- a disk of whose laid blocks alone something has turned -/
theorem laid_turn {W wr : World} {p : DP} {s : DS} (h : DiskAt W p s) (t : Turn W wr (· = p.lb)) : Cs wr p.db 49 (dcells p s) ∧ MapIs wr p.yb s.blocks s.young ∧ wr.ownsRow 0 53 65 (.slice p.A s.q.length p.cap) s.q.length (qcells s.q) :=
  ⟨h.cells.turn t (fun e => h.laid.ne_cs h.cells e.symm), h.young.turn t (fun e => h.ne e.symm), ownsRow_turn h.q t (fun k hk e => ownsRow_ne_map h.q h.laid (by rw [hk, e]))⟩
theorem laid_disk {W wr : World} {p : DP} {s : DS} {f : Tab} (h : DiskAt W p s) (t : Turn W wr (· = p.lb)) (hm : MapIs wr p.lb s.blocks f) : DiskAt wr p { s with laid := f } :=
  ⟨(laid_turn h t).1, hm, (laid_turn h t).2.1, h.ne, (laid_turn h t).2.2, h.lo, h.hi, h.wfq, h.stp, h.lft⟩
theorem worked_turn {w W wr w' : World} {p : DP} {s0 s : DS} {v : Value} {yb : Nat} (hT : Turn w W (· = p.db)) (hR : Turn W wr (· = p.lb)) (hE : DiskAt w' ⟨p.db, p.lb, yb, none, 0⟩ s) (hyb : wr.heap.size ≤ yb) (ht : Turn wr w' (· = p.db)) :
    DPost w p s v (.returned v) w' := by
  refine ⟨rfl, ⟨p.db, p.lb, yb, none, 0⟩, hE, rfl, ((hT.mono (G := foot p) (fun i _ e => .inl e)).trans hR (fun i _ e => .inr (.inl e))).trans ht (fun i _ e => .inl e), ?_⟩
  rintro k (hk | hk | hk | hk)
  · exact .inl (.inl hk)
  · exact .inl (.inr (.inl hk))
  · exact .inr (by rw [hk]; exact Nat.le_trans hT.size (Nat.le_trans hR.size hyb))
  · cases hk
def flushS (s : DS) : DS := if s.dark = true then s else if s.left = 1 then gone s else flushed s
def flushE (s : DS) : Int := if s.dark = true then 9 else if s.left = 1 then 9 else 0
set_option maxHeartbeats 4000000 in
theorem Flush_ok {w : World} {p : DP} {s0 : DS} (h : DiskAt w p s0) (hs : s0.steps + 1 < 4611686018427387904) (hq : s0.q.length < 1099511627776) (hd : s0.dark = false) (h1 : s0.left ≠ 1) :
    Calls Try.prog 9 #[.pointer (some ⟨p.db, 0, none⟩)] w fun e w' => DPost w p (flushed s0) (.int .i64 0) e w' := by
  have HW0 := Lib.hid h
  have HS := Lib.hid hs
  have HQ0 := Lib.hid hq
  have HD := Lib.hid hd
  have H1 := Lib.hid h1
  have hmix : Try.prog.follows .mixedOrders = true := by kernel_rfl
  clear h hs hq hd h1
  go_enter Try.func9, Try.ntmps9
  go_wp2_with fail
  have c1 := refused_disk HW0.out
  rw [HD.out, if_neg (by decide)] at c1
  refine c1.mono ?_
  clear c1
  rintro e _ ⟨rfl, rfl⟩
  go_wp2_with fail
  have c3 := work_disk HW0.out HS.out
  rw [decide_eq_true H1.out, show workS s0 = worked s0 from if_neg H1.out] at c3
  refine c3.mono ?_
  clear c3
  rintro e W ⟨rfl, hW, hT⟩
  have HT := Lib.hid hT
  obtain ⟨s, hs⟩ : ∃ s, worked s0 = s := ⟨_, rfl⟩
  rw [hs] at hW
  have HF := Lib.hid (show flushed s0 = emptied { s with laid := lay s.q s.laid } by rw [← hs]; rfl)
  have HQ := Lib.hid (show s.q.length < 1099511627776 by rw [← hs]; exact HQ0.out)
  clear hs hT
  have c3 := hW.at.2.2.2.1
  obtain ⟨A0, hA0⟩ : ∃ A0, p.A = A0 := ⟨_, rfl⟩
  obtain ⟨c0, hc0⟩ : ∃ c0, p.cap = c0 := ⟨_, rfl⟩
  rw [hA0, hc0] at c3
  have HA0 := Lib.hid hA0
  clear hA0 hc0
  have HW := Lib.hid hW
  have WF := Lib.hid hW.wfq
  clear hW
  go_wp2_with fail
  have hn0 : (0 : Int) ≤ (s.q.length : Int) := Int.natCast_nonneg _
  have hn1 : (s.q.length : Int) ≤ 1099511627776 := by have := HQ.out; omega
  go_loopw [19] (fun i wr => ∃ k : Nat, k ≤ s.q.length ∧ i = .int .i64 k ∧ MapIs wr p.lb s.blocks (lay (s.q.take k) s.laid) ∧ Turn W wr (· = p.lb)) (fun i _ => s.q.length - (intOf i).toNat)
  case atStart => exact ⟨0, Nat.zero_le _, rfl, HW.out.laid, Turn.refl _ _⟩
  case round =>
    obtain ⟨k, hk, rfl, hm, ht⟩ := hrel
    have HM := Lib.hid hm
    have HR := Lib.hid ht
    clear hm ht
    by_cases hlt : k < s.q.length
    · obtain ⟨g, cap', hA⟩ := ownsRow_form HW.out.q (by omega)
      injection hA with hA _ hcap
      have hl := Lib.hid (WF.out _ (List.getElem_mem hlt))
      have PQ := Lib.hid (laid_turn HW.out HR.out)
      have HZ := Lib.hid (at_queue (by have := PQ.out.2.2; rw [hA] at this; exact this) (fun x hx => (WF.out x hx).2.2) k hlt)
      have hA2 := HA0.out.symm.trans hA
      clear hA hcap
      subst hA2
      have lt1 : (k : Int) < (s.q.length : Int) := by omega
      obtain ⟨z, hz⟩ : ∃ z, s.q[k] = z := ⟨_, rfl⟩
      have HLAY := Lib.hid (lay_take s.q s.laid k hlt)
      rw [hz] at hl HZ HLAY
      clear hz
      go_wp2_with (first
        | (refine wpList_load_write rfl (.tmp 21) rfl g _ rfl z hl.out.2.2 (HZ.out.off (by omega)) ?_; go_frame)
        | (refine wpList_alloc_write rfl rfl ?_; intro g5 w1 hk5 hb5 hg5; go_frame; have K5 := Lib.hid hk5; have B5 := Lib.hid hb5; have G5 := Lib.hid hg5; clear hk5 hb5 hg5)
        | (refine wpList_fill_write rfl (.tmp 5) (.tmp 22) rfl g5 rfl z rfl hl.out.2.2 K5.out ?_; intro w2 hk2 hr2; go_frame; have K2 := Lib.hid hk2; have R2 := Lib.hid hr2; clear hk2 hr2))
      have B2 := Lib.hid (keep_own B5.out R2.out G5.out)
      refine region_tail 8 hmix (by kernel_rfl) ?_
      intro w3 hw3
      have B3 := Lib.hid (show Below wr.heap.size wr w3 by rw [hw3]; exact B2.out.drew)
      have K3 := Lib.hid (show Cs w3 g5 53 (wcells z).toArray by rw [hw3]; exact K2.out.drew)
      clear hw3
      have T3 := Lib.hid (HR.out.trans (Turn.of_below B3.out (· = p.lb)) (fun _ _ e => e))
      have M3 := Lib.hid (HM.out.turn (Turn.of_below B3.out fun _ => False) (fun h => h))
      have c1 : w3.cell? ⟨p.db, 1, none⟩ = some (.map (some p.lb)) := (laid_turn HW.out T3.out).1.cell 1 rfl
      have cz := (at_write K3.out).1
      have AZ := Lib.hid (at_write K3.out).2
      simp only [List.take_succ_cons, List.take_zero, List.drop_succ_cons, List.drop_zero]
      still_step
      still_step
      still_step
      still_step
      still_step
      still_step
      still_step
      refine wpStill_of_run rfl (exec_load_blk (.tmp 29) rfl g5 1 rfl z.2 hl.out.2.2 AZ.out) ?_
      go_frame
      refine wpStill_nil ?_
      refine wpList_upd rfl (.tmp 26) (.tmp 28) (.tmp 30) rfl rfl z.1 rfl z.2 rfl hl.out.2.2 M3.out hl.out.1 hl.out.2.1 HW.out.hi ?_
      intro w4 hm4 hg4
      have M4 := Lib.hid (show MapIs w4 p.lb s.blocks (lay (s.q.take (k + 1)) s.laid) by rw [HLAY.out]; exact hm4)
      have T4 := Lib.hid (T3.out.trans (Turn.of_grown hg4) (fun i _ e => by injection e with e; exact e.symm))
      clear hm4 hg4
      go_frame
      go_wp2
      go_roundw
      case rel => exact ⟨k + 1, by omega, by go_num, M4.out, T4.out⟩
      case measure => simp [intOf]; omega
    · obtain rfl : k = s.q.length := by omega
      have HE := Lib.hid (laid_disk HW.out HR.out (f := lay s.q s.laid) (by have := HM.out; rwa [List.take_of_length_le (Nat.le_refl _)] at this))
      go_wp2_with fail
      refine (emptyQueue_disk HE.out).mono ?_
      rintro e w' ⟨rfl, he, ht⟩
      have HE2 := Lib.hid he
      have HT2 := Lib.hid ht
      clear he ht
      go_wp2_with fail
      go_ret
      rw [HF.out]
      exact worked_turn (s0 := s0) HT.out HR.out HE2.out (Nat.le_refl _) HT2.out

theorem Flush_disk {w : World} {p : DP} {s : DS} (h : DiskAt w p s) (hs : s.steps + 1 < 4611686018427387904) (hq : s.q.length < 1099511627776) :
    Calls Try.prog 9 #[.pointer (some ⟨p.db, 0, none⟩)] w fun e w' => DPost w p (flushS s) (.int .i64 (flushE s)) e w' := by
  cases hd : s.dark
  · by_cases h1 : s.left = 1
    · rw [show flushS s = gone s from by simp [flushS, hd, h1], show flushE s = 9 from by simp [flushE, hd, h1]]
      have c1 := refused_disk h
      rw [hd, if_neg (by decide)] at c1
      have c3 := work_disk h hs
      rw [decide_eq_false (by rw [h1]; decide), show workS s = gone s from if_pos h1] at c3
      clear h hs hq hd h1
      go_enter Try.func9, Try.ntmps9
      go_wp2_with fail
      refine c1.mono ?_
      clear c1
      rintro e _ ⟨rfl, rfl⟩
      go_wp2_with fail
      refine c3.mono ?_
      clear c3
      rintro e W ⟨rfl, hW, hT⟩
      have HW := Lib.hid hW
      have HT := Lib.hid hT
      clear hW hT
      go_wp2_with fail
      go_ret
      exact ⟨rfl, p, HW.out, rfl, HT.out.mono fun i _ e => .inl e, fun k hk => .inl hk⟩
    · rw [show flushS s = flushed s from by simp [flushS, hd, h1], show flushE s = 0 from by simp [flushE, hd, h1]]
      exact Flush_ok h hs hq hd h1
  · rw [show flushS s = s from by simp [flushS, hd], show flushE s = 9 from by simp [flushE, hd]]
    have c1 := refused_disk h
    rw [hd, if_pos rfl] at c1
    have H := Lib.hid h
    clear h hs hq hd
    go_enter Try.func9, Try.ntmps9
    go_wp2_with fail
    refine c1.mono ?_
    clear c1
    rintro e _ ⟨rfl, rfl⟩
    go_wp2_with fail
    go_ret
    exact DPost.same H.out _

end Go.Proofs.Ytnhbhfnpcbmjkaa
