/- Copy: another disk, the same in all; and the two clones that it calls. -/
import Derived.Test.YtnhbhfnpcbmjkaaDiskCrash
import Derived.Shelf.SlMaps.Clone
import Derived.Lib.SliceRun
namespace Go.Proofs.Ytnhbhfnpcbmjkaa
open Go.RowKit Go.Shelf Go.Maps
set_option linter.unusedVariables false
set_option linter.unusedSimpArgs false

def CloneM (w : World) (B : Nat) (f : Tab) (e : Ending) (w' : World) : Prop := ∃ g, e = .returned (.map (some g)) ∧ MapIs w' g B f ∧ w.heap.size ≤ g ∧ Below w.heap.size w w'
set_option maxHeartbeats 2000000 in
theorem mapsClone_any {w : World} {b B : Nat} {f : Tab} (h : MapIs w b B f) : Calls Try.prog 27 #[.map (some b)] w fun e w' => CloneM w B f e w' := by
  have hq := fun w => run_eql_map_nil_sl (P := Try.prog) w 46 _ _ (some b) Try.underlying46
  have H := Lib.hid h
  obtain ⟨D, ⟨es, clock, hb, hF⟩, hK⟩ := h
  have HF := Lib.hid hF
  have HK := Lib.hid hK
  clear hF hK
  go_enter Try.func27, Try.ntmps27
  go_wp2
  rw [run_callFunc_extern Try.func29 (by kernel_rfl) (by kernel_rfl) (by kernel_rfl) (e := Extern.MapsClone.clone) (by kernel_rfl), run_maps_clone_sl w 46 hb]
  simp only [Result.andThen]
  rw [Oper.upon_value]
  go_wp2
  rw [run_typeAssert_map_sl _ 46 _ _ _ _ Try.underlying46]
  simp only [Result.andThen]
  rw [Oper.upon_value]
  go_wp2
  go_ret
  exact ⟨_, rfl, ⟨D, ⟨es, clock, (MapKept.heap_alloc w _).1, HF.out⟩, HK.out⟩, Nat.le_refl _, (Below.refl _ w).alloc (Nat.le_refl _) _⟩

def CloneS (w : World) (q : List (Int × Blk)) (e : Ending) (w' : World) : Prop := ∃ A cap, e = .returned (.slice A q.length cap) ∧ w'.ownsRow w.heap.size 53 65 (.slice A q.length cap) q.length (qcells q) ∧ Below w.heap.size w w'
set_option maxHeartbeats 2000000 in
theorem slicesClone_any {w : World} {A : Option Addr} {cap : Nat} {q : List (Int × Blk)} (h : w.ownsRow 0 53 65 (.slice A q.length cap) q.length (qcells q)) (hq : q.length < 1099511627776) (h64 : ∀ x ∈ q, x.2.length = 64) :
    Calls Try.prog 28 #[.slice A q.length cap] w fun e w' => CloneS w q e w' := by
  obtain ⟨i0, hi, hz0, hz1, hz2⟩ := info_parts info53
  have q22 : ∀ (w : World) (a : Option Addr) (n c n' c' : Nat), (binOp .eql 47 (.slice a n c) (.slice none n' c')).run Try.prog w = .ok (.bool a.isNone) w := fun w a n c n' c' => Lib.run_eql_slice_nil w _ _ a n c n' c' Try.underlying47
  have hone : ∀ u ∈ qcells q, u.oneCell' = true := by
    intro u hu
    simp only [qcells, List.mem_flatMap] at hu
    obtain ⟨x, _, hx⟩ := hu
    exact wcells_one x u hx
  have HO := Lib.hid hone
  have HL := Lib.hid (qcells_len q h64)
  have H := Lib.hid h
  rcases h.2 with ⟨hv, h0⟩ | ⟨g, cap', cur, hv, -⟩
  · injection hv with hA _ _
    have hq0 : q = [] := List.eq_nil_of_length_eq_zero h0
    subst hA hq0
    clear h h0 hone
    go_enter Try.func28, Try.ntmps28
    go_wp2
    go_ret
    exact ⟨none, 0, rfl, World.ownsRow_nil _ _ _ _, Below.refl _ _⟩
  · injection hv with hA _ _
    subst hA
    have hc := Lib.hid (show ∀ j u, (qcells q)[j]? = some u → w.cell? ⟨g, j, none⟩ = some u from fun j u hj => by have := h.cells (g := g) rfl j u hj; rwa [addr_add, Nat.zero_add] at this)
    clear h hone
    go_enter Try.func28, Try.ntmps28
    go_wp2_with (at_builtin; refine wpList_append_own _ rfl _ _ 47 rfl w.heap.size 53 i0 wz 65 72 Try.underlying47 hi hz0 hz1 hz2 (by show (wcells (0, zb)).toArray.size = 65; rw [List.size_toArray, wcells_len _ zb_len]) (by decide) _ _ _ rfl (World.ownsRow_made w #[] 0 (Nat.le_refl _) (Nat.zero_le _) (by simp)) ⟨g, 0, none⟩ q.length cap (qcells q) rfl ?qc1 ?qc2 ?qc3 ?qc4 ?qc5 (by simp) ?_)
    case qc1 => exact HL.out
    case qc2 => exact fun j u hj => Lib.cell?_alloc_some _ (hc.out j u hj)
    case qc3 => exact HO.out
    case qc4 => unfold maxLen; omega
    case qc5 => omega
    intro v' w1 hown hgrow hnil
    have HB := Lib.hid (show Below w.heap.size w w1 from ((Below.refl _ w).alloc (Nat.le_refl _) _).grown hgrow (by simp) (by intro k hk; simp [Value.ownBlock] at hk; omega))
    have HN := Lib.hid hown
    obtain ⟨A', cap'', hv⟩ : ∃ A' cap'', v' = .slice A' q.length cap'' := by
      rcases hown.2 with ⟨hv, h0⟩ | ⟨g', cap'', _, hv, _⟩
      · exact ⟨none, 0, by rw [hv, h0]⟩
      · exact ⟨_, _, hv⟩
    subst hv
    clear hown hgrow hnil
    go_wp2
    go_ret
    exact ⟨A', cap'', rfl, HN.out, HB.out⟩

theorem zero49 (w : World) : (zeroValue 49).run Try.prog w = .ok (.agg #[.int .i64 0, .map none, .map none, .slice none 0 0, .int .i64 0, .int .i64 0, .bool false]) w := by kernel_rfl
theorem dcells_one (p : DP) (s : DS) : ∀ v ∈ (dcells p s).toList, v.oneCell' = true := by
  intro v hv
  simp only [dcells, List.mem_cons, List.not_mem_nil, or_false] at hv
  rcases hv with rfl | rfl | rfl | rfl | rfl | rfl | rfl <;> rfl
/-- what Copy hands back -/
def CopyPost (w : World) (s : DS) (e : Ending) (w' : World) : Prop := ∃ p', e = .returned (.pointer (some ⟨p'.db, 0, none⟩)) ∧ DiskAt w' p' s ∧ (∀ k, foot p' k → w.heap.size ≤ k) ∧ Below w.heap.size w w'
section
variable {w : World} {ops : Array Oper} {rest : List Oper} {o : Oper} {a : Act} {Q : Exit → Act → World → Prop}
def zdisk : List Value := [.int .i64 0, .map none, .map none, .slice none 0 0, .int .i64 0, .int .i64 0, .bool false]
theorem wpList_alloc_disk (hgd : o.guard = none) (ho : o.op = .alloc 49) (hK : ∀ g w', Cs w' g 49 zdisk.toArray → Below w.heap.size w w' → w.heap.size ≤ g → wpList Try.prog ops Q rest (a.put o.dst (.pointer (some ⟨g, 0, none⟩))) w') : wpList Try.prog ops Q (o :: rest) a w :=
  wpList_alloc_agg hgd 49 ho zdisk zero49 (hK _ _ (Cs.new _ _ _) ((Below.refl _ _).alloc (Nat.le_refl _) _) (Nat.le_refl _))
theorem wpList_fill_disk (hgd : o.guard = none) (x y : Operand) (ho : o.op = .store 49 x y) (g : Nat) (hx : a.eval x = .pointer (some ⟨g, 0, none⟩)) (p : DP) (s : DS) (hy : a.eval y = .agg (dcells p s)) (hg : Cs w g 49 zdisk.toArray)
    (hK : ∀ w', Cs w' g 49 (dcells p s) → w.grownBy w' (some g) → wpList Try.prog ops Q rest (a.put o.dst undef) w') : wpList Try.prog ops Q (o :: rest) a w := by
  refine wpList_store_agg hgd 49 x y ho g 0 hx (dcells p s).toList hy 49 zdisk.toArray hg (by simp [dcells, zdisk]) (dcells_one p s) (by kernel_rfl) (hK _ ?_ (grown_row _ _ _))
  have := hg.row (over zdisk.toArray 0 (dcells p s).toList)
  rwa [over_whole _ _ (by simp [dcells, zdisk])] at this ⊢
end
theorem copy_end {w w1 w2 w3 w4 w5 w6 w7 : World} {p : DP} {s : DS} {c g1 g2 cap : Nat} {A : Option Addr} (h : DiskAt w p s) (hcw : w.heap.size ≤ c) (h1 : Cs w1 c 49 (dcells p s)) (b1 : Below w.heap.size w w1)
    (m1 : MapIs w2 g1 s.blocks s.laid) (l1 : w1.heap.size ≤ g1) (b2 : Below w1.heap.size w1 w2) (e3 : w3 = w2.setCell ⟨c, 1, none⟩ (.map (some g1)))
    (m2 : MapIs w4 g2 s.blocks s.young) (l2 : w3.heap.size ≤ g2) (b4 : Below w3.heap.size w3 w4) (e5 : w5 = w4.setCell ⟨c, 2, none⟩ (.map (some g2)))
    (o : w6.ownsRow w5.heap.size 53 65 (.slice A s.q.length cap) s.q.length (qcells s.q)) (b6 : Below w5.heap.size w5 w6) (e7 : w7 = w6.setCell ⟨c, 3, none⟩ (.slice A s.q.length cap)) :
    CopyPost w s (.returned (.pointer (some ⟨c, 0, none⟩))) w7 := by
  have s3 : w3.heap.size = w2.heap.size := by rw [e3]; simp [World.setCell]
  have s5 : w5.heap.size = w4.heap.size := by rw [e5]; simp [World.setCell]
  have hc := h1.lt
  have z2 := b2.size
  have z4 := b4.size
  have z6 := b6.size
  have t3 : Turn w2 w3 (· = c) := by rw [e3]; exact turn_set _ _ _ _
  have t5 : Turn w4 w5 (· = c) := by rw [e5]; exact turn_set _ _ _ _
  have t7 : Turn w6 w7 (· = c) := by rw [e7]; exact turn_set _ _ _ _
  have hw1 := b1.size
  have c2 := h1.below b2 hc
  have c3 : Cs w3 c 49 ((dcells p s).setIfInBounds 1 (.map (some g1))) := by rw [e3]; exact c2.set 1 _
  have c5 : Cs w5 c 49 (((dcells p s).setIfInBounds 1 (.map (some g1))).setIfInBounds 2 (.map (some g2))) := by rw [e5]; exact (c3.below b4 c3.lt).set 2 _
  have c7 : Cs w7 c 49 ((((dcells p s).setIfInBounds 1 (.map (some g1))).setIfInBounds 2 (.map (some g2))).setIfInBounds 3 (.slice A s.q.length cap)) := by rw [e7]; exact (c5.below b6 c5.lt).set 3 _
  have m3 := m1.turn t3 (fun e => by omega)
  have m4 := m3.turn (Turn.of_below b4 fun _ => False) (fun h => h)
  have m5 := m4.turn t5 (fun e => by omega)
  have m6 := m5.turn (Turn.of_below b6 fun _ => False) (fun h => h)
  have m7 := m6.turn t7 (fun e => by omega)
  have n5 := m2.turn t5 (fun e => by omega)
  have n6 := n5.turn (Turn.of_below b6 fun _ => False) (fun h => h)
  have n7 := n6.turn t7 (fun e => by omega)
  have ob : ∀ k, (Value.slice A s.q.length cap).ownBlock = some k → w5.heap.size ≤ k := by
    intro k hk
    rcases o.2 with ⟨hv, _⟩ | ⟨g', cap', cur, hv, hg, _⟩
    · rw [hv] at hk; cases hk
    · rw [hv] at hk; cases hk; exact hg
  have o7 : w7.ownsRow 0 53 65 (.slice A s.q.length cap) s.q.length (qcells s.q) := by
    have := ownsRow_turn o t7 (fun k hk e => by have := ob k hk; omega)
    refine ⟨this.1, this.2.imp id fun ⟨g', cap', cur, a, b, c⟩ => ⟨g', cap', cur, a, Nat.zero_le _, c⟩⟩
  have hg1 := m1.lt
  have bb : Below w.heap.size w w7 := by
    have a2 := b1.trans (b2.mono (by omega))
    have a3 : Below w.heap.size w w3 := by rw [e3]; exact a2.setCell hcw _
    have a4 := a3.trans (b4.mono (by omega))
    have a5 : Below w.heap.size w w5 := by rw [e5]; exact a4.setCell hcw _
    have a6 := a5.trans (b6.mono (by omega))
    rw [e7]
    exact a6.setCell hcw _
  refine ⟨⟨c, g1, g2, A, cap⟩, rfl, ⟨?_, m7, n7, by show g1 ≠ g2; omega, o7, h.lo, h.hi, h.wfq, h.stp, h.lft⟩, ?_, bb⟩
  · rw [show dcells ⟨c, g1, g2, A, cap⟩ s = (((dcells p s).setIfInBounds 1 (.map (some g1))).setIfInBounds 2 (.map (some g2))).setIfInBounds 3 (.slice A s.q.length cap) from by simp [dcells]]
    exact c7
  · rintro k (hk | hk | hk | hk)
    · rw [hk]; exact hcw
    · rw [hk]; show w.heap.size ≤ g1; omega
    · rw [hk]; show w.heap.size ≤ g2; omega
    · have := ob k (by rw [ownBlock_slice A s.q.length cap 0 0]; exact hk)
      omega
set_option maxHeartbeats 2000000 in
theorem Copy_disk {w : World} {p : DP} {s : DS} (h : DiskAt w p s) (hq : s.q.length < 1099511627776) : Calls Try.prog 15 #[.pointer (some ⟨p.db, 0, none⟩)] w fun e w' => CopyPost w s e w' := by
  have cn := isNone_disk h
  have H := Lib.hid h
  have HQ := Lib.hid hq
  have hat := Lib.hid (At.whole (cs := (dcells p s).toList) (by rw [Array.toArray_toList]; exact h.cells))
  have h64 := Lib.hid (fun x hx => (h.wfq x hx).2.2)
  clear h hq
  go_enter Try.func15, Try.ntmps15
  go_wp2_with fail
  refine cn.mono ?_
  clear cn
  rintro e _ ⟨rfl, rfl⟩
  go_wp2_with (first
    | (refine wpList_load_agg rfl 49 (.tmp 7) rfl p.db 0 rfl (dcells p s).toList hat.out _ Try.underlying49 rfl (by kernel_rfl) ?_; go_frame)
    | (refine wpList_alloc_disk rfl rfl ?_; intro c w0 hk0 hb0 hg0; go_frame; have K0 := Lib.hid hk0; have B0 := Lib.hid hb0; have G0 := Lib.hid hg0; clear hk0 hb0 hg0)
    | (refine wpList_fill_disk rfl (.tmp 3) (.tmp 8) rfl c rfl p s rfl K0.out ?_; intro w1 hk1 hr1; go_frame; have K1 := Lib.hid hk1; have B1 := Lib.hid (keep_own B0.out hr1 G0.out); clear hk1 hr1; have H1 := Lib.hid (H.out.below B1.out); have c1 := H1.out.at.2.1))
  refine (mapsClone_any H1.out.laid).mono ?_
  rintro e w2 ⟨g1, rfl, hm1, hl1, hb2⟩
  have M1 := Lib.hid hm1
  have L1 := Lib.hid hl1
  have B2 := Lib.hid hb2
  clear hm1 hl1 hb2
  have K2 := Lib.hid (K1.out.below B2.out K1.out.lt)
  have q1 : w2.cell? ⟨c, 1, none⟩ = some (.map (some p.lb)) := K2.out.cell 1 rfl
  have f1 := K2.out.frozen 1
  have BB2 := Lib.hid (below_chain B1.out B2.out)
  have H3 := Lib.hid (H.out.below (BB2.out.setCell (p := ⟨c, 1, none⟩) G0.out (.map (some g1))))
  have c2 := H3.out.at.2.2.1
  go_wp2_with fail
  refine (mapsClone_any H3.out.young).mono ?_
  rintro e w4 ⟨g2, rfl, hm2, hl2, hb4⟩
  have M2 := Lib.hid hm2
  have L2 := Lib.hid hl2
  have B4 := Lib.hid hb4
  clear hm2 hl2 hb4 c2
  have K4 := Lib.hid ((K2.out.set 1 (.map (some g1))).below B4.out (K2.out.set 1 (.map (some g1))).lt)
  have q2 : w4.cell? ⟨c, 2, none⟩ = some (.map (some p.yb)) := K4.out.cell 2 rfl
  have f2 := K4.out.frozen 2
  have BB4 := Lib.hid (below_chain (BB2.out.setCell (p := ⟨c, 1, none⟩) G0.out (.map (some g1))) B4.out)
  have H5 := Lib.hid (H.out.below (BB4.out.setCell (p := ⟨c, 2, none⟩) G0.out (.map (some g2))))
  have c3 := H5.out.at.2.2.2.1
  go_wp2_with fail
  refine (slicesClone_any H5.out.q HQ.out h64.out).mono ?_
  rintro e w6 ⟨A, cap, rfl, ho, hb6⟩
  have O := Lib.hid ho
  have B6 := Lib.hid hb6
  clear ho hb6 c3
  have K6 := Lib.hid ((K4.out.set 2 (.map (some g2))).below B6.out (K4.out.set 2 (.map (some g2))).lt)
  have q3 : w6.cell? ⟨c, 3, none⟩ = some (.slice p.A s.q.length p.cap) := K6.out.cell 3 rfl
  have f3 := K6.out.frozen 3
  go_wp2_with fail
  go_ret
  exact copy_end H.out G0.out K1.out B1.out M1.out L1.out B2.out rfl M2.out L2.out B4.out rfl O.out B6.out rfl

end Go.Proofs.Ytnhbhfnpcbmjkaa
