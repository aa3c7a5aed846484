/- SWEPT -/
import Derived.Test.YtfgbpinfplllgaaGreatDoorZJourBK
import Derived.Test.YtfgbpinfplllgaaGreatDoorZStVals
set_option linter.unusedVariables false
set_option linter.unusedSimpArgs false
open Go.Lib (hid)
namespace Go.Proofs.YtfgbpinfplllgaaGreatDoor
open Go.RowKit Go.Shelf Go.Maps Go.Sort
set_option maxRecDepth 100000
attribute [local go_sem] Oper.semAt_some
theorem cells3_len (ps : List Raw) : (ps.flatMap cells3).length = ps.length * 3 := by
  induction ps with
  | nil => rfl
  | cons p ps ih => simp [List.flatMap_cons, cells3, ih]; omega
theorem stInfoCh : (Tryz.prog.info? 73).map (fun i => (i.zero, i.size, i.bytes)) = some (some (.agg #[.string ⟨#[]⟩, .slice none 0 0, .bool false]), 3, 48) := by kernel_rfl
def CI (B g2 : Nat) (w : World) (pre : List Raw) (W : World) : Prop := ∃ v, Cs W g2 43 #[v] ∧ W.ownsRow B 73 3 v pre.length (pre.flatMap cells3) ∧ Below w.heap.size w W
theorem CI.own {B B' g2 : Nat} {w : World} (hB : w.heap.size ≤ B') : OwnFrom B' (CI B g2 w) := by
  rintro s W W' row ⟨v, h1, h2, h3⟩ hg hr
  exact ⟨v, cs_grown hg hr h1, own_grown hg hr h2, below_grownRow h3 hg hr hB h3.size⟩
theorem CI.below {B g2 : Nat} {w W W' : World} {pre : List Raw} (h : CI B g2 w pre W) (hb : Below W.heap.size W W') : CI B g2 w pre W' := by
  obtain ⟨v, h1, h2, h3⟩ := h
  exact ⟨v, h1.below hb h1.lt, own_below h2 hb, below_chain h3 hb⟩
theorem keepsWalks_below {W W' : World} (hb : Below W.heap.size W W') : KeepsWalks W W' := ⟨hb.size, fun k o hk _ => (hb.block k (Array.getElem?_eq_some_iff.1 hk).1).trans hk⟩
theorem Turn.kw {W W' : World} {G : Nat → Prop} (h : Turn W W' G) (hG : ∀ k, G k → ∃ t cs, Cs W k t cs) : KeepsWalks W W' :=
  ⟨h.size, fun k o hk hc => (h.block k (Array.getElem?_eq_some_iff.1 hk).1 fun g => by
    obtain ⟨t, cs, hh⟩ := hG k g
    unfold Cs at hh
    rw [hk] at hh
    cases hh
    cases hc).trans hk⟩
def CollRet (D0 : DataW Value) (w : World) (e : Ending) (w' : World) : Prop := ∃ v ps, e = .returned v ∧ AllOf3 D0 ps ∧ w'.ownsRow w.heap.size 73 3 v ps.length (ps.flatMap cells3) ∧ Below w.heap.size w w'
set_option maxRecDepth 100000 in
set_option maxHeartbeats 8000000 in
theorem appendSeq3_in (Bm b nn : Nat) (D0 : DataW Value) (hki : KeyIn D0) (hsz : Maps.size D0 ≤ 1000000) (w : World) (hm : w.cell? ⟨Bm, 0, none⟩ = some (.map (some b))) (hown : w.ownsMap Tryz.prog 9 chgElem b nn D0) :
    CallsIn Fence.wide 5 Tryz.prog 182 #[.slice none 0 0, .func (.func 158) #[] #[.pointer (some ⟨Bm, 0, none⟩)]] w fun e w' => CollRet D0 w e w' := by
  refine callsIn_of_wp_marks Tryz.func182 rfl trivial ?_ rfl
  simp only [Tryz.ntmps182, List.size_toArray, List.length_cons, List.length_nil, Nat.reduceAdd, Nat.reduceSub, Array.replicate_succ, Array.replicate_zero, List.push_toArray, List.append_toArray, List.nil_append, List.cons_append]
  gi_wp2
  have C2 := Cs.new w 43 #[.slice none 0 0]
  have b1 := (Below.refl w.heap.size w).alloc (Nat.le_refl _) (.cells #[.slice none 0 0] 43)
  have s1 : (w.alloc (.cells #[.slice none 0 0] 43)).heap.size = w.heap.size + 1 := by simp
  have hlt : Bm < w.heap.size := by
    rcases Nat.lt_or_ge Bm w.heap.size with h1 | h1
    · exact h1
    · simp [World.cell?, Array.getElem?_eq_none h1] at hm
  have hm1 := (b1.cell (p := ⟨Bm, 0, none⟩) hlt).trans hm
  have hown1 : (w.alloc (.cells #[.slice none 0 0] 43)).ownsMap Tryz.prog 9 chgElem b nn D0 := by
    have hbl := hown.lt
    obtain ⟨es, clock, hb, Ft, hs, hD⟩ := hown
    exact ⟨es, clock, (b1.block b hbl).trans hb, Ft, hs, hD⟩
  generalize w.alloc (.cells #[.slice none 0 0] 43) = WL at *
  have hI0 : CI w.heap.size w.heap.size w [] WL := ⟨_, C2, World.ownsRow_nil _ _ _ _, b1⟩
  have BL := hid b1
  have hz : w.heap.size < WL.heap.size := by rw [s1]; omega
  have HZ := hid hz
  have HS := hid hsz
  clear b1 C2 hm hown hsz
  generalize hg2 : w.heap.size = g2 at hI0 hz ⊢
  refine wpIn_rangeItem (Fx := fun _ _ => True) rfl (by omega) (gf := 158) (lb := #[.pointer (some ⟨Bm, 0, none⟩)]) rfl trivial (enters_of Tryz.func158 (by kernel_rfl) rfl)
    (values_item (5 - 1) (by omega) Bm b nn D0 hki WL hm1 hown1) KeepsWalks.trans (fun W q o o' _ h _ hc' => KeepsWalks.putObj _ h hc') (fun _ => rfl)
    (CI g2 g2 w) (fun _ _ _ => False) (CI.own BL.out.size) (fun _ _ _ _ _ hs _ _ => hs) hI0
    (fun x a' W => ∃ g5, a' = ⟨#[.slice none 0 0, .func (.func 158) #[] #[.pointer (some ⟨Bm, 0, none⟩)], .pointer (some ⟨g2, 0, none⟩), undef, .slice none 0 0, .pointer (some ⟨g5, 0, none⟩), .func (.func 158) #[] #[.pointer (some ⟨Bm, 0, none⟩)], enc3 x, undef, undef, undef, undef, undef], []⟩ ∧ Cs W g5 73 (cells3 x).toArray) (fun x a' _ W W' row ⟨g5, he, hv⟩ hg hr => ⟨g5, he, cs_grown hg hr hv⟩) ?assign ?body ?done ?stop
  case assign =>
    intro q pre x W K hi _ hlen hK
    obtain ⟨k3, A3, n3, c3, g3⟩ := x
    have HK := hid hK
    have HI := hid hi
    clear hK hi
    simp only [enc3, sv]
    gi_wp2
    have k1 := Cs.new W 73 #[.string ⟨k3.toArray⟩, .slice A3 n3 c3, .bool g3]
    have bb := (Below.refl W.heap.size W).alloc (Nat.le_refl _) (.cells #[.string ⟨k3.toArray⟩, .slice A3 n3 c3, .bool g3] 73)
    exact HK.out _ _ (keepsFrom_below bb) (keepsWalks_below bb) (HI.out.below bb) ⟨_, rfl, k1⟩
  case body =>
    rintro q pre x a' W ⟨v, h1, h2, h3⟩ ⟨g5, rfl, hcv⟩ hlen
    obtain ⟨i0, hi, hz0, hz1, hz2⟩ := info_parts stInfoCh
    have c2 := h1.cell 0 rfl
    have H1 := hid h1
    have H2 := hid h2
    have H3 := hid h3
    have HV := hid hcv
    have HL := hid (show pre.length ≤ 1000000 by have := HS.out; omega)
    obtain ⟨k3, A3, n3, c3, g3⟩ := x
    have e0 : W.cell? ⟨g5, 0, none⟩ = some (.string ⟨k3.toArray⟩) := hcv.cell 0 rfl
    have e1 : W.cell? ⟨g5, 0 + 1, none⟩ = some (.slice A3 n3 c3) := hcv.cell 1 rfl
    have e2 : W.cell? ⟨g5, 0 + 2, none⟩ = some (.bool g3) := hcv.cell 2 rfl
    clear h1 h2 h3 hlen hcv
    have kc := hid (Cs.new W 73 #[.string ⟨k3.toArray⟩, .slice A3 n3 c3, .bool g3])
    have bW := hid ((Below.refl W.heap.size W).alloc (Nat.le_refl _) (.cells #[.string ⟨k3.toArray⟩, .slice A3 n3 c3, .bool g3] 73))
    simp only [enc3, sv]
    gi_wp2_with (first
      | (gi_at_builtin; refine wpListIn_append_own _ rfl _ _ 43 rfl g2 73 i0 _ 3 48 Tryz.underlying43 hi hz0 hz1 hz2 rfl (by decide) v pre.length (pre.flatMap cells3) rfl (own_below H2.out bW.out) ⟨W.heap.size, 0, none⟩ 1 1 [.string ⟨k3.toArray⟩, .slice A3 n3 c3, .bool g3] rfl rfl
          (fun j u hu => by
            match j with
            | 0 => cases hu; exact kc.out.cell 0 rfl
            | 1 => cases hu; exact kc.out.cell 1 rfl
            | 2 => cases hu; exact kc.out.cell 2 rfl
            | j + 3 => simp at hu) (by intro u hu; simp at hu; rcases hu with rfl | rfl | rfl <;> rfl) (by simp only [maxLen]; have := HL.out; omega) (by have := HL.out; omega) (by have := H3.out.size; simp; omega) ?_; intro v' W' hown hg _; obtain ⟨g', cap', rfl⟩ := ownsRow_succ hown; have HO := hid hown; have HG := hid hg; have k7 := (H1.out.below bW.out H1.out.lt).own hg (own_below H2.out bW.out) (by decide); have c7' := k7.cell 0 rfl; have f7' := k7.frozen 0; have K7 := hid k7; clear hown hg k7)
      | gi_in)
    have hG : ∀ k, (v.ownBlock = some k ∨ k = g2) → g2 ≤ k ∧ ∃ t cs, Cs W k t cs ∧ (t = 73 ∨ t = 43) := by
      rintro k (e1 | rfl)
      · obtain ⟨a1, cs, a2⟩ := own_blk H2.out e1
        exact ⟨a1, _, cs, a2, .inl rfl⟩
      · exact ⟨Nat.le_refl _, _, _, H1.out, .inr rfl⟩
    have ht : Turn W (W'.setCell ⟨g2, 0, none⟩ (.slice (some ⟨g', 0, none⟩) (pre.length + 1) cap')) (fun k => v.ownBlock = some k ∨ k = g2) :=
      ((Turn.of_below bW.out _).trans ((Turn.of_grown HG.out).mono (G := fun k => v.ownBlock = some k ∨ k = g2) fun _ _ h => .inl h) fun _ _ h => h).trans ((Turn.set1 W' g2 _).mono (G := fun k => v.ownBlock = some k ∨ k = g2) fun _ _ h => .inr h) fun _ _ h => h
    have K8 := K7.out.set 0 (.slice (some ⟨g', 0, none⟩) (pre.length + 1) cap')
    have hset : (#[v] : Array Value).setIfInBounds 0 (.slice (some ⟨g', 0, none⟩) (pre.length + 1) cap') = #[.slice (some ⟨g', 0, none⟩) (pre.length + 1) cap'] := rfl
    rw [hset] at K8
    have hown := ownsRow_setCell_other HO.out (a := ⟨g2, 0, none⟩) (fun e1 => by
      obtain ⟨_, cs, h1⟩ := own_blk HO.out e1
      exact Cs.ne K7.out h1 (by decide) rfl) (.slice (some ⟨g', 0, none⟩) (pre.length + 1) cap')
    generalize W'.setCell ⟨g2, 0, none⟩ (.slice (some ⟨g', 0, none⟩) (pre.length + 1) cap') = W2 at *
    refine ⟨ht.kf fun k h => by obtain ⟨_, t, cs, h1, _⟩ := hG k h; exact ⟨t, cs, h1⟩, ht.kw fun k h => by obtain ⟨_, t, cs, h1, _⟩ := hG k h; exact ⟨t, cs, h1⟩,
      ⟨.slice (some ⟨g', 0, none⟩) (pre.length + 1) cap', K8, by rw [List.length_append, List.flatMap_append]; exact hown, H3.out.trans (ht.below H3.out.size fun k h => by have := (hG k h).1; omega)⟩⟩
  case done =>
    rintro D xs W hD hxs ⟨v, h1, h2, h3⟩ hK
    have c2 := h1.cell 0 rfl
    have HX := hid hxs
    have H2 := hid h2
    have H3 := hid h3
    clear hxs h1 h2 h3
    gi_wp2
    refine ⟨by simp, .inl ⟨_, _, rfl, run_takeDeferred hK, ?_⟩⟩
    have hgr := grownBy_putObj' W D (.deferred none)
    have hr : ∀ r, some D = some r → WL.heap.size ≤ r ∧ ∃ o : Obj, W.heap[r]? = some o ∧ o.isCells = false := fun r e => by cases e; exact ⟨hD, _, hK, rfl⟩
    have hw2 := own_grown hgr hr H2.out
    have hb2 := below_grownRow H3.out hgr hr BL.out.size H3.out.size
    subst hg2
    exact ⟨_, results_tmp rfl _ _ _, v, xs, rfl, HX.out, hw2, hb2⟩
  case stop =>
    intro D c pre W _ _ h
    exact h.elim
theorem collect3_v (Bm b nn : Nat) (D0 : DataW Value) (hki : KeyIn D0) (hsz : Maps.size D0 ≤ 1000000) (w : World) (hm : w.cell? ⟨Bm, 0, none⟩ = some (.map (some b))) (hown : w.ownsMap Tryz.prog 9 chgElem b nn D0) :
    Calls Tryz.prog 156 #[.func (.func 158) #[] #[.pointer (some ⟨Bm, 0, none⟩)]] w fun e w' => CollRet D0 w e w' := by
  have ha := callsIn_wide.1 (appendSeq3_in Bm b nn D0 hki hsz w hm hown)
  clear hm hown hki
  go_enter Tryz.func156, Tryz.ntmps156
  go_wp2_with fail
  refine ha.mono ?_
  rintro e w1 ⟨v, ps, rfl, h1, h2, h3⟩
  go_wp2_with fail
  go_ret
  exact ⟨v, ps, rfl, h1, h2, h3⟩
end Go.Proofs.YtfgbpinfplllgaaGreatDoor
