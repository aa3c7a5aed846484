/- The program: gather. -/
import Derived.Test.YthjcnijageiaiaaSpZ6
namespace Go.Proofs.Ythjcnijageiaiaa
open Go.RowKit Go.Shelf Go.Lib Go.ChangeShapes Go.WideShapes Go.ChangeAt
set_option linter.unusedVariables false
set_option maxRecDepth 100000
set_option linter.unusedSimpArgs false

attribute [local go_sem] Oper.semAt_some

theorem own_any {w : World} {B : Nat} {F G : Nat → Prop} {v : Value} {l : List Sp} (h : OwnX spE w B F v l) (hG : ∀ k, v.ownBlock = some k → G k) : OwnX spE w B G v l := by
  obtain ⟨⟨xs, h1, h2⟩, h3⟩ := h
  exact ⟨⟨xs, h1, h2.1, h2.2⟩, hG⟩
/-- a list of one's own, alone -/
def OwnS (W : World) (B : Nat) (v : Value) (q : List Sp) : Prop := OwnX spE W B (fun k => v.ownBlock = some k) v q
theorem OwnS.blk {W : World} {B : Nat} {v : Value} {q : List Sp} (h : OwnS W B v q) {k : Nat} (hk : v.ownBlock = some k) : B ≤ k ∧ ∃ cs, Cs W k 25 cs := by
  obtain ⟨⟨xs, h1, h2⟩, h3⟩ := h
  exact own_blk h1 hk
theorem OwnS.turn {W W' : World} {B : Nat} {v : Value} {q : List Sp} {G : Nat → Prop} (h : OwnS W B v q) (ht : Turn W W' G) (hG : ∀ k, v.ownBlock = some k → ¬ G k) : OwnS W' B v q := OwnX.turn h ht hG
theorem OwnS.below {W W' : World} {B : Nat} {v : Value} {q : List Sp} (h : OwnS W B v q) (hb : Below W.heap.size W W') : OwnS W' B v q := OwnX.below h hb
/-- what stands between two rounds: the box of the list, and the list -/
def GatI (w : World) (pre : List S32) (W : World) : Prop := (∃ v, Cs W w.heap.size 22 #[v] ∧ OwnS W (w.heap.size + 1) v (gatherP (vals pre))) ∧ Below w.heap.size w W
theorem gatI_own (w : World) : OwnFrom (w.heap.size + 1) (GatI w) := by
  refine OwnFrom.and (fun s X Y row h hg hr => ?_) (ownFrom_below (Nat.le_refl _) (Nat.le_succ _))
  obtain ⟨v, h1, h2⟩ := h
  refine ⟨v, (grownBy_keeps_cells hg (fun r e => (hr r e).2) h1 rfl).trans h1, h2.turn (Turn.of_grown hg) fun k hk e => ?_⟩
  obtain ⟨_, cs, hc⟩ := h2.blk hk
  obtain ⟨_, o, ho, hn⟩ := hr k e
  rw [show X.heap[k]? = _ from hc] at ho
  cases ho
  cases hn
/-- what a round keeps -/
def FrG (B : Nat) (X Y : World) : Prop := KeepsFrom (B + 1) X Y ∧ Below B X Y
theorem FrG.refl (B : Nat) (X : World) : FrG B X X := ⟨KeepsFrom.refl _ _, Below.refl _ _⟩
theorem FrG.trans {B : Nat} {X Y Z : World} (h : FrG B X Y) (k : FrG B Y Z) : FrG B X Z := ⟨h.1.trans k.1, h.2.trans k.2⟩
theorem FrG.below {B : Nat} {X Y : World} (h : Below X.heap.size X Y) (hB : B ≤ X.heap.size) : FrG B X Y :=
  ⟨⟨h.size, fun k o _ hk _ => (h.block k (Array.getElem?_eq_some_iff.1 hk).1).trans hk⟩, h.mono hB⟩
theorem FrG.turn {B g : Nat} {X Y : World} {t : TypeId} {cs : Array Value} (h : Turn X Y (· = g)) (hc : Cs X g t cs) (hB : B ≤ g) : FrG B X Y :=
  ⟨⟨h.size, fun k o _ hk ho => (h.block k (Array.getElem?_eq_some_iff.1 hk).1 fun e => by
    subst e
    rw [show X.heap[k]? = _ from hc] at hk
    cases hk
    cases ho).trans hk⟩, h.below (Nat.le_trans hB (Nat.le_of_lt hc.lt)) fun k e => by omega⟩
theorem FrG.grown {B : Nat} {X Y : World} {v : Value} {q : List Sp} (hg : X.grownBy Y v.ownBlock) (h : OwnS X (B + 1) v q) (hB : B ≤ X.heap.size) : FrG B X Y :=
  ⟨KeepsOthers.from (KeepsOthers.of_grownBy hg fun j o e ho => by
    obtain ⟨_, cs, hc⟩ := h.blk e
    rw [show X.heap[j]? = _ from hc] at ho
    cases ho
    rfl) _, (Below.refl B X).grown hg hB fun k e => by have := (h.blk e).1; omega⟩
/-- the last one's end, anew -/
theorem OwnS.last {W : World} {B : Nat} {v : Value} {q : List Sp} {t : Sp} (h : OwnS W B v (q ++ [t])) : ∃ g c cur, v = .slice (some ⟨g, 0, none⟩) (q.length + 1) c ∧ W.cell? ⟨g, q.length * 2 + 1, none⟩ = some (.int .u32 (t.2 : Int)) ∧ Cs W g 25 cur ∧ q.length * 2 + 1 < cur.size ∧ B ≤ g ∧
    ∀ (z : Nat) (W' : World), z < 4294967296 → Cs W' g 25 (cur.setIfInBounds (q.length * 2 + 1) (.int .u32 (z : Int))) → OwnS W' B v (q ++ [(t.1, z)]) := by
  obtain ⟨⟨xs, h1, h2⟩, h3⟩ := h
  have hl : (q ++ [t]).length = q.length + 1 := by simp
  rw [hl] at h1
  rcases id h1.2 with ⟨_, h0⟩ | ⟨g, cap, cur, hv, hbs, hg, hn, hc, hsz, ht⟩
  · omega
  · subst hv
    refine ⟨g, cap, cur, rfl, ?_, hg, by rw [hsz]; show q.length * 2 + 1 < cap * 2; omega, hbs, fun z W' hz hc' => ?_⟩
    · have h4 := h2.2 q.length (by simp)
      rw [show spE.n = 2 from rfl, List.getElem_append_right (Nat.le_refl _)] at h4
      simp only [Nat.sub_self, List.getElem_cons_zero] at h4
      have h5 : xs[q.length * 2 + 1]? = some (.int .u32 (t.2 : Int)) := by
        have h6 := congrArg (fun l : List Value => l[1]?) h4.1
        simp only [List.getElem?_take_of_lt (show 1 < 2 by decide), List.getElem?_drop] at h6
        simpa using h6
      have := h1.cells (g := g) rfl _ _ h5
      rw [addr_add, Nat.zero_add] at this
      exact this
    · have hl2 : (q ++ [(t.1, z)]).length = q.length + 1 := by simp
      refine ⟨⟨xs.set (q.length * 2 + 1) (.int .u32 (z : Int)), ?_, ?_⟩, fun k hk => hk⟩
      · rw [hl2]
        refine ⟨by rw [List.length_set]; exact h1.1, .inr ⟨g, cap, _, rfl, hbs, hc', hn, hc, by simpa using hsz, ?_⟩⟩
        rw [Array.toList_setIfInBounds, ← ht, List.take_set]
      · exact row_last (x := t.1) (y := t.2) h2 hz
theorem wp_buildSp {w : World} {o : Oper} {a : Act} {K : Act → World → Prop} {Q : Exit → Act → World → Prop} (x : Operand) (ho : o.op = .buildSlice 22 1 #[(0, x)]) (s : Sp) (hx : a.eval x = .agg (spC s).toArray)
    (hK : ∀ g w', Cs w' g 25 (spC s).toArray → Below w.heap.size w w' → w.heap.size ≤ g → K (a.put o.dst (.slice (some ⟨g, 0, none⟩) 1 1)) w') : o.wp Try.prog a w K Q := by
  refine wp_of_run2 (v := .slice (some ⟨w.heap.size, 0, none⟩) 1 1) (w' := w.alloc (.cells (spC s).toArray 25)) ?_ (hK _ _ (Cs.new _ _ _) ((Below.refl _ _).alloc (Nat.le_refl _) _) (Nat.le_refl _))
  unfold execOp
  simp only [ho, hx, List.map_toArray, List.map_cons, List.map_nil, spC]
  go_simp
/-- the frame of a round: the loop's variable lies in block g -/
def gatA (w : World) (f : Value) (x : S32) (g : Nat) : Act := { tmps := #[f, undef, .slice none 0 0, .pointer (some ⟨w.heap.size, 0, none⟩), .pointer (some ⟨g, 0, none⟩), undef, f, .agg (spC x.1).toArray, undef, undef, undef, undef, undef, undef, undef, undef, undef, undef, undef, undef, undef, undef, undef, undef, undef, undef, undef, undef, undef, undef, undef, undef, undef, undef, undef, undef, undef, undef, undef, undef, undef], defers := [] }
def GatA (w : World) (f : Value) (x : S32) (a' : Act) (W : World) : Prop := ∃ g, w.heap.size + 1 ≤ g ∧ Cs W g 25 (spC x.1).toArray ∧ a' = gatA w f x g
theorem gatA_own (w : World) (f : Value) (x : S32) (a' : Act) (B : Nat) : OwnFrom B (fun (_ : Unit) W => GatA w f x a' W) := by
  intro s X Y row h hg hr
  obtain ⟨g, h1, h2, h3⟩ := h
  exact ⟨g, h1, (grownBy_keeps_cells hg (fun r e => (hr r e).2) h2 rfl).trans h2, h3⟩
theorem GatI.next {w W : World} {pre : List S32} {x : S32} {v : Value} {q : List Sp} (hv : Cs W w.heap.size 22 #[v]) (hq : OwnS W (w.heap.size + 1) v q) (hb : Below w.heap.size w W) (e : stepG (gatherP (vals pre)) x.1 = q) : GatI w (pre ++ [x]) W := by
  refine ⟨⟨v, hv, ?_⟩, hb⟩
  rw [vals_snoc, gatherP_snoc, e]
  exact hq
theorem fold_one (t : Array Value) (p : Nat) (v : Value) : (#[p].zip #[v]).foldl (fun t (p, v) => t.setIfInBounds p v) t = t.setIfInBounds p v := by simp
theorem ownS_drewN {W : World} {B : Nat} {v : Value} {q : List Sp} (h : OwnS W B v q) (n : Nat) : OwnS (W.drewN n) B v q := h.below (below_drewN (Below.refl _ W) n)
set_option maxHeartbeats 16000000 in
theorem gather_in (w : World) (gf : Nat) (lb : Array Value) (eg : ∀ args w, (callFunc gf args).run Try.prog w = .ok (.enter gf args) w) (ps : List Sp) (N : Nat) (hN : N ≤ 100000000)
    (hseq : SeqStopsK Fence.wide 4 Try.prog gf lb encS (Below w.heap.size) (fun ys => vals ys = ps) (fun _ => True) N w) :
    CallsIn Fence.wide 5 Try.prog 31 #[.func (.func gf) #[] lb] w fun e w' => GivesX spE (gatherP ps) w e w' := by
  refine callsIn_of_wp_marks Try.func31 rfl trivial ?_ rfl
  simp only [Try.ntmps31, List.size_toArray, List.length_cons, List.length_nil, Nat.reduceAdd, Nat.reduceSub, Array.replicate_succ, Array.replicate_zero, List.push_toArray, List.append_toArray, List.nil_append, List.cons_append]
  gi_wp2
  have hI0 : GatI w [] (w.alloc (.cells #[.slice none 0 0] 22)) := ⟨⟨_, Cs.new _ _ _, own_any (OwnX.nil _ _ (fun _ => True)) fun _ h => h⟩, (Below.refl _ _).alloc (Nat.le_refl _) _⟩
  have hsz : (w.alloc (.cells #[.slice none 0 0] 22)).heap.size = w.heap.size + 1 := by simp
  have hb1 : Below w.heap.size w (w.alloc (.cells #[.slice none 0 0] 22)) := (Below.refl _ _).alloc (Nat.le_refl _) _
  generalize w.alloc (.cells #[.slice none 0 0] 22) = w1 at *
  refine wpIn_rangeFunc_ownH rfl (by omega) (gf := gf) (lb := lb) rfl trivial eg hseq Below.trans (belowK_b (by omega)) hb1 (fun _ => rfl) (GatI w) (fun _ _ _ => False) (by rw [hsz]; exact gatI_own w) (fun _ _ _ _ _ h _ _ => h) hI0 (GatA w (.func (.func gf) #[] lb)) (fun x a' => gatA_own w _ x a' _) ?assign ?body ?done ?stop
  case assign =>
    rintro l pre ⟨⟨x1, x2⟩, hx⟩ W K hI hK
    have HK := Lib.hid hK
    have HI := Lib.hid hI
    have HW := Lib.hid (show w.heap.size + 1 ≤ W.heap.size from by have := hI.2.size; obtain ⟨⟨v, h, -⟩, -⟩ := hI; have := h.lt; omega)
    clear hK hI hI0 hseq
    rw [show encS ⟨(x1, x2), hx⟩ = #[.agg (spC (x1, x2)).toArray] from rfl, fold_one]
    simp only [List.setIfInBounds_toArray, List.set_cons_succ, List.set_cons_zero]
    gi_wp2_with (first
      | ((with_reducible show wpListIn _ _ _ _ _ _ _ W); refine wpListIn_of (Open.round l) rfl (by intro c h; cases h) fun K hK => wp_allocS 25 rfl spanZ spanZero (fun gp w2 hk2 hb2 hg2 => hK _ _ ?_); clear hK K; go_frame; have C2 := Lib.hid hk2; have B2 := Lib.hid hb2; have G2 := Lib.hid hg2; clear hk2 hb2 hg2)
      | ((with_reducible show wpListIn _ _ _ _ _ _ _ w2); refine wpListIn_of (Open.round l) rfl (by intro c h; cases h) fun K hK => wp_storeW 25 _ _ rfl gp rfl (spC (x1, x2)) spanZ rfl C2.out rfl (spC_one _) infoSpan (fun w3 hk3 ht3 => hK _ _ ?_); clear hK K; go_frame; have C3 := Lib.hid hk3; have B3 := Lib.hid (below_turn B2.out ht3 B2.out.size G2.out); clear hk3 ht3)
      | fail)
    have FR := FrG.below (B := w.heap.size) B3.out (Nat.le_of_succ_le HW.out)
    obtain ⟨⟨v, h1, h2⟩, h3⟩ := HI.out
    exact HK.out _ _ (by rw [hsz]; exact FR.1) FR.2 ⟨⟨v, h1.below B3.out h1.lt, h2.below B3.out⟩, h3.trans FR.2⟩ ⟨gp, Nat.le_trans HW.out G2.out, C3.out, rfl⟩
  case body =>
    clear hI0 hseq
    rw [hsz]
    rintro l pre ⟨⟨x1, x2⟩, hx⟩ a' W hl - ⟨⟨v, hv, hq⟩, hB⟩ ⟨g, hg, hc, rfl⟩ hlen
    have HB := Lib.hid hB
    have HX := Lib.hid hx
    have HC := Lib.hid (show Cs W g 25 (spC (x1, x2)).toArray from hc)
    have HW := Lib.hid (show w.heap.size + 1 ≤ W.heap.size from by have := hv.lt; omega)
    have hqn : (gatherP (vals pre)).length ≤ 100000000 := by have := gatherP_len (vals pre); rw [vals_len] at this; omega
    have q0 : W.cell? ⟨g, 0, none⟩ = some (.int .u32 (x1 : Int)) := hc.cell 0 rfl
    have q1 : W.cell? ⟨g, 1, none⟩ = some (.int .u32 (x2 : Int)) := hc.cell 1 rfl
    have HE := Lib.hid (show stepG (gatherP (vals pre)) (x1, x2) = stepG (gatherP (vals pre)) (x1, x2) from rfl)
    have HNX := Lib.hid (fun (W' : World) (v : Value) (q : List Sp) (h1 : Cs W' w.heap.size 22 #[v]) (h2 : OwnS W' (w.heap.size + 1) v q) (h3 : Below w.heap.size w W') (e : stepG (gatherP (vals pre)) (x1, x2) = q) => GatI.next (x := ⟨(x1, x2), hx⟩) h1 h2 h3 e)
    generalize gatherP (vals pre) = q at *
    obtain ⟨A, c, rfl, -⟩ := hq.form
    have HV := Lib.hid hv
    have HQ := Lib.hid hq
    have HL := Lib.hid hqn
    have qv : W.cell? ⟨w.heap.size, 0, none⟩ = some (.slice A q.length c) := hv.cell 0 rfl
    have hqi : (q.length : Int) ≤ 100000000 := by omega
    clear hv hq hB hc hlen hqn HE
    unfold gatA
    by_cases h12 : x1 < x2
    · have e1 : ¬ x2 ≤ x1 := by omega
      rcases snoc_cases q with rfl | ⟨u, t, rfl⟩
      · have HE := Lib.hid (show stepG [] (x1, x2) = [] ++ [(x1, x2)] from stepG_nil h12)
        clear h12
        gi_wp2_with fail
        refine regionIn_quiet (Open.round l) (by rfl) (fun ⟨a, w, h⟩ => h) (by kernel_rfl) (by kernel_rfl) ?_
        repeat (go_big_quiet_step (fail))
        refine wpQuiet_nil ?_
        intro _ hw'
        obtain ⟨nq, hw''⟩ := hw'
        subst hw''
        gi_wp2_with (first
          | ((with_reducible show wpListIn _ _ _ _ _ _ _ (W.drewN nq)); refine wpListIn_of (Open.round l) rfl (by intro c h; cases h) fun K hK => wp_load_agg 25 _ rfl g 0 rfl (spC (x1, x2)) (At.whole (cs_drewN HC.out nq)) _ Try.underlying25 rfl infoSpan (hK _ _ ?_); clear hK K; go_frame)
          | ((with_reducible show wpListIn _ _ _ _ _ _ _ (W.drewN nq)); refine wpListIn_of (Open.round l) rfl (by intro c h; cases h) fun K hK => wp_buildSp _ rfl (x1, x2) rfl (fun gb w2 hk2 hb2 hg2 => hK _ _ ?_); clear hK K; go_frame; have K2 := Lib.hid hk2; have B2 := Lib.hid hb2; have O2 := Lib.hid (show OwnS w2 (w.heap.size + 1) _ _ from OwnS.below (W := W.drewN nq) (ownS_drewN HQ.out nq) hb2); have V2 := Lib.hid ((cs_drewN HV.out nq).below hb2 HV.out.lt); clear hk2 hb2 hg2)
          | ((with_reducible show wpListIn _ _ _ _ _ _ _ w2); gi_at_builtin; go_loud (refine wpListIn_of (Open.round l) rfl (by intro c h; cases h) fun K hK => wp_append_x1 (E := spE) _ _ rfl (w.heap.size + 1) (fun _ => True) _ _ rfl (own_any O2.out fun _ _ => trivial) gb 1 rfl (spC (x1, x2)) (x1, x2) ⟨rfl, HX.out⟩ 25 K2.out (by have := HL.out; simp only [List.length_append, List.length_cons, List.length_nil] at *; omega) (Nat.le_trans HW.out B2.out.size) trivial (fun v3 w3 ho3 hg3 => hK _ _ ?_)); clear hK K; obtain ⟨A3, c3, e3, -⟩ := ho3.form; go_loud (rw [show ([] ++ [(x1, x2)] : List Sp).length = 1 by simp only [List.length_append, List.length_cons, List.length_nil]] at e3); subst e3; go_frame; have O3 := Lib.hid (show OwnS w3 (w.heap.size + 1) _ _ from own_any ho3 fun _ h => h); have F3 := Lib.hid (FrG.grown hg3 O2.out (Nat.le_trans (Nat.le_of_succ_le HW.out) B2.out.size)); have V3 := Lib.hid (V2.out.turn (Turn.of_grown hg3) fun e => by have := (O2.out.blk e).1; omega); have v3 := V3.out.cell 0 rfl; have f3 := V3.out.frozen 0; clear ho3 hg3)
          | fail)
        have V4 := V3.out.set 0 (.slice A3 (1) c3)
        have F4 : FrG w.heap.size w3 (w3.setCell ⟨w.heap.size, 0, none⟩ (.slice A3 (1) c3)) := ⟨(KeepsOthers.setCell _ _ _).from _, (Below.refl _ _).setCell (p := ⟨w.heap.size, 0, none⟩) (Nat.le_refl _) _⟩
        have O4 := O3.out.turn (Turn.of_grown (grownBy_setCell' w3 w.heap.size (.slice A3 (1) c3))) fun k hk e => by have := (O3.out.blk hk).1; injection e with e; omega
        have FR := (((FrG.below (below_drewN (Below.refl _ W) nq) (Nat.le_of_succ_le HW.out)).trans (FrG.below B2.out (Nat.le_of_succ_le HW.out))).trans F3.out).trans F4
        exact ⟨FR.1, FR.2, HNX.out _ _ _ V4 O4 (HB.out.trans FR.2) HE.out⟩
      · have hlu : (u ++ [t]).length = u.length + 1 := by simp
        obtain ⟨t1, t2⟩ := t
        obtain ⟨g0, c0, cur, ev, hct, hcur, hlt, hB0, hst⟩ := HQ.out.last
        rw [hlu] at HV HQ HL qv hqi ev hst
        cases ev
        dsimp only at hct
        have HCUR := Lib.hid hcur
        have HLT := Lib.hid hlt
        have HST := Lib.hid hst
        have HB0 := Lib.hid hB0
        clear hlu hcur hlt hst
        by_cases ht : t2 = x1
        · have HE := Lib.hid (show stepG (u ++ [(t1, t2)]) (x1, x2) = u ++ [(t1, x2)] from stepG_last h12 ht)
          have e2 : (t2 : Int) = x1 := by omega
          clear h12 ht
          gi_wp2_with fail
          refine regionIn_quiet (Open.round l) (by rfl) (fun ⟨a, w, h⟩ => h) (by kernel_rfl) (by kernel_rfl) ?_
          repeat (go_big_quiet_step (fail))
          refine wpQuiet_nil ?_
          intro _ hw'
          obtain ⟨nq, hw''⟩ := hw'
          subst hw''
          gi_wp2_with (first
            | ((with_reducible show wpListIn _ _ _ _ _ _ _ (W.drewN nq)); refine wpListIn_of (Open.round l) rfl (by intro c h; cases h) fun K hK => wp_store1 23 _ _ rfl g0 (u.length * 2 + 1) rfl (.int .u32 (x2 : Int)) rfl rfl infoU32 25 cur (cs_drewN HCUR.out nq) HLT.out (fun w2 hk2 ht2 => hK _ _ ?_); clear hK K; go_frame; have O2 := Lib.hid (HST.out x2 w2 HX.out.2 hk2); have F2 := Lib.hid (FrG.turn ht2 (cs_drewN HCUR.out nq) (Nat.le_of_succ_le HB0.out)); have V2 := Lib.hid ((cs_drewN HV.out nq).turn ht2 (by have := HB0.out; omega)); clear hk2 ht2)
            | fail)
          have FR := (FrG.below (below_drewN (Below.refl _ W) nq) (Nat.le_of_succ_le HW.out)).trans F2.out
          exact ⟨FR.1, FR.2, HNX.out _ _ _ V2.out O2.out (HB.out.trans FR.2) HE.out⟩
        · have HE := Lib.hid (show stepG (u ++ [(t1, t2)]) (x1, x2) = u ++ [(t1, t2)] ++ [(x1, x2)] from stepG_new h12 ht)
          have e2 : ¬ (t2 : Int) = x1 := by omega
          clear h12 ht
          gi_wp2_with fail
          refine regionIn_quiet (Open.round l) (by rfl) (fun ⟨a, w, h⟩ => h) (by kernel_rfl) (by kernel_rfl) ?_
          repeat (go_big_quiet_step (fail))
          refine wpQuiet_nil ?_
          intro _ hw'
          obtain ⟨nq, hw''⟩ := hw'
          subst hw''
          clear hqi
          gi_wp2_with (first
            | ((with_reducible show wpListIn _ _ _ _ _ _ _ (W.drewN nq)); refine wpListIn_of (Open.round l) rfl (by intro c h; cases h) fun K hK => wp_load_agg 25 _ rfl g 0 rfl (spC (x1, x2)) (At.whole (cs_drewN HC.out nq)) _ Try.underlying25 rfl infoSpan (hK _ _ ?_); clear hK K; go_frame)
            | ((with_reducible show wpListIn _ _ _ _ _ _ _ (W.drewN nq)); refine wpListIn_of (Open.round l) rfl (by intro c h; cases h) fun K hK => wp_buildSp _ rfl (x1, x2) rfl (fun gb w2 hk2 hb2 hg2 => hK _ _ ?_); clear hK K; go_frame; have K2 := Lib.hid hk2; have B2 := Lib.hid hb2; have O2 := Lib.hid (show OwnS w2 (w.heap.size + 1) _ _ from OwnS.below (W := W.drewN nq) (ownS_drewN HQ.out nq) hb2); have V2 := Lib.hid ((cs_drewN HV.out nq).below hb2 HV.out.lt); clear hk2 hb2 hg2)
            | ((with_reducible show wpListIn _ _ _ _ _ _ _ w2); gi_at_builtin; go_loud (refine wpListIn_of (Open.round l) rfl (by intro c h; cases h) fun K hK => wp_append_x1 (E := spE) _ _ rfl (w.heap.size + 1) (fun _ => True) _ _ rfl (own_any O2.out fun _ _ => trivial) gb 1 rfl (spC (x1, x2)) (x1, x2) ⟨rfl, HX.out⟩ 25 K2.out (by have := HL.out; simp only [List.length_append, List.length_cons, List.length_nil] at *; omega) (Nat.le_trans HW.out B2.out.size) trivial (fun v3 w3 ho3 hg3 => hK _ _ ?_)); clear hK K; obtain ⟨A3, c3, e3, -⟩ := ho3.form; go_loud (rw [show (u ++ [(t1, t2)] ++ [(x1, x2)] : List Sp).length = u.length + 1 + 1 by simp only [List.length_append, List.length_cons, List.length_nil]] at e3); subst e3; go_frame; have O3 := Lib.hid (show OwnS w3 (w.heap.size + 1) _ _ from own_any ho3 fun _ h => h); have F3 := Lib.hid (FrG.grown hg3 O2.out (Nat.le_trans (Nat.le_of_succ_le HW.out) B2.out.size)); have V3 := Lib.hid (V2.out.turn (Turn.of_grown hg3) fun e => by have := (O2.out.blk e).1; omega); have v3 := V3.out.cell 0 rfl; have f3 := V3.out.frozen 0; clear ho3 hg3)
            | fail)
          have V4 := V3.out.set 0 (.slice A3 (u.length + 1 + 1) c3)
          have F4 : FrG w.heap.size w3 (w3.setCell ⟨w.heap.size, 0, none⟩ (.slice A3 (u.length + 1 + 1) c3)) := ⟨(KeepsOthers.setCell _ _ _).from _, (Below.refl _ _).setCell (p := ⟨w.heap.size, 0, none⟩) (Nat.le_refl _) _⟩
          have O4 := O3.out.turn (Turn.of_grown (grownBy_setCell' w3 w.heap.size (.slice A3 (u.length + 1 + 1) c3))) fun k hk e => by have := (O3.out.blk hk).1; injection e with e; omega
          have FR := (((FrG.below (below_drewN (Below.refl _ W) nq) (Nat.le_of_succ_le HW.out)).trans (FrG.below B2.out (Nat.le_of_succ_le HW.out))).trans F3.out).trans F4
          exact ⟨FR.1, FR.2, HNX.out _ _ _ V4 O4 (HB.out.trans FR.2) HE.out⟩
    · have e1 : x2 ≤ x1 := by omega
      have HE := Lib.hid (show stepG q (x1, x2) = q from stepG_no e1)
      clear h12
      gi_wp2_with fail
      exact ⟨KeepsFrom.refl _ _, Below.refl _ _, HNX.out _ _ _ HV.out HQ.out HB.out HE.out⟩
  case done =>
    clear hI0 hseq
    rintro D ys W hD hS ⟨⟨v, hv, hq⟩, hB⟩ hK
    rw [hS] at hq
    obtain ⟨A, c, rfl, -⟩ := hq.form
    have HV := Lib.hid hv
    have HQ := Lib.hid hq
    have HB := Lib.hid hB
    have HK := Lib.hid hK
    have qv : W.cell? ⟨w.heap.size, 0, none⟩ = some (.slice A (gatherP ps).length c) := hv.cell 0 rfl
    clear hv hq hB hK hS
    gi_wp2
    refine ⟨by simp, .inl ⟨_, _, rfl, run_takeDeferred HK.out, ?_⟩⟩
    have hDW : w.heap.size ≤ D := by omega
    have hb2 := belowK_b (w := w) (Nat.le_refl _) W D _ (.deferred none) hDW HK.out rfl rfl
    have O2 := HQ.out.turn (Turn.of_grown (grownBy_putObj' W D (.deferred none))) fun k hk e => by
      injection e with e
      subst e
      obtain ⟨_, cs, hcs⟩ := HQ.out.blk hk
      have := HK.out
      rw [show W.heap[D]? = _ from hcs] at this
      cases this
    refine ⟨_, results_tmp rfl _ _ _, ?_⟩
    exact ⟨_, rfl, (own_any O2 fun k hk => (O2.blk hk).1).base (Nat.le_succ _) |>.mono fun k _ h => Nat.le_of_succ_le h, HB.out.trans hb2⟩
  case stop =>
    rintro D c pre W hD - h
    exact h.elim

end Go.Proofs.Ythjcnijageiaiaa
