/- SWEPT -/
import Derived.Test.YtdhlejhflkfoaaaDoorKB7
import Derived.Test.YtdhlejhflkfoaaaDoorKB8
/- The program: May, of whatever tree: it tells whether the tree may be. -/
namespace Go.Proofs.YtdhlejhflkfoaaaDoor
open Go.RowKit Go.Shelf Go.Maps
set_option linter.unusedVariables false
set_option maxRecDepth 100000
set_option linter.unusedSimpArgs false

/-! ### a set of numbers, whatever comes -/
def SetC (w : World) (b n : Nat) (D : List Nat) : Prop := ∃ M : DataW Unit, w.ownsMap Tryd.prog 23 unitElem b n M ∧ (∀ y, Maps.has M (kyU y) = decide (y ∈ D)) ∧ Maps.size M = D.length
theorem SetC.below {w w' : World} {b n : Nat} {D : List Nat} (h : SetC w b n D) (hb : Below w.heap.size w w') : SetC w' b n D := by
  obtain ⟨M, h, r⟩ := h
  exact ⟨M, ownsMap_turn h (Turn.of_below hb fun _ => False) fun h => h, r⟩
theorem SetC.lt {w : World} {b n : Nat} {D : List Nat} (h : SetC w b n D) : b < w.heap.size := by obtain ⟨M, h, _⟩ := h; exact h.lt
def addS (D : List Nat) (y : Nat) : List Nat := if y ∈ D then D else D ++ [y]
theorem wpList_setPutC {w : World} {ops : Array Oper} {rest : List Oper} {o : Oper} {a : Act} {Q : Exit → Act → World → Prop} (hgd : o.guard = none) (m x v : Operand) (ho : o.op = .mapUpdate 107 m x v) (b n : Nat) (D : List Nat) (hm : a.eval m = .map (some b)) (hs : SetC w b n D) (hl : n ≤ 1000000) (y : Nat) (hy : y < 4294967296) (hx : a.eval x = .int .u32 (y : Int)) (hv : a.eval v = .agg #[])
    (h : ∀ w', SetC w' b (n + 1) (addS D y) → Turn w w' (· = b) → wpList Tryd.prog ops Q rest (a.put o.dst undef) w') : wpList Tryd.prog ops Q (o :: rest) a w := by
  obtain ⟨M, h1, h2, h3⟩ := hs
  refine wpList_mapUpdate_in w hgd m x v 107 ho 23 109 keyedU Tryd.underlying107 unitElem b n M hm h1 (by simp only [maxLen]; omega) _ _ (kyU y) hx hv (keyOf_int_mk Tryd.underlying23 (wfU hy)) (.agg []) [] unitElem_mk ?_
  intro w' h4 h5
  refine h w' ⟨M.put (kyU y) (.agg []), h4, fun z => ?_, ?_⟩ ((Turn.of_grown h5.grown).mono fun k _ e => by injection e with e; exact e.symm)
  · by_cases e : z = y
    · subst e
      rw [has_put_same h1.isMap (by trivial)]
      unfold addS
      by_cases hd : z ∈ D <;> simp [hd]
    · rw [has_put_other (kyU_ne e), h2 z]
      unfold addS
      by_cases hd : y ∈ D <;> simp [hd, e]
  · rw [size_put (h1.tidy keyedU), h2 y, h3]
    unfold addS
    by_cases hd : y ∈ D <;> simp [hd]
theorem wpList_setLenC {w : World} {ops : Array Oper} {rest : List Oper} {o : Oper} {a : Act} {Q : Exit → Act → World → Prop} (hgd : o.guard = none) (m : Operand) (ho : o.op = .call { callee := .builtin .len, args := #[m], argTypes := #[107] }) (b n : Nat) (D : List Nat) (hm : a.eval m = .map (some b)) (hs : SetC w b n D)
    (h : wpList Tryd.prog ops Q rest (a.put o.dst (.int .i64 (D.length : Int))) w) : wpList Tryd.prog ops Q (o :: rest) a w := by
  obtain ⟨M, h1, h2, h3⟩ := hs
  refine wpList_len_own w hgd m 107 ho 23 109 Tryd.underlying107 unitElem b n M hm h1 ?_
  rw [h3]
  exact h
theorem addS_len : ∀ (l D : List Nat), (l.foldl addS D).length ≤ D.length + l.length
  | [], D => by simp
  | y :: l, D => by
    have := addS_len l (addS D y)
    have h2 : (addS D y).length ≤ D.length + 1 := by unfold addS; split <;> simp
    rw [List.foldl_cons, List.length_cons]
    omega
theorem addS_nodup : ∀ (l D : List Nat), D.Nodup → ((l.foldl addS D).length = D.length + l.length ↔ (D ++ l).Nodup)
  | [], D, h => by simp [h]
  | y :: l, D, h => by
    rw [List.foldl_cons]
    by_cases hy : y ∈ D
    · have e : addS D y = D := by unfold addS; rw [if_pos hy]
      rw [e]
      have := addS_len l D
      constructor
      · intro h2
        rw [List.length_cons] at h2
        omega
      · intro h2
        rw [List.nodup_append] at h2
        exact absurd rfl (h2.2.2 y hy y (by simp))
    · have e : addS D y = D ++ [y] := by unfold addS; rw [if_neg hy]
      rw [e]
      have h2 : (D ++ [y]).Nodup := by
        rw [List.nodup_append]
        exact ⟨h, by simp, fun a ha b hb e => by rw [List.mem_singleton] at hb; rw [e, hb] at ha; exact hy ha⟩
      have := addS_nodup l (D ++ [y]) h2
      rw [List.length_append, List.append_assoc] at this
      rw [← show D.length + [y].length + l.length = D.length + (y :: l).length by simp; omega]
      exact this
/-! ### mayNodes -/
def gensD (t : Tr) (k : Nat) : List Nat := (gensT t k).foldl addS []
theorem gensD_next {t : Tr} {k : Nat} (h : k < t.nodes.length) : gensD t (k + 1) = addS (gensD t k) t.nodes[k].gen := by
  unfold gensD
  rw [gens_snoc h, List.foldl_append]
  rfl
structure OneN (t : Tr) (n : Nd) : Prop where
  gen1 : 1 ≤ n.gen
  gen2 : n.gen ≤ t.lastGen
  chg : n.chg ≤ topT t
  hold : HoldN n
structure GoodN (t : Tr) : Prop where
  each : ∀ n ∈ t.nodes, OneN t n
  gens : (t.nodes.map (·.gen)).Nodup
theorem gensD_all (t : Tr) : (gensD t t.nodes.length).length = t.nodes.length ↔ (t.nodes.map (·.gen)).Nodup := by
  have := addS_nodup (gensT t t.nodes.length) [] (by simp)
  unfold gensD
  rw [List.nil_append] at this
  have e : gensT t t.nodes.length = t.nodes.map (·.gen) := by unfold gensT; rw [List.take_length]
  rw [← e, ← this]
  simp [e]
theorem TellsB.is {p : Prop} {w w' : World} {e : Ending} (h : TellsB p w e w') {q : Bool} (hq : q = true ↔ p) : e = .returned (.bool q) ∧ Below w.heap.size w w' := by
  obtain ⟨b, h1, h2, h3⟩ := h
  have e2 : b = q := by cases b <;> cases q <;> simp_all
  exact ⟨by rw [h1, e2], h3⟩
theorem TellsB.yes {p : Prop} {w w' : World} {e : Ending} (h : TellsB p w e w') (hp : p) : e = .returned (.bool true) ∧ Below w.heap.size w w' := h.is ⟨fun _ => hp, fun _ => rfl⟩
theorem TellsB.no {p : Prop} {w w' : World} {e : Ending} (h : TellsB p w e w') (hp : ¬ p) : e = .returned (.bool false) ∧ Below w.heap.size w w' := h.is ⟨fun h => (by cases h), fun h => absurd h hp⟩
theorem SetC.new (w : World) : SetC (w.alloc (.map #[] 0)) w.heap.size 0 [] := SetIs.new w
set_option maxHeartbeats 32000000 in
theorem mayNodes_vB (t : Tr) (cs : List Value) (F : Nat → Prop) (w : World) (hT : Tabs w) (h : TrAt w F cs t) (hl64 : t.nodes.length ≤ 64) :
    Calls Tryd.prog 51 #[.agg cs.toArray] w fun e w' => TellsB (GoodN t) w e w' := by
  have hlen := h.len
  obtain ⟨nv, ss, rfl, ⟨A, c, rfl, hr, -⟩, hse, hl4, hl12, hbig⟩ := h
  have hmix : Tryd.prog.follows .mixedOrders = true := by kernel_rfl
  have HR := Lib.hid hr
  have HT := Lib.hid hT
  have HM64 := Lib.hid hl64
  have HBG := Lib.hid hbig
  obtain ⟨cl, hcl⟩ : ∃ cl, cl = Value.slice A t.nodes.length c :: .int .u32 (t.lastGen : Int) :: .int .u32 (t.boot : Int) :: .int .u32 (t.count : Int) :: ss := ⟨_, rfl⟩
  rw [← hcl] at hlen ⊢
  have HLN := Lib.hid hlen
  have C0 := Lib.hid (show cl[0]? = some (.slice A t.nodes.length c) by rw [hcl]; rfl)
  have C1 := Lib.hid (show cl[1]? = some (.int .u32 (t.lastGen : Int)) by rw [hcl]; rfl)
  have C2 := Lib.hid (show cl[2]? = some (.int .u32 (t.boot : Int)) by rw [hcl]; rfl)
  have C3 := Lib.hid (show cl[3]? = some (.int .u32 (t.count : Int)) by rw [hcl]; rfl)
  have iln : (t.nodes.length : Int) ≤ 64 := by omega
  clear hr hT hl64 hse hl4 hl12 hbig hcl hlen
  go_enter Tryd.func51, Tryd.ntmps51
  go_wp2_with (first
    | ((with_reducible show wpList _ _ _ _ _ w); refine wpList_boxS rfl 30 _ rfl cl rfl ?_; intro g1 w1 hk1 hb1 hg1; go_frame; have D1 := Lib.hid hk1; have B1 := Lib.hid hb1; have G1 := Lib.hid hg1; have hmm := run_makeMap (P := Tryd.prog) 107 w1; clear hk1 hb1 hg1; (obtain ⟨mb, hmb⟩ : ∃ mb, mb = w1.heap.size := ⟨_, rfl⟩); (obtain ⟨w2, hw2⟩ : ∃ w2, w2 = w1.alloc (.map #[] 0) := ⟨_, rfl⟩); have S2 := Lib.hid (show SetC w2 mb 0 [] by rw [hw2, hmb]; exact SetC.new w1); have hb2 : Below w1.heap.size w1 w2 := (by rw [hw2]; exact (Below.refl _ _).alloc (Nat.le_refl _) _); have D2 := Lib.hid (D1.out.below hb2 D1.out.lt); have B2 := Lib.hid (below_chain B1.out hb2); have HMB := Lib.hid (show w.heap.size ≤ mb by rw [hmb]; exact B1.out.size); have N1 := Lib.hid (show g1 ≠ mb by have := D1.out.lt; omega); have q0 : w2.cell? ⟨g1, 0, none⟩ = some (.slice A t.nodes.length c) := (D1.out.below hb2 D1.out.lt).cell 0 (by simpa using C0.out); rw [← hmb, ← hw2] at hmm; clear hmb hw2 hb2)
    | fail)
  clear hmm q0
  go_loopw [10] (fun j wr => ∃ k : Nat, j = .int .i64 k ∧ k ≤ t.nodes.length ∧ (∀ i (hi : i < t.nodes.length), i < k → OneN t t.nodes[i]) ∧ SetC wr mb k (gensD t k) ∧ Cs wr g1 30 cl.toArray ∧ Below w.heap.size w wr) (fun j _ => t.nodes.length - (RowKit.intOf j).toNat)
  case atStart => exact ⟨0, rfl, Nat.zero_le _, fun i hi h => by omega, S2.out, D2.out, B2.out⟩
  case round =>
    obtain ⟨k, rfl, hk, hpre, hs, hc, hB⟩ := hrel
    have HPRE := Lib.hid hpre
    have HS := Lib.hid hs
    have HC := Lib.hid hc
    have HB := Lib.hid hB
    by_cases hlt : k < t.nodes.length
    · obtain ⟨b, off, xs, rfl, hnd, hat⟩ := (HR.out.below hB).get k hlt
      have HAT := Lib.hid (show At wr b (off + k * 6) xs from hat)
      have HND := Lib.hid hnd
      have HXL := Lib.hid (show xs.length = 6 from hnd.len)
      have HGS := Lib.hid (gensD_next hlt)
      have HBAD := Lib.hid (show ¬ OneN t t.nodes[k] → ¬ GoodN t from fun h h2 => h (h2.each _ (List.getElem_mem hlt)))
      have HNXT := Lib.hid (show OneN t t.nodes[k] → ∀ i (hi : i < t.nodes.length), i < k + 1 → OneN t t.nodes[i] from fun h i hi h2 => by
        by_cases e : i = k
        · subst e; exact h
        · exact HPRE.out i hi (by omega))
      have hgen32 : t.nodes[k].gen < 4294967296 := by obtain ⟨dv, ev, -, -, -, -, h, -⟩ := hnd; exact h
      have HG32 := Lib.hid hgen32
      have X1 := Lib.hid (show xs[1]? = some (.int .u32 (t.nodes[k].gen : Int)) by obtain ⟨dv, ev, e, -⟩ := hnd; rw [e]; rfl)
      have X3 := Lib.hid (show xs[3]? = some (.int .u64 (t.nodes[k].chg : Int)) by obtain ⟨dv, ev, e, -⟩ := hnd; rw [e]; rfl)
      generalize t.nodes[k] = n at *
      obtain ⟨top, htop⟩ : ∃ top, top = t.boot * 4294967296 + t.count := ⟨_, rfl⟩
      have HTOP := Lib.hid htop
      clear hs hc hB hat hnd hgen32 htop hpre
      have D6' := HC
      by_cases x1 : 1 ≤ n.gen
      rotate_left
      · have j1 : ((n.gen : Int) == 0) = true := by simp only [beq_iff_eq]; omega
        have HZ := Lib.hid (HBAD.out (fun h => x1 h.gen1))
        clear x1
        go_wp2_with (first
          | ((with_reducible show wpList _ _ _ _ _ wr); refine wpList_load_agg rfl 48 _ rfl b (off + k * 6) rfl xs HAT.out _ Tryd.underlying48 rfl (by rw [HXL.out]; exact infoNode) ?_; go_frame)
          | ((with_reducible show wpList _ _ _ _ _ wr); refine wpList_allocS rfl 48 rfl nodeZ nodeZero ?_; intro g5 w5 hk1 hb1 hg1; go_frame; have C5 := Lib.hid hk1; have B5 := Lib.hid hb1; have G5 := Lib.hid hg1; clear hk1 hb1 hg1)
          | ((with_reducible show wpList _ _ _ _ _ w5); refine wpList_storeS rfl 48 _ _ rfl g5 rfl xs nodeZ rfl C5.out (by rw [HXL.out]; rfl) HND.out.one (by rw [HXL.out]; exact infoNode) ?_; intro w6 hk2 ht2; go_frame; have C6 := Lib.hid hk2; have B6 := Lib.hid (show Below wr.heap.size wr w6 from below_turn B5.out ht2 B5.out.size G5.out); clear hk2 ht2)
          | fail)
        have D6 := Lib.hid (HC.out.below B6.out HC.out.lt)
        have D6 := Lib.hid (HC.out.below B6.out HC.out.lt)
        refine wp_region_V [] (Below w6.heap.size w6) hmix ((Below.refl _ _).drew) ?_
        change wpAnyV _ _ _ _ _ _ _ _ _
        refine wpAnyV_take (i := 0) (v := .pointer (some ⟨g5, 1, none⟩)) 12 (kept_below w6) rfl (by kernel_rfl) (by kernel_rfl) (fun _ _ _ h => h) (fun _ h => h) (DoesV.reads (by rfl) fun w9 hS => by go_simp) ?_
        try simp only [nrm, Act.put]
        refine wpAnyV_take (i := 1) (v := .int .u32 (n.gen : Int)) 12 (kept_below w6) rfl (by kernel_rfl) (by kernel_rfl) (fun _ _ _ h => h) (fun _ h => h) (DoesV.reads (by rfl) fun w9 hS => by have q0 : w9.cell? ⟨g5, 1, none⟩ = some (.int .u32 (n.gen : Int)) := (C6.out.below hS C6.out.lt).cell 1 (by simpa using X1.out); go_simp) ?_
        try simp only [nrm, Act.put]
        refine wpAnyV_take (i := 2) (v := .bool true) 12 (kept_below w6) rfl (by kernel_rfl) (by kernel_rfl) (fun _ _ _ h => h) (fun _ h => h) (DoesV.reads (by rfl) fun w9 hS => by go_simp) ?_
        try simp only [nrm, Act.put]
        refine wpAnyV_take (i := 3) (v := .bool true) 12 (kept_below w6) rfl (by kernel_rfl) (by kernel_rfl) (fun _ _ _ h => h) (fun _ h => h) (DoesV.reads (by rfl) fun w9 hS => by go_simp) ?_
        try simp only [nrm, Act.put]
        refine wpAnyV_take (i := 4) (v := undef) 12 (kept_below w6) rfl (by kernel_rfl) (by kernel_rfl) (fun _ _ _ h => h) (fun _ h => h) (DoesV.off (by rfl)) ?_
        try simp only [nrm, Act.put]
        refine wpAnyV_take (i := 5) (v := undef) 12 (kept_below w6) rfl (by kernel_rfl) (by kernel_rfl) (fun _ _ _ h => h) (fun _ h => h) (DoesV.off (by rfl)) ?_
        try simp only [nrm, Act.put]
        refine wpAnyV_take (i := 6) (v := undef) 12 (kept_below w6) rfl (by kernel_rfl) (by kernel_rfl) (fun _ _ _ h => h) (fun _ h => h) (DoesV.off (by rfl)) ?_
        try simp only [nrm, Act.put]
        refine wpAnyV_take (i := 7) (v := undef) 12 (kept_below w6) rfl (by kernel_rfl) (by kernel_rfl) (fun _ _ _ h => h) (fun _ h => h) (DoesV.off (by rfl)) ?_
        try simp only [nrm, Act.put]
        refine wpAnyV_take (i := 8) (v := undef) 12 (kept_below w6) rfl (by kernel_rfl) (by kernel_rfl) (fun _ _ _ h => h) (fun _ h => h) (DoesV.off (by rfl)) ?_
        try simp only [nrm, Act.put]
        refine wpAnyV_take (i := 9) (v := .bool true) 12 (kept_below w6) rfl (by kernel_rfl) (by kernel_rfl) (fun _ _ _ h => h) (fun _ h => h) (DoesV.reads (by rfl) fun w9 hS => by go_simp) ?_
        try simp only [nrm, Act.put]
        refine wpAnyV_take (i := 10) (v := .bool true) 12 (kept_below w6) rfl (by kernel_rfl) (by kernel_rfl) (fun _ _ _ h => h) (fun _ h => h) (DoesV.reads (by rfl) fun w9 hS => by go_simp) ?_
        try simp only [nrm, Act.put]
        refine wpAnyV_take (i := 11) (v := undef) 12 (kept_below w6) rfl (by kernel_rfl) (by kernel_rfl) (fun _ _ _ h => h) (fun _ h => h) (DoesV.off (by rfl)) ?_
        try simp only [nrm, Act.put]
        refine wpAnyV_take (i := 12) (v := undef) 12 (kept_below w6) rfl (by kernel_rfl) (by kernel_rfl) (fun _ _ _ h => h) (fun _ h => h) (DoesV.off (by rfl)) ?_
        try simp only [nrm, Act.put]
        refine wpAnyV_take (i := 13) (v := undef) 12 (kept_below w6) rfl (by kernel_rfl) (by kernel_rfl) (fun _ _ _ h => h) (fun _ h => h) (DoesV.off (by rfl)) ?_
        try simp only [nrm, Act.put]
        refine wpAnyV_take (i := 14) (v := undef) 12 (kept_below w6) rfl (by kernel_rfl) (by kernel_rfl) (fun _ _ _ h => h) (fun _ h => h) (DoesV.off (by rfl)) ?_
        try simp only [nrm, Act.put]
        refine wpAnyV_take (i := 15) (v := undef) 12 (kept_below w6) rfl (by kernel_rfl) (by kernel_rfl) (fun _ _ _ h => h) (fun _ h => h) (DoesV.off (by rfl)) ?_
        try simp only [nrm, Act.put]
        refine wpAnyV_take (i := 16) (v := .bool true) 12 (kept_below w6) rfl (by kernel_rfl) (by kernel_rfl) (fun _ _ _ h => h) (fun _ h => h) (DoesV.reads (by rfl) fun w9 hS => by go_simp) ?_
        try simp only [nrm, Act.put]
        refine wpAnyV_take (i := 17) (v := .bool true) 12 (kept_below w6) rfl (by kernel_rfl) (by kernel_rfl) (fun _ _ _ h => h) (fun _ h => h) (DoesV.reads (by rfl) fun w9 hS => by go_simp) ?_
        try simp only [nrm, Act.put]
        refine wpAnyV_take (i := 18) (v := undef) 12 (kept_below w6) rfl (by kernel_rfl) (by kernel_rfl) (fun _ _ _ h => h) (fun _ h => h) (DoesV.off (by rfl)) ?_
        try simp only [nrm, Act.put]
        refine wpAnyV_take (i := 19) (v := undef) 12 (kept_below w6) rfl (by kernel_rfl) (by kernel_rfl) (fun _ _ _ h => h) (fun _ h => h) (DoesV.off (by rfl)) ?_
        try simp only [nrm, Act.put]
        refine wpAnyV_take (i := 20) (v := undef) 12 (kept_below w6) rfl (by kernel_rfl) (by kernel_rfl) (fun _ _ _ h => h) (fun _ h => h) (DoesV.off (by rfl)) ?_
        try simp only [nrm, Act.put]
        refine wpAnyV_take (i := 21) (v := .bool true) 12 (kept_below w6) rfl (by kernel_rfl) (by kernel_rfl) (fun _ _ _ h => h) (fun _ h => h) (DoesV.reads (by rfl) fun w9 hS => by go_simp) ?_
        try simp only [nrm, Act.put]
        refine wpAnyV_done (by kernel_rfl) (fun w7 hw7 => ?_) _
        have B7 := Lib.hid (below_chain HB.out (below_chain B6.out hw7))
        clear hw7
        go_wp2_with fail
        go_ret
        exact ⟨false, rfl, ⟨fun h => (by cases h), fun h => absurd h HZ.out⟩, B7.out⟩
      have j1 : ((n.gen : Int) == 0) = false := by simp only [beq_eq_false_iff_ne, ne_eq]; omega
      by_cases x2 : n.gen ≤ t.lastGen
      rotate_left
      · have j2 : (t.lastGen : Int) < n.gen := by omega
        have j2' : t.lastGen < n.gen := by omega
        have HZ := Lib.hid (HBAD.out (fun h => x2 h.gen2))
        clear x1 x2
        go_wp2_with (first
          | ((with_reducible show wpList _ _ _ _ _ wr); refine wpList_load_agg rfl 48 _ rfl b (off + k * 6) rfl xs HAT.out _ Tryd.underlying48 rfl (by rw [HXL.out]; exact infoNode) ?_; go_frame)
          | ((with_reducible show wpList _ _ _ _ _ wr); refine wpList_allocS rfl 48 rfl nodeZ nodeZero ?_; intro g5 w5 hk1 hb1 hg1; go_frame; have C5 := Lib.hid hk1; have B5 := Lib.hid hb1; have G5 := Lib.hid hg1; clear hk1 hb1 hg1)
          | ((with_reducible show wpList _ _ _ _ _ w5); refine wpList_storeS rfl 48 _ _ rfl g5 rfl xs nodeZ rfl C5.out (by rw [HXL.out]; rfl) HND.out.one (by rw [HXL.out]; exact infoNode) ?_; intro w6 hk2 ht2; go_frame; have C6 := Lib.hid hk2; have B6 := Lib.hid (show Below wr.heap.size wr w6 from below_turn B5.out ht2 B5.out.size G5.out); clear hk2 ht2)
          | fail)
        have D6 := Lib.hid (HC.out.below B6.out HC.out.lt)
        have D6 := Lib.hid (HC.out.below B6.out HC.out.lt)
        refine wp_region_V [] (Below w6.heap.size w6) hmix ((Below.refl _ _).drew) ?_
        change wpAnyV _ _ _ _ _ _ _ _ _
        refine wpAnyV_take (i := 0) (v := .pointer (some ⟨g5, 1, none⟩)) 12 (kept_below w6) rfl (by kernel_rfl) (by kernel_rfl) (fun _ _ _ h => h) (fun _ h => h) (DoesV.reads (by rfl) fun w9 hS => by go_simp) ?_
        try simp only [nrm, Act.put]
        refine wpAnyV_take (i := 1) (v := .int .u32 (n.gen : Int)) 12 (kept_below w6) rfl (by kernel_rfl) (by kernel_rfl) (fun _ _ _ h => h) (fun _ h => h) (DoesV.reads (by rfl) fun w9 hS => by have q0 : w9.cell? ⟨g5, 1, none⟩ = some (.int .u32 (n.gen : Int)) := (C6.out.below hS C6.out.lt).cell 1 (by simpa using X1.out); go_simp) ?_
        try simp only [nrm, Act.put]
        refine wpAnyV_take (i := 2) (v := .bool false) 12 (kept_below w6) rfl (by kernel_rfl) (by kernel_rfl) (fun _ _ _ h => h) (fun _ h => h) (DoesV.reads (by rfl) fun w9 hS => by go_simp) ?_
        try simp only [nrm, Act.put]
        refine wpAnyV_take (i := 3) (v := .bool false) 12 (kept_below w6) rfl (by kernel_rfl) (by kernel_rfl) (fun _ _ _ h => h) (fun _ h => h) (DoesV.reads (by rfl) fun w9 hS => by go_simp) ?_
        try simp only [nrm, Act.put]
        refine wpAnyV_take (i := 4) (v := .pointer (some ⟨g5, 1, none⟩)) 12 (kept_below w6) rfl (by kernel_rfl) (by kernel_rfl) (fun _ _ _ h => h) (fun _ h => h) (DoesV.reads (by rfl) fun w9 hS => by go_simp) ?_
        try simp only [nrm, Act.put]
        refine wpAnyV_take (i := 5) (v := .int .u32 (n.gen : Int)) 12 (kept_below w6) rfl (by kernel_rfl) (by kernel_rfl) (fun _ _ _ h => h) (fun _ h => h) (DoesV.reads (by rfl) fun w9 hS => by have q0 : w9.cell? ⟨g5, 1, none⟩ = some (.int .u32 (n.gen : Int)) := (C6.out.below hS C6.out.lt).cell 1 (by simpa using X1.out); go_simp) ?_
        try simp only [nrm, Act.put]
        refine wpAnyV_take (i := 6) (v := .pointer (some ⟨g1, 1, none⟩)) 12 (kept_below w6) rfl (by kernel_rfl) (by kernel_rfl) (fun _ _ _ h => h) (fun _ h => h) (DoesV.reads (by rfl) fun w9 hS => by go_simp) ?_
        try simp only [nrm, Act.put]
        refine wpAnyV_take (i := 7) (v := .int .u32 (t.lastGen : Int)) 12 (kept_below w6) rfl (by kernel_rfl) (by kernel_rfl) (fun _ _ _ h => h) (fun _ h => h) (DoesV.reads (by rfl) fun w9 hS => by have q0 : w9.cell? ⟨g1, 1, none⟩ = some (.int .u32 (t.lastGen : Int)) := (D6.out.below hS D6.out.lt).cell 1 (by simpa using C1.out); go_simp) ?_
        try simp only [nrm, Act.put]
        refine wpAnyV_take (i := 8) (v := .bool true) 12 (kept_below w6) rfl (by kernel_rfl) (by kernel_rfl) (fun _ _ _ h => h) (fun _ h => h) (DoesV.reads (by rfl) fun w9 hS => by go_simp) ?_
        try simp only [nrm, Act.put]
        refine wpAnyV_take (i := 9) (v := .bool true) 12 (kept_below w6) rfl (by kernel_rfl) (by kernel_rfl) (fun _ _ _ h => h) (fun _ h => h) (DoesV.reads (by rfl) fun w9 hS => by go_simp) ?_
        try simp only [nrm, Act.put]
        refine wpAnyV_take (i := 10) (v := .bool true) 12 (kept_below w6) rfl (by kernel_rfl) (by kernel_rfl) (fun _ _ _ h => h) (fun _ h => h) (DoesV.reads (by rfl) fun w9 hS => by go_simp) ?_
        try simp only [nrm, Act.put]
        refine wpAnyV_take (i := 11) (v := undef) 12 (kept_below w6) rfl (by kernel_rfl) (by kernel_rfl) (fun _ _ _ h => h) (fun _ h => h) (DoesV.off (by rfl)) ?_
        try simp only [nrm, Act.put]
        refine wpAnyV_take (i := 12) (v := undef) 12 (kept_below w6) rfl (by kernel_rfl) (by kernel_rfl) (fun _ _ _ h => h) (fun _ h => h) (DoesV.off (by rfl)) ?_
        try simp only [nrm, Act.put]
        refine wpAnyV_take (i := 13) (v := undef) 12 (kept_below w6) rfl (by kernel_rfl) (by kernel_rfl) (fun _ _ _ h => h) (fun _ h => h) (DoesV.off (by rfl)) ?_
        try simp only [nrm, Act.put]
        refine wpAnyV_take (i := 14) (v := undef) 12 (kept_below w6) rfl (by kernel_rfl) (by kernel_rfl) (fun _ _ _ h => h) (fun _ h => h) (DoesV.off (by rfl)) ?_
        try simp only [nrm, Act.put]
        refine wpAnyV_take (i := 15) (v := undef) 12 (kept_below w6) rfl (by kernel_rfl) (by kernel_rfl) (fun _ _ _ h => h) (fun _ h => h) (DoesV.off (by rfl)) ?_
        try simp only [nrm, Act.put]
        refine wpAnyV_take (i := 16) (v := .bool true) 12 (kept_below w6) rfl (by kernel_rfl) (by kernel_rfl) (fun _ _ _ h => h) (fun _ h => h) (DoesV.reads (by rfl) fun w9 hS => by go_simp) ?_
        try simp only [nrm, Act.put]
        refine wpAnyV_take (i := 17) (v := .bool true) 12 (kept_below w6) rfl (by kernel_rfl) (by kernel_rfl) (fun _ _ _ h => h) (fun _ h => h) (DoesV.reads (by rfl) fun w9 hS => by go_simp) ?_
        try simp only [nrm, Act.put]
        refine wpAnyV_take (i := 18) (v := undef) 12 (kept_below w6) rfl (by kernel_rfl) (by kernel_rfl) (fun _ _ _ h => h) (fun _ h => h) (DoesV.off (by rfl)) ?_
        try simp only [nrm, Act.put]
        refine wpAnyV_take (i := 19) (v := undef) 12 (kept_below w6) rfl (by kernel_rfl) (by kernel_rfl) (fun _ _ _ h => h) (fun _ h => h) (DoesV.off (by rfl)) ?_
        try simp only [nrm, Act.put]
        refine wpAnyV_take (i := 20) (v := undef) 12 (kept_below w6) rfl (by kernel_rfl) (by kernel_rfl) (fun _ _ _ h => h) (fun _ h => h) (DoesV.off (by rfl)) ?_
        try simp only [nrm, Act.put]
        refine wpAnyV_take (i := 21) (v := .bool true) 12 (kept_below w6) rfl (by kernel_rfl) (by kernel_rfl) (fun _ _ _ h => h) (fun _ h => h) (DoesV.reads (by rfl) fun w9 hS => by go_simp) ?_
        try simp only [nrm, Act.put]
        refine wpAnyV_done (by kernel_rfl) (fun w7 hw7 => ?_) _
        have B7 := Lib.hid (below_chain HB.out (below_chain B6.out hw7))
        clear hw7
        go_wp2_with fail
        go_ret
        exact ⟨false, rfl, ⟨fun h => (by cases h), fun h => absurd h HZ.out⟩, B7.out⟩
      have j2 : ¬ (t.lastGen : Int) < n.gen := by omega
      have j2' : ¬ t.lastGen < n.gen := by omega
      by_cases x3 : n.chg ≤ top
      rotate_left
      · have j3 : (top : Int) < n.chg := by omega
        have j3' : top < n.chg := by omega
        have HZ := Lib.hid (HBAD.out (fun h => x3 (by rw [HTOP.out]; exact h.chg)))
        clear x1 x2 x3
        go_wp2_with (first
          | ((with_reducible show wpList _ _ _ _ _ wr); refine wpList_load_agg rfl 48 _ rfl b (off + k * 6) rfl xs HAT.out _ Tryd.underlying48 rfl (by rw [HXL.out]; exact infoNode) ?_; go_frame)
          | ((with_reducible show wpList _ _ _ _ _ wr); refine wpList_allocS rfl 48 rfl nodeZ nodeZero ?_; intro g5 w5 hk1 hb1 hg1; go_frame; have C5 := Lib.hid hk1; have B5 := Lib.hid hb1; have G5 := Lib.hid hg1; clear hk1 hb1 hg1)
          | ((with_reducible show wpList _ _ _ _ _ w5); refine wpList_storeS rfl 48 _ _ rfl g5 rfl xs nodeZ rfl C5.out (by rw [HXL.out]; rfl) HND.out.one (by rw [HXL.out]; exact infoNode) ?_; intro w6 hk2 ht2; go_frame; have C6 := Lib.hid hk2; have B6 := Lib.hid (show Below wr.heap.size wr w6 from below_turn B5.out ht2 B5.out.size G5.out); clear hk2 ht2)
          | fail)
        have D6 := Lib.hid (HC.out.below B6.out HC.out.lt)
        have D6 := Lib.hid (HC.out.below B6.out HC.out.lt)
        refine wp_region_V [] (Below w6.heap.size w6) hmix ((Below.refl _ _).drew) ?_
        change wpAnyV _ _ _ _ _ _ _ _ _
        refine wpAnyV_take (i := 0) (v := .pointer (some ⟨g5, 1, none⟩)) 12 (kept_below w6) rfl (by kernel_rfl) (by kernel_rfl) (fun _ _ _ h => h) (fun _ h => h) (DoesV.reads (by rfl) fun w9 hS => by go_simp) ?_
        try simp only [nrm, Act.put]
        refine wpAnyV_take (i := 1) (v := .int .u32 (n.gen : Int)) 12 (kept_below w6) rfl (by kernel_rfl) (by kernel_rfl) (fun _ _ _ h => h) (fun _ h => h) (DoesV.reads (by rfl) fun w9 hS => by have q0 : w9.cell? ⟨g5, 1, none⟩ = some (.int .u32 (n.gen : Int)) := (C6.out.below hS C6.out.lt).cell 1 (by simpa using X1.out); go_simp) ?_
        try simp only [nrm, Act.put]
        refine wpAnyV_take (i := 2) (v := .bool false) 12 (kept_below w6) rfl (by kernel_rfl) (by kernel_rfl) (fun _ _ _ h => h) (fun _ h => h) (DoesV.reads (by rfl) fun w9 hS => by go_simp) ?_
        try simp only [nrm, Act.put]
        refine wpAnyV_take (i := 3) (v := .bool false) 12 (kept_below w6) rfl (by kernel_rfl) (by kernel_rfl) (fun _ _ _ h => h) (fun _ h => h) (DoesV.reads (by rfl) fun w9 hS => by go_simp) ?_
        try simp only [nrm, Act.put]
        refine wpAnyV_take (i := 4) (v := .pointer (some ⟨g5, 1, none⟩)) 12 (kept_below w6) rfl (by kernel_rfl) (by kernel_rfl) (fun _ _ _ h => h) (fun _ h => h) (DoesV.reads (by rfl) fun w9 hS => by go_simp) ?_
        try simp only [nrm, Act.put]
        refine wpAnyV_take (i := 5) (v := .int .u32 (n.gen : Int)) 12 (kept_below w6) rfl (by kernel_rfl) (by kernel_rfl) (fun _ _ _ h => h) (fun _ h => h) (DoesV.reads (by rfl) fun w9 hS => by have q0 : w9.cell? ⟨g5, 1, none⟩ = some (.int .u32 (n.gen : Int)) := (C6.out.below hS C6.out.lt).cell 1 (by simpa using X1.out); go_simp) ?_
        try simp only [nrm, Act.put]
        refine wpAnyV_take (i := 6) (v := .pointer (some ⟨g1, 1, none⟩)) 12 (kept_below w6) rfl (by kernel_rfl) (by kernel_rfl) (fun _ _ _ h => h) (fun _ h => h) (DoesV.reads (by rfl) fun w9 hS => by go_simp) ?_
        try simp only [nrm, Act.put]
        refine wpAnyV_take (i := 7) (v := .int .u32 (t.lastGen : Int)) 12 (kept_below w6) rfl (by kernel_rfl) (by kernel_rfl) (fun _ _ _ h => h) (fun _ h => h) (DoesV.reads (by rfl) fun w9 hS => by have q0 : w9.cell? ⟨g1, 1, none⟩ = some (.int .u32 (t.lastGen : Int)) := (D6.out.below hS D6.out.lt).cell 1 (by simpa using C1.out); go_simp) ?_
        try simp only [nrm, Act.put]
        refine wpAnyV_take (i := 8) (v := .bool false) 12 (kept_below w6) rfl (by kernel_rfl) (by kernel_rfl) (fun _ _ _ h => h) (fun _ h => h) (DoesV.reads (by rfl) fun w9 hS => by go_simp) ?_
        try simp only [nrm, Act.put]
        refine wpAnyV_take (i := 9) (v := .bool false) 12 (kept_below w6) rfl (by kernel_rfl) (by kernel_rfl) (fun _ _ _ h => h) (fun _ h => h) (DoesV.reads (by rfl) fun w9 hS => by go_simp) ?_
        try simp only [nrm, Act.put]
        refine wpAnyV_take (i := 10) (v := .bool false) 12 (kept_below w6) rfl (by kernel_rfl) (by kernel_rfl) (fun _ _ _ h => h) (fun _ h => h) (DoesV.reads (by rfl) fun w9 hS => by go_simp) ?_
        try simp only [nrm, Act.put]
        refine wpAnyV_take (i := 11) (v := .pointer (some ⟨g5, 3, none⟩)) 12 (kept_below w6) rfl (by kernel_rfl) (by kernel_rfl) (fun _ _ _ h => h) (fun _ h => h) (DoesV.reads (by rfl) fun w9 hS => by go_simp) ?_
        try simp only [nrm, Act.put]
        refine wpAnyV_take (i := 12) (v := .int .u64 (n.chg : Int)) 12 (kept_below w6) rfl (by kernel_rfl) (by kernel_rfl) (fun _ _ _ h => h) (fun _ h => h) (DoesV.reads (by rfl) fun w9 hS => by have q0 : w9.cell? ⟨g5, 3, none⟩ = some (.int .u64 (n.chg : Int)) := (C6.out.below hS C6.out.lt).cell 3 (by simpa using X3.out); go_simp) ?_
        try simp only [nrm, Act.put]
        refine wpAnyV_take (i := 13) (v := .agg cl.toArray) 12 (kept_below w6) rfl (by kernel_rfl) (by kernel_rfl) (fun _ _ _ h => h) (fun _ h => h) (DoesV.loadT (by rfl) 30 _ rfl g1 0 rfl cl (fun w9 hS => At.whole (D6.out.below hS D6.out.lt)) _ Tryd.underlying30 rfl (by rw [HLN.out]; exact infoTree)) ?_
        try simp only [nrm, Act.put]
        refine wpAnyV_take (i := 14) (v := .int .u64 (top : Int)) 12 (kept_below w6) rfl (by kernel_rfl) (by kernel_rfl) (fun _ _ _ h => h) (fun _ h => h) (DoesV.calls 66 #[.agg cl.toArray] (by rfl) (fun w9 hS => by go_simp) (fun w9 hS => by have h := lastChange_v cl t.boot t.count w9 HBG.out.2.1 HBG.out.2.2 C2.out C3.out; rw [← HTOP.out] at h; exact h)) ?_
        try simp only [nrm, Act.put]
        refine wpAnyV_take (i := 15) (v := .bool true) 12 (kept_below w6) rfl (by kernel_rfl) (by kernel_rfl) (fun _ _ _ h => h) (fun _ h => h) (DoesV.reads (by rfl) fun w9 hS => by go_simp) ?_
        try simp only [nrm, Act.put]
        refine wpAnyV_take (i := 16) (v := .bool true) 12 (kept_below w6) rfl (by kernel_rfl) (by kernel_rfl) (fun _ _ _ h => h) (fun _ h => h) (DoesV.reads (by rfl) fun w9 hS => by go_simp) ?_
        try simp only [nrm, Act.put]
        refine wpAnyV_take (i := 17) (v := .bool true) 12 (kept_below w6) rfl (by kernel_rfl) (by kernel_rfl) (fun _ _ _ h => h) (fun _ h => h) (DoesV.reads (by rfl) fun w9 hS => by go_simp) ?_
        try simp only [nrm, Act.put]
        refine wpAnyV_take (i := 18) (v := undef) 12 (kept_below w6) rfl (by kernel_rfl) (by kernel_rfl) (fun _ _ _ h => h) (fun _ h => h) (DoesV.off (by rfl)) ?_
        try simp only [nrm, Act.put]
        refine wpAnyV_take (i := 19) (v := undef) 12 (kept_below w6) rfl (by kernel_rfl) (by kernel_rfl) (fun _ _ _ h => h) (fun _ h => h) (DoesV.off (by rfl)) ?_
        try simp only [nrm, Act.put]
        refine wpAnyV_take (i := 20) (v := undef) 12 (kept_below w6) rfl (by kernel_rfl) (by kernel_rfl) (fun _ _ _ h => h) (fun _ h => h) (DoesV.off (by rfl)) ?_
        try simp only [nrm, Act.put]
        refine wpAnyV_take (i := 21) (v := .bool true) 12 (kept_below w6) rfl (by kernel_rfl) (by kernel_rfl) (fun _ _ _ h => h) (fun _ h => h) (DoesV.reads (by rfl) fun w9 hS => by go_simp) ?_
        try simp only [nrm, Act.put]
        refine wpAnyV_done (by kernel_rfl) (fun w7 hw7 => ?_) _
        have B7 := Lib.hid (below_chain HB.out (below_chain B6.out hw7))
        clear hw7
        go_wp2_with fail
        go_ret
        exact ⟨false, rfl, ⟨fun h => (by cases h), fun h => absurd h HZ.out⟩, B7.out⟩
      have j3 : ¬ (top : Int) < n.chg := by omega
      have j3' : ¬ top < n.chg := by omega
      by_cases x4 : HoldN n
      rotate_left
      · skip
        have HZ := Lib.hid (HBAD.out (fun h => x4 h.hold))
        have HHN := Lib.hid x4
        clear x1 x2 x3 x4
        go_wp2_with (first
          | ((with_reducible show wpList _ _ _ _ _ wr); refine wpList_load_agg rfl 48 _ rfl b (off + k * 6) rfl xs HAT.out _ Tryd.underlying48 rfl (by rw [HXL.out]; exact infoNode) ?_; go_frame)
          | ((with_reducible show wpList _ _ _ _ _ wr); refine wpList_allocS rfl 48 rfl nodeZ nodeZero ?_; intro g5 w5 hk1 hb1 hg1; go_frame; have C5 := Lib.hid hk1; have B5 := Lib.hid hb1; have G5 := Lib.hid hg1; clear hk1 hb1 hg1)
          | ((with_reducible show wpList _ _ _ _ _ w5); refine wpList_storeS rfl 48 _ _ rfl g5 rfl xs nodeZ rfl C5.out (by rw [HXL.out]; rfl) HND.out.one (by rw [HXL.out]; exact infoNode) ?_; intro w6 hk2 ht2; go_frame; have C6 := Lib.hid hk2; have B6 := Lib.hid (show Below wr.heap.size wr w6 from below_turn B5.out ht2 B5.out.size G5.out); clear hk2 ht2)
          | fail)
        have D6 := Lib.hid (HC.out.below B6.out HC.out.lt)
        have D6 := Lib.hid (HC.out.below B6.out HC.out.lt)
        refine wp_region_V [] (Below w6.heap.size w6) hmix ((Below.refl _ _).drew) ?_
        change wpAnyV _ _ _ _ _ _ _ _ _
        refine wpAnyV_take (i := 0) (v := .pointer (some ⟨g5, 1, none⟩)) 12 (kept_below w6) rfl (by kernel_rfl) (by kernel_rfl) (fun _ _ _ h => h) (fun _ h => h) (DoesV.reads (by rfl) fun w9 hS => by go_simp) ?_
        try simp only [nrm, Act.put]
        refine wpAnyV_take (i := 1) (v := .int .u32 (n.gen : Int)) 12 (kept_below w6) rfl (by kernel_rfl) (by kernel_rfl) (fun _ _ _ h => h) (fun _ h => h) (DoesV.reads (by rfl) fun w9 hS => by have q0 : w9.cell? ⟨g5, 1, none⟩ = some (.int .u32 (n.gen : Int)) := (C6.out.below hS C6.out.lt).cell 1 (by simpa using X1.out); go_simp) ?_
        try simp only [nrm, Act.put]
        refine wpAnyV_take (i := 2) (v := .bool false) 12 (kept_below w6) rfl (by kernel_rfl) (by kernel_rfl) (fun _ _ _ h => h) (fun _ h => h) (DoesV.reads (by rfl) fun w9 hS => by go_simp) ?_
        try simp only [nrm, Act.put]
        refine wpAnyV_take (i := 3) (v := .bool false) 12 (kept_below w6) rfl (by kernel_rfl) (by kernel_rfl) (fun _ _ _ h => h) (fun _ h => h) (DoesV.reads (by rfl) fun w9 hS => by go_simp) ?_
        try simp only [nrm, Act.put]
        refine wpAnyV_take (i := 4) (v := .pointer (some ⟨g5, 1, none⟩)) 12 (kept_below w6) rfl (by kernel_rfl) (by kernel_rfl) (fun _ _ _ h => h) (fun _ h => h) (DoesV.reads (by rfl) fun w9 hS => by go_simp) ?_
        try simp only [nrm, Act.put]
        refine wpAnyV_take (i := 5) (v := .int .u32 (n.gen : Int)) 12 (kept_below w6) rfl (by kernel_rfl) (by kernel_rfl) (fun _ _ _ h => h) (fun _ h => h) (DoesV.reads (by rfl) fun w9 hS => by have q0 : w9.cell? ⟨g5, 1, none⟩ = some (.int .u32 (n.gen : Int)) := (C6.out.below hS C6.out.lt).cell 1 (by simpa using X1.out); go_simp) ?_
        try simp only [nrm, Act.put]
        refine wpAnyV_take (i := 6) (v := .pointer (some ⟨g1, 1, none⟩)) 12 (kept_below w6) rfl (by kernel_rfl) (by kernel_rfl) (fun _ _ _ h => h) (fun _ h => h) (DoesV.reads (by rfl) fun w9 hS => by go_simp) ?_
        try simp only [nrm, Act.put]
        refine wpAnyV_take (i := 7) (v := .int .u32 (t.lastGen : Int)) 12 (kept_below w6) rfl (by kernel_rfl) (by kernel_rfl) (fun _ _ _ h => h) (fun _ h => h) (DoesV.reads (by rfl) fun w9 hS => by have q0 : w9.cell? ⟨g1, 1, none⟩ = some (.int .u32 (t.lastGen : Int)) := (D6.out.below hS D6.out.lt).cell 1 (by simpa using C1.out); go_simp) ?_
        try simp only [nrm, Act.put]
        refine wpAnyV_take (i := 8) (v := .bool false) 12 (kept_below w6) rfl (by kernel_rfl) (by kernel_rfl) (fun _ _ _ h => h) (fun _ h => h) (DoesV.reads (by rfl) fun w9 hS => by go_simp) ?_
        try simp only [nrm, Act.put]
        refine wpAnyV_take (i := 9) (v := .bool false) 12 (kept_below w6) rfl (by kernel_rfl) (by kernel_rfl) (fun _ _ _ h => h) (fun _ h => h) (DoesV.reads (by rfl) fun w9 hS => by go_simp) ?_
        try simp only [nrm, Act.put]
        refine wpAnyV_take (i := 10) (v := .bool false) 12 (kept_below w6) rfl (by kernel_rfl) (by kernel_rfl) (fun _ _ _ h => h) (fun _ h => h) (DoesV.reads (by rfl) fun w9 hS => by go_simp) ?_
        try simp only [nrm, Act.put]
        refine wpAnyV_take (i := 11) (v := .pointer (some ⟨g5, 3, none⟩)) 12 (kept_below w6) rfl (by kernel_rfl) (by kernel_rfl) (fun _ _ _ h => h) (fun _ h => h) (DoesV.reads (by rfl) fun w9 hS => by go_simp) ?_
        try simp only [nrm, Act.put]
        refine wpAnyV_take (i := 12) (v := .int .u64 (n.chg : Int)) 12 (kept_below w6) rfl (by kernel_rfl) (by kernel_rfl) (fun _ _ _ h => h) (fun _ h => h) (DoesV.reads (by rfl) fun w9 hS => by have q0 : w9.cell? ⟨g5, 3, none⟩ = some (.int .u64 (n.chg : Int)) := (C6.out.below hS C6.out.lt).cell 3 (by simpa using X3.out); go_simp) ?_
        try simp only [nrm, Act.put]
        refine wpAnyV_take (i := 13) (v := .agg cl.toArray) 12 (kept_below w6) rfl (by kernel_rfl) (by kernel_rfl) (fun _ _ _ h => h) (fun _ h => h) (DoesV.loadT (by rfl) 30 _ rfl g1 0 rfl cl (fun w9 hS => At.whole (D6.out.below hS D6.out.lt)) _ Tryd.underlying30 rfl (by rw [HLN.out]; exact infoTree)) ?_
        try simp only [nrm, Act.put]
        refine wpAnyV_take (i := 14) (v := .int .u64 (top : Int)) 12 (kept_below w6) rfl (by kernel_rfl) (by kernel_rfl) (fun _ _ _ h => h) (fun _ h => h) (DoesV.calls 66 #[.agg cl.toArray] (by rfl) (fun w9 hS => by go_simp) (fun w9 hS => by have h := lastChange_v cl t.boot t.count w9 HBG.out.2.1 HBG.out.2.2 C2.out C3.out; rw [← HTOP.out] at h; exact h)) ?_
        try simp only [nrm, Act.put]
        refine wpAnyV_take (i := 15) (v := .bool false) 12 (kept_below w6) rfl (by kernel_rfl) (by kernel_rfl) (fun _ _ _ h => h) (fun _ h => h) (DoesV.reads (by rfl) fun w9 hS => by go_simp) ?_
        try simp only [nrm, Act.put]
        refine wpAnyV_take (i := 16) (v := .bool false) 12 (kept_below w6) rfl (by kernel_rfl) (by kernel_rfl) (fun _ _ _ h => h) (fun _ h => h) (DoesV.reads (by rfl) fun w9 hS => by go_simp) ?_
        try simp only [nrm, Act.put]
        refine wpAnyV_take (i := 17) (v := .bool false) 12 (kept_below w6) rfl (by kernel_rfl) (by kernel_rfl) (fun _ _ _ h => h) (fun _ h => h) (DoesV.reads (by rfl) fun w9 hS => by go_simp) ?_
        try simp only [nrm, Act.put]
        refine wpAnyV_take (i := 18) (v := .agg xs.toArray) 12 (kept_below w6) rfl (by kernel_rfl) (by kernel_rfl) (fun _ _ _ h => h) (fun _ h => h) (DoesV.loadT (by rfl) 48 _ rfl g5 0 rfl xs (fun w9 hS => At.whole (C6.out.below hS C6.out.lt)) _ Tryd.underlying48 rfl (by rw [HXL.out]; exact infoNode)) ?_
        try simp only [nrm, Act.put]
        refine wpAnyV_take (i := 19) (v := .bool false) 12 (kept_below w6) rfl (by kernel_rfl) (by kernel_rfl) (fun _ _ _ h => h) (fun _ h => h) (DoesV.calls 70 #[.agg xs.toArray] (by rfl) (fun w9 hS => by go_simp) (fun w9 hS => (mayHold_vB n xs F w9 (HT.out.below (below_chain HB.out (below_chain B6.out hS))) ((HND.out.below B6.out).below hS)).mono fun e w9 h => h.no HHN.out)) ?_
        try simp only [nrm, Act.put]
        refine wpAnyV_take (i := 20) (v := .bool true) 12 (kept_below w6) rfl (by kernel_rfl) (by kernel_rfl) (fun _ _ _ h => h) (fun _ h => h) (DoesV.reads (by rfl) fun w9 hS => by go_simp) ?_
        try simp only [nrm, Act.put]
        refine wpAnyV_take (i := 21) (v := .bool true) 12 (kept_below w6) rfl (by kernel_rfl) (by kernel_rfl) (fun _ _ _ h => h) (fun _ h => h) (DoesV.reads (by rfl) fun w9 hS => by go_simp) ?_
        try simp only [nrm, Act.put]
        refine wpAnyV_done (by kernel_rfl) (fun w7 hw7 => ?_) _
        have B7 := Lib.hid (below_chain HB.out (below_chain B6.out hw7))
        clear hw7
        go_wp2_with fail
        go_ret
        exact ⟨false, rfl, ⟨fun h => (by cases h), fun h => absurd h HZ.out⟩, B7.out⟩
      have HHN := Lib.hid x4
      have HNX := Lib.hid (HNXT.out ⟨x1, x2, by rw [show topT t = top from HTOP.out.symm]; exact x3, x4⟩)
      have HK64 := Lib.hid (show k ≤ 1000000 by have := HM64.out; omega)
      clear x1 x2 x3 x4
      go_wp2_with (first
        | ((with_reducible show wpList _ _ _ _ _ wr); refine wpList_load_agg rfl 48 _ rfl b (off + k * 6) rfl xs HAT.out _ Tryd.underlying48 rfl (by rw [HXL.out]; exact infoNode) ?_; go_frame)
        | ((with_reducible show wpList _ _ _ _ _ wr); refine wpList_allocS rfl 48 rfl nodeZ nodeZero ?_; intro g5 w5 hk1 hb1 hg1; go_frame; have C5 := Lib.hid hk1; have B5 := Lib.hid hb1; have G5 := Lib.hid hg1; clear hk1 hb1 hg1)
        | ((with_reducible show wpList _ _ _ _ _ w5); refine wpList_storeS rfl 48 _ _ rfl g5 rfl xs nodeZ rfl C5.out (by rw [HXL.out]; rfl) HND.out.one (by rw [HXL.out]; exact infoNode) ?_; intro w6 hk2 ht2; go_frame; have C6 := Lib.hid hk2; have B6 := Lib.hid (show Below wr.heap.size wr w6 from below_turn B5.out ht2 B5.out.size G5.out); clear hk2 ht2)
        | fail)
      have D6 := Lib.hid (HC.out.below B6.out HC.out.lt)
      have D6 := Lib.hid (HC.out.below B6.out HC.out.lt)
      refine wp_region_V [] (Below w6.heap.size w6) hmix ((Below.refl _ _).drew) ?_
      change wpAnyV _ _ _ _ _ _ _ _ _
      refine wpAnyV_take (i := 0) (v := .pointer (some ⟨g5, 1, none⟩)) 12 (kept_below w6) rfl (by kernel_rfl) (by kernel_rfl) (fun _ _ _ h => h) (fun _ h => h) (DoesV.reads (by rfl) fun w9 hS => by go_simp) ?_
      try simp only [nrm, Act.put]
      refine wpAnyV_take (i := 1) (v := .int .u32 (n.gen : Int)) 12 (kept_below w6) rfl (by kernel_rfl) (by kernel_rfl) (fun _ _ _ h => h) (fun _ h => h) (DoesV.reads (by rfl) fun w9 hS => by have q0 : w9.cell? ⟨g5, 1, none⟩ = some (.int .u32 (n.gen : Int)) := (C6.out.below hS C6.out.lt).cell 1 (by simpa using X1.out); go_simp) ?_
      try simp only [nrm, Act.put]
      refine wpAnyV_take (i := 2) (v := .bool false) 12 (kept_below w6) rfl (by kernel_rfl) (by kernel_rfl) (fun _ _ _ h => h) (fun _ h => h) (DoesV.reads (by rfl) fun w9 hS => by go_simp) ?_
      try simp only [nrm, Act.put]
      refine wpAnyV_take (i := 3) (v := .bool false) 12 (kept_below w6) rfl (by kernel_rfl) (by kernel_rfl) (fun _ _ _ h => h) (fun _ h => h) (DoesV.reads (by rfl) fun w9 hS => by go_simp) ?_
      try simp only [nrm, Act.put]
      refine wpAnyV_take (i := 4) (v := .pointer (some ⟨g5, 1, none⟩)) 12 (kept_below w6) rfl (by kernel_rfl) (by kernel_rfl) (fun _ _ _ h => h) (fun _ h => h) (DoesV.reads (by rfl) fun w9 hS => by go_simp) ?_
      try simp only [nrm, Act.put]
      refine wpAnyV_take (i := 5) (v := .int .u32 (n.gen : Int)) 12 (kept_below w6) rfl (by kernel_rfl) (by kernel_rfl) (fun _ _ _ h => h) (fun _ h => h) (DoesV.reads (by rfl) fun w9 hS => by have q0 : w9.cell? ⟨g5, 1, none⟩ = some (.int .u32 (n.gen : Int)) := (C6.out.below hS C6.out.lt).cell 1 (by simpa using X1.out); go_simp) ?_
      try simp only [nrm, Act.put]
      refine wpAnyV_take (i := 6) (v := .pointer (some ⟨g1, 1, none⟩)) 12 (kept_below w6) rfl (by kernel_rfl) (by kernel_rfl) (fun _ _ _ h => h) (fun _ h => h) (DoesV.reads (by rfl) fun w9 hS => by go_simp) ?_
      try simp only [nrm, Act.put]
      refine wpAnyV_take (i := 7) (v := .int .u32 (t.lastGen : Int)) 12 (kept_below w6) rfl (by kernel_rfl) (by kernel_rfl) (fun _ _ _ h => h) (fun _ h => h) (DoesV.reads (by rfl) fun w9 hS => by have q0 : w9.cell? ⟨g1, 1, none⟩ = some (.int .u32 (t.lastGen : Int)) := (D6.out.below hS D6.out.lt).cell 1 (by simpa using C1.out); go_simp) ?_
      try simp only [nrm, Act.put]
      refine wpAnyV_take (i := 8) (v := .bool false) 12 (kept_below w6) rfl (by kernel_rfl) (by kernel_rfl) (fun _ _ _ h => h) (fun _ h => h) (DoesV.reads (by rfl) fun w9 hS => by go_simp) ?_
      try simp only [nrm, Act.put]
      refine wpAnyV_take (i := 9) (v := .bool false) 12 (kept_below w6) rfl (by kernel_rfl) (by kernel_rfl) (fun _ _ _ h => h) (fun _ h => h) (DoesV.reads (by rfl) fun w9 hS => by go_simp) ?_
      try simp only [nrm, Act.put]
      refine wpAnyV_take (i := 10) (v := .bool false) 12 (kept_below w6) rfl (by kernel_rfl) (by kernel_rfl) (fun _ _ _ h => h) (fun _ h => h) (DoesV.reads (by rfl) fun w9 hS => by go_simp) ?_
      try simp only [nrm, Act.put]
      refine wpAnyV_take (i := 11) (v := .pointer (some ⟨g5, 3, none⟩)) 12 (kept_below w6) rfl (by kernel_rfl) (by kernel_rfl) (fun _ _ _ h => h) (fun _ h => h) (DoesV.reads (by rfl) fun w9 hS => by go_simp) ?_
      try simp only [nrm, Act.put]
      refine wpAnyV_take (i := 12) (v := .int .u64 (n.chg : Int)) 12 (kept_below w6) rfl (by kernel_rfl) (by kernel_rfl) (fun _ _ _ h => h) (fun _ h => h) (DoesV.reads (by rfl) fun w9 hS => by have q0 : w9.cell? ⟨g5, 3, none⟩ = some (.int .u64 (n.chg : Int)) := (C6.out.below hS C6.out.lt).cell 3 (by simpa using X3.out); go_simp) ?_
      try simp only [nrm, Act.put]
      refine wpAnyV_take (i := 13) (v := .agg cl.toArray) 12 (kept_below w6) rfl (by kernel_rfl) (by kernel_rfl) (fun _ _ _ h => h) (fun _ h => h) (DoesV.loadT (by rfl) 30 _ rfl g1 0 rfl cl (fun w9 hS => At.whole (D6.out.below hS D6.out.lt)) _ Tryd.underlying30 rfl (by rw [HLN.out]; exact infoTree)) ?_
      try simp only [nrm, Act.put]
      refine wpAnyV_take (i := 14) (v := .int .u64 (top : Int)) 12 (kept_below w6) rfl (by kernel_rfl) (by kernel_rfl) (fun _ _ _ h => h) (fun _ h => h) (DoesV.calls 66 #[.agg cl.toArray] (by rfl) (fun w9 hS => by go_simp) (fun w9 hS => by have h := lastChange_v cl t.boot t.count w9 HBG.out.2.1 HBG.out.2.2 C2.out C3.out; rw [← HTOP.out] at h; exact h)) ?_
      try simp only [nrm, Act.put]
      refine wpAnyV_take (i := 15) (v := .bool false) 12 (kept_below w6) rfl (by kernel_rfl) (by kernel_rfl) (fun _ _ _ h => h) (fun _ h => h) (DoesV.reads (by rfl) fun w9 hS => by go_simp) ?_
      try simp only [nrm, Act.put]
      refine wpAnyV_take (i := 16) (v := .bool false) 12 (kept_below w6) rfl (by kernel_rfl) (by kernel_rfl) (fun _ _ _ h => h) (fun _ h => h) (DoesV.reads (by rfl) fun w9 hS => by go_simp) ?_
      try simp only [nrm, Act.put]
      refine wpAnyV_take (i := 17) (v := .bool false) 12 (kept_below w6) rfl (by kernel_rfl) (by kernel_rfl) (fun _ _ _ h => h) (fun _ h => h) (DoesV.reads (by rfl) fun w9 hS => by go_simp) ?_
      try simp only [nrm, Act.put]
      refine wpAnyV_take (i := 18) (v := .agg xs.toArray) 12 (kept_below w6) rfl (by kernel_rfl) (by kernel_rfl) (fun _ _ _ h => h) (fun _ h => h) (DoesV.loadT (by rfl) 48 _ rfl g5 0 rfl xs (fun w9 hS => At.whole (C6.out.below hS C6.out.lt)) _ Tryd.underlying48 rfl (by rw [HXL.out]; exact infoNode)) ?_
      try simp only [nrm, Act.put]
      refine wpAnyV_take (i := 19) (v := .bool true) 12 (kept_below w6) rfl (by kernel_rfl) (by kernel_rfl) (fun _ _ _ h => h) (fun _ h => h) (DoesV.calls 70 #[.agg xs.toArray] (by rfl) (fun w9 hS => by go_simp) (fun w9 hS => (mayHold_vB n xs F w9 (HT.out.below (below_chain HB.out (below_chain B6.out hS))) ((HND.out.below B6.out).below hS)).mono fun e w9 h => h.yes HHN.out)) ?_
      try simp only [nrm, Act.put]
      refine wpAnyV_take (i := 20) (v := .bool false) 12 (kept_below w6) rfl (by kernel_rfl) (by kernel_rfl) (fun _ _ _ h => h) (fun _ h => h) (DoesV.reads (by rfl) fun w9 hS => by go_simp) ?_
      try simp only [nrm, Act.put]
      refine wpAnyV_take (i := 21) (v := .bool false) 12 (kept_below w6) rfl (by kernel_rfl) (by kernel_rfl) (fun _ _ _ h => h) (fun _ h => h) (DoesV.reads (by rfl) fun w9 hS => by go_simp) ?_
      try simp only [nrm, Act.put]
      refine wpAnyV_done (by kernel_rfl) (fun w7 hw7 => ?_) _
      have S7 := Lib.hid ((HS.out.below B6.out).below hw7)
      have D7 := Lib.hid (D6.out.below hw7 D6.out.lt)
      have B7 := Lib.hid (below_chain HB.out (below_chain B6.out hw7))
      have q1 : w7.cell? ⟨g5, 1, none⟩ = some (.int .u32 (n.gen : Int)) := (C6.out.below hw7 C6.out.lt).cell 1 (by simpa using X1.out)
      clear hw7 j1 j2 j2' j3 j3'
      go_wp2_with (first
        | ((with_reducible show wpList _ _ _ _ _ w7); refine wpList_setPutC rfl _ _ _ rfl mb k (gensD t k) rfl S7.out HK64.out n.gen HG32.out rfl rfl ?_; intro w8 hs8 ht8; go_frame; have S8 := Lib.hid hs8; have T8 := Lib.hid ht8; clear hs8 ht8)
        | fail)
      go_roundw
      case rel => exact ⟨k + 1, by go_num, hlt, HNX.out, by rw [HGS.out]; exact S8.out, D7.out.turn T8.out N1.out, B7.out.trans (T8.out.below B7.out.size fun q e => by rw [e]; exact HMB.out)⟩
      case measure => simp [RowKit.intOf]; omega
    · obtain rfl : k = t.nodes.length := by omega
      have HGE := Lib.hid (gensD_all t)
      have HALL := Lib.hid (show ∀ n ∈ t.nodes, OneN t n from fun n hn => by
        obtain ⟨i, hi, rfl⟩ := List.getElem_of_mem hn
        exact hpre i hi hi)
      have q0 : wr.cell? ⟨g1, 0, none⟩ = some (.slice A t.nodes.length c) := HC.out.cell 0 (by simpa using C0.out)
      obtain ⟨gl, hgl⟩ : ∃ gl, gl = (gensD t t.nodes.length).length := ⟨_, rfl⟩
      rw [← hgl] at HGE
      have HGL := Lib.hid hgl
      clear hs hc hB hpre hgl
      by_cases hz : gl = t.nodes.length
      · have HZ := Lib.hid hz
        have i1 : ((gl : Int) == (t.nodes.length : Int)) = true := by simp only [beq_iff_eq]; omega
        clear hz
        go_wp2_with (first
          | ((with_reducible show wpList _ _ _ _ _ wr); refine wpList_setLenC rfl _ rfl mb t.nodes.length (gensD t t.nodes.length) rfl HS.out ?_; go_frame; rw [← HGL.out])
          | fail)
        go_ret
        exact ⟨true, by first | rfl | simp, ⟨fun _ => ⟨HALL.out, HGE.out.1 HZ.out⟩, fun _ => rfl⟩, HB.out⟩
      · have HZ := Lib.hid hz
        have i1 : ((gl : Int) == (t.nodes.length : Int)) = false := by simp only [beq_eq_false_iff_ne, ne_eq]; omega
        clear hz
        go_wp2_with (first
          | ((with_reducible show wpList _ _ _ _ _ wr); refine wpList_setLenC rfl _ rfl mb t.nodes.length (gensD t t.nodes.length) rfl HS.out ?_; go_frame; rw [← HGL.out])
          | fail)
        go_ret
        exact ⟨false, by first | rfl | simp, ⟨fun h => (by cases h), fun h => absurd (HGE.out.2 h.gens) HZ.out⟩, HB.out⟩
/-- it tells p; where the tree may be it is so -/
def TellsM (t : Tr) (p : Prop) (w : World) (e : Ending) (w' : World) : Prop := ∃ b, e = .returned (.bool b) ∧ (b = true → p) ∧ (MayT t → b = true) ∧ Below w.heap.size w w'
set_option maxHeartbeats 4000000 in
theorem isOnePiece_vB (t : Tr) (A : Option Addr) (c : Nat) (F : Nat → Prop) (w : World) (hs : SortN t.nodes) (hl64 : t.nodes.length ≤ 64) (hk : ∀ n ∈ t.nodes, n.names.length ≤ 32) (r : RdX nodeE w F A t.nodes) :
    Calls Tryd.prog 52 #[.slice A t.nodes.length c] w fun e w' => TellsM t (PieceT t) w e w' := by
  have HU := Lib.hid (under_vB t A c F w hs hl64 hk r)
  have HSN := Lib.hid hs
  have iln : (t.nodes.length : Int) ≤ 64 := by omega
  clear hs hl64 hk r
  go_enter Tryd.func52, Tryd.ntmps52
  go_wp2_with fail
  refine HU.out.mono ?_
  rintro e w1 ⟨⟨mb, D, rfl, hs, hI⟩ | ⟨rfl, hno⟩, hb⟩
  · have S1 := Lib.hid hs
    have HI := Lib.hid hI
    have B1 := Lib.hid hb
    clear hs hI hb
    by_cases hz : D.length = t.nodes.length
    · have HZ := Lib.hid hz
      have i1 : ((D.length : Int) == (t.nodes.length : Int)) = true := by simp only [beq_iff_eq]; omega
      clear hz
      go_wp2_with (first
        | ((with_reducible show wpList _ _ _ _ _ w1); refine wpList_setLenG (by rfl) _ rfl mb D rfl S1.out ?_; go_frame)
        | fail)
      go_ret
      exact ⟨true, by first | rfl | simp, fun _ => HI.out.over HSN.out HZ.out, fun _ => rfl, B1.out⟩
    · have HZ := Lib.hid hz
      have i1 : ((D.length : Int) == (t.nodes.length : Int)) = false := by simp only [beq_eq_false_iff_ne, ne_eq]; omega
      clear hz
      go_wp2_with (first
        | ((with_reducible show wpList _ _ _ _ _ w1); refine wpList_setLenG (by rfl) _ rfl mb D rfl S1.out ?_; go_frame)
        | fail)
      go_ret
      exact ⟨false, by first | rfl | simp, fun h => (by cases h), fun hm => absurd ((HI.out.may hm).all hm) HZ.out, B1.out⟩
  · have HNO := Lib.hid hno
    have B1 := Lib.hid hb
    clear hno hb
    go_wp2_with fail
    go_ret
    exact ⟨false, by first | rfl | simp, fun h => (by cases h), fun hm => absurd hm HNO.out, B1.out⟩
theorem may_ofB {t : Tr} (b1 : 1 ≤ t.boot) (b2 : t.boot ≤ 2147483648) (l2 : t.nodes.length ≤ 64) (h0 : ∃ h : 0 < t.nodes.length, t.nodes[0].ino = 1 ∧ t.nodes[0].gen = 1 ∧ t.nodes[0].dir = true) (hs : SortN t.nodes) (hg : GoodN t) (hp : PieceT t) : MayT t := by
  obtain ⟨hl, e1, e2, e3⟩ := h0
  refine ⟨b1, b2, ?_, ⟨_, List.getElem_mem hl, e1, e2, e3⟩, l2, hs, List.pairwise_map.1 hg.gens, fun n hn => ?_, hp.once, hp.noroot, hp.above⟩
  · have := (hg.each _ (List.getElem_mem hl)).gen2
    rw [e2] at this
    exact this
  · have q := hg.each n hn
    have hpos : 1 ≤ n.ino := by
      obtain ⟨j, hj, rfl⟩ := List.getElem_of_mem hn
      by_cases hj0 : j = 0
      · subst hj0; rw [e1]; exact Nat.le_refl _
      · have h4 := List.pairwise_iff_getElem.1 hs 0 j hl hj (by omega)
        omega
    cases hd : n.dir
    · obtain ⟨h1, h2⟩ := q.hold.file hd
      exact ⟨hpos, q.gen1, q.gen2, q.chg, h2, fun h => (by rw [hd] at h; cases h), fun _ => h1, by rw [h1]; exact List.Pairwise.nil, fun e he => (by rw [h1] at he; cases he), by rw [h1]; decide⟩
    · obtain ⟨h1, h2, h3, h4⟩ := q.hold.dir hd
      exact ⟨hpos, q.gen1, q.gen2, q.chg, by rw [h1]; decide, fun _ => h1, fun h => (by rw [hd] at h; cases h), h3, fun e he => ⟨h4 e he, hp.inn n hn e he⟩, h2⟩
theorem may_good {t : Tr} (hm : MayT t) : GoodN t := ⟨fun n hn => ⟨(hm.ok n hn).gen1, (hm.ok n hn).gen2, (hm.ok n hn).chg, hold_of (hm.ok n hn)⟩, List.pairwise_map.2 hm.gens⟩
theorem hold_many {n : Nd} (h : HoldN n) : n.names.length ≤ 32 := by
  cases hd : n.dir
  · rw [(h.file hd).1]; decide
  · exact (h.dir hd).2.1

end Go.Proofs.YtdhlejhflkfoaaaDoor
/- The program: May, of whatever tree: it tells whether the tree may be. -/
namespace Go.Proofs.YtdhlejhflkfoaaaDoor
open Go.RowKit Go.Shelf Go.Maps
set_option linter.unusedVariables false
set_option maxRecDepth 100000
set_option linter.unusedSimpArgs false

theorem may_root {t : Tr} (hm : MayT t) (h : 0 < t.nodes.length) : t.nodes[0].ino = 1 ∧ t.nodes[0].gen = 1 ∧ t.nodes[0].dir = true := by
  obtain ⟨_, h1⟩ := root_first hm
  exact h1
set_option maxHeartbeats 32000000 in
theorem May_vB (t : Tr) (cs : List Value) (F : Nat → Prop) (w : World) (hT : Tabs w) (h : TrAt w F cs t) :
    Calls Tryd.prog 28 #[.agg cs.toArray] w fun e w' => TellsB (MayT t) w e w' := by
  have HTR := Lib.hid h
  have hlen := h.len
  obtain ⟨nv, ss, rfl, ⟨A, c, rfl, hr, hl1, hl2, -⟩, hse, hl4, hl12, hbig⟩ := h
  have HR := Lib.hid hr
  have HT := Lib.hid hT
  obtain ⟨cl, hcl⟩ : ∃ cl, cl = Value.slice A t.nodes.length c :: .int .u32 (t.lastGen : Int) :: .int .u32 (t.boot : Int) :: .int .u32 (t.count : Int) :: ss := ⟨_, rfl⟩
  rw [← hcl] at hlen HTR ⊢
  have HLN := Lib.hid hlen
  have C0 := Lib.hid (show cl[0]? = some (.slice A t.nodes.length c) by rw [hcl]; rfl)
  have C2 := Lib.hid (show cl[2]? = some (.int .u32 (t.boot : Int)) by rw [hcl]; rfl)
  have i8 : (t.nodes.length : Int) ≤ 9223372036854775807 := by simp only [maxLen] at hl2; omega
  clear hr hT hse hl4 hl12 hbig hcl hlen hl1 hl2
  by_cases x1 : 1 ≤ t.boot
  rotate_left
  · have k1 : ((t.boot : Int) == 0) = true := by simp only [beq_iff_eq]; omega
    have HZ := Lib.hid (show ¬ MayT t from fun h => x1 h.boot1)
    clear x1
    go_enter Tryd.func28, Tryd.ntmps28
    go_wp2_with (first
      | ((with_reducible show wpList _ _ _ _ _ w); refine wpList_boxS rfl 30 _ rfl cl rfl ?_; intro g1 w1 hk1 hb1 hg1; go_frame; have D1 := Lib.hid hk1; have B1 := Lib.hid hb1; have q0 : w1.cell? ⟨g1, 0, none⟩ = some (.slice A t.nodes.length c) := hk1.cell 0 (by simpa using C0.out); have q2 : w1.cell? ⟨g1, 2, none⟩ = some (.int .u32 (t.boot : Int)) := hk1.cell 2 (by simpa using C2.out); clear hk1 hb1 hg1)
      | fail)
    go_ret
    exact ⟨false, by first | rfl | simp, ⟨fun h => (by cases h), fun h => absurd h HZ.out⟩, B1.out⟩
  have k1 : ((t.boot : Int) == 0) = false := by simp only [beq_eq_false_iff_ne, ne_eq]; omega
  by_cases x2 : t.boot ≤ 2147483648
  rotate_left
  · have k2 : (2147483648 : Int) < t.boot := by omega
    have HZ := Lib.hid (show ¬ MayT t from fun h => x2 h.boot2)
    clear x1 x2
    go_enter Tryd.func28, Tryd.ntmps28
    go_wp2_with (first
      | ((with_reducible show wpList _ _ _ _ _ w); refine wpList_boxS rfl 30 _ rfl cl rfl ?_; intro g1 w1 hk1 hb1 hg1; go_frame; have D1 := Lib.hid hk1; have B1 := Lib.hid hb1; have q0 : w1.cell? ⟨g1, 0, none⟩ = some (.slice A t.nodes.length c) := hk1.cell 0 (by simpa using C0.out); have q2 : w1.cell? ⟨g1, 2, none⟩ = some (.int .u32 (t.boot : Int)) := hk1.cell 2 (by simpa using C2.out); clear hk1 hb1 hg1)
      | fail)
    go_ret
    exact ⟨false, by first | rfl | simp, ⟨fun h => (by cases h), fun h => absurd h HZ.out⟩, B1.out⟩
  have k2 : ¬ (2147483648 : Int) < t.boot := by omega
  by_cases x3 : 0 < t.nodes.length
  rotate_left
  · have k3 : ((t.nodes.length : Int) == 0) = true := by simp only [beq_iff_eq]; omega
    have HZ := Lib.hid (show ¬ MayT t from fun h => x3 (root_first h).1)
    clear x1 x2 x3
    go_enter Tryd.func28, Tryd.ntmps28
    go_wp2_with (first
      | ((with_reducible show wpList _ _ _ _ _ w); refine wpList_boxS rfl 30 _ rfl cl rfl ?_; intro g1 w1 hk1 hb1 hg1; go_frame; have D1 := Lib.hid hk1; have B1 := Lib.hid hb1; have q0 : w1.cell? ⟨g1, 0, none⟩ = some (.slice A t.nodes.length c) := hk1.cell 0 (by simpa using C0.out); have q2 : w1.cell? ⟨g1, 2, none⟩ = some (.int .u32 (t.boot : Int)) := hk1.cell 2 (by simpa using C2.out); clear hk1 hb1 hg1)
      | fail)
    go_ret
    exact ⟨false, by first | rfl | simp, ⟨fun h => (by cases h), fun h => absurd h HZ.out⟩, B1.out⟩
  have k3 : ((t.nodes.length : Int) == 0) = false := by simp only [beq_eq_false_iff_ne, ne_eq]; omega
  by_cases x4 : t.nodes.length ≤ 64
  rotate_left
  · have k4 : (64 : Int) < t.nodes.length := by omega
    have HZ := Lib.hid (show ¬ MayT t from fun h => x4 h.many)
    clear x1 x2 x4
    go_enter Tryd.func28, Tryd.ntmps28
    go_wp2_with (first
      | ((with_reducible show wpList _ _ _ _ _ w); refine wpList_boxS rfl 30 _ rfl cl rfl ?_; intro g1 w1 hk1 hb1 hg1; go_frame; have D1 := Lib.hid hk1; have B1 := Lib.hid hb1; have q0 : w1.cell? ⟨g1, 0, none⟩ = some (.slice A t.nodes.length c) := hk1.cell 0 (by simpa using C0.out); have q2 : w1.cell? ⟨g1, 2, none⟩ = some (.int .u32 (t.boot : Int)) := hk1.cell 2 (by simpa using C2.out); clear hk1 hb1 hg1)
      | fail)
    go_ret
    exact ⟨false, by first | rfl | simp, ⟨fun h => (by cases h), fun h => absurd h HZ.out⟩, B1.out⟩
  have k4 : ¬ (64 : Int) < t.nodes.length := by omega
  obtain ⟨b, off, xs, rfl, hnd, hat⟩ := HR.out.get 0 x3
  obtain ⟨r, hr⟩ : ∃ r, r = t.nodes[0] := ⟨_, rfl⟩
  rw [← hr] at hnd
  have X := Lib.hid (show xs[0]? = some (.int .u32 (r.ino : Int)) ∧ xs[1]? = some (.int .u32 (r.gen : Int)) ∧ xs[2]? = some (.bool r.dir) by
    obtain ⟨dv, ev, e, -⟩ := hnd
    rw [e]
    exact ⟨rfl, rfl, rfl⟩)
  have HXL := Lib.hid (show xs.length = 6 from hnd.len)
  have HAT := Lib.hid (show At w b off xs by have := hat; rwa [Nat.zero_mul, Nat.add_zero] at this)
  have HXO := Lib.hid hnd.one
  have HRT := Lib.hid (show MayT t → r.ino = 1 ∧ r.gen = 1 ∧ r.dir = true from fun h => by rw [hr]; exact may_root h x3)
  have HR0 := Lib.hid (show (r.ino = 1 ∧ r.gen = 1 ∧ r.dir = true) → ∃ h : 0 < t.nodes.length, t.nodes[0].ino = 1 ∧ t.nodes[0].gen = 1 ∧ t.nodes[0].dir = true from fun h => ⟨x3, by rw [hr] at h; exact h⟩)
  have HX1 := Lib.hid x1
  have HX2 := Lib.hid x2
  have HX4 := Lib.hid x4
  clear hr hnd hat x1 x2 x4
  by_cases x5 : r.ino = 1
  rotate_left
  · have k5 : ((r.ino : Int) == 1) = false := by simp only [beq_eq_false_iff_ne, ne_eq]; omega
    have HZ := Lib.hid (show ¬ MayT t from fun h => x5 (HRT.out h).1)
    clear x5
    go_enter Tryd.func28, Tryd.ntmps28
    go_wp2_with (first
      | ((with_reducible show wpList _ _ _ _ _ w); refine wpList_boxS rfl 30 _ rfl cl rfl ?_; intro g1 w1 hk1 hb1 hg1; go_frame; have D1 := Lib.hid hk1; have B1 := Lib.hid hb1; have q0 : w1.cell? ⟨g1, 0, none⟩ = some (.slice (some ⟨b, off, none⟩) t.nodes.length c) := hk1.cell 0 (by simpa using C0.out); have q2 : w1.cell? ⟨g1, 2, none⟩ = some (.int .u32 (t.boot : Int)) := hk1.cell 2 (by simpa using C2.out); have A1 := Lib.hid (At.tz HAT.out hb1); clear hk1 hb1 hg1)
      | ((with_reducible show wpList _ _ _ _ _ w1); refine wpList_load_agg rfl 48 _ rfl b off rfl xs A1.out _ Tryd.underlying48 rfl (by rw [HXL.out]; exact infoNode) ?_; go_frame)
      | ((with_reducible show wpList _ _ _ _ _ w1); refine wpList_allocS rfl 48 rfl nodeZ nodeZero ?_; intro g3 w3 hk1 hb1 hg1; go_frame; have C5 := Lib.hid hk1; have B5 := Lib.hid hb1; have G5 := Lib.hid hg1; clear hk1 hb1 hg1 q2)
      | ((with_reducible show wpList _ _ _ _ _ w3); refine wpList_storeS rfl 48 _ _ rfl g3 rfl xs nodeZ rfl C5.out (by rw [HXL.out]; rfl) HXO.out (by rw [HXL.out]; exact infoNode) ?_; intro w4 hk2 ht2; go_frame; have hb4 : Below w1.heap.size w1 w4 := below_turn B5.out ht2 B5.out.size G5.out; have B4 := Lib.hid (below_chain B1.out hb4); have D4 := Lib.hid (D1.out.below hb4 D1.out.lt); have p0 : w4.cell? ⟨g3, 0, none⟩ = some (.int .u32 (r.ino : Int)) := hk2.cell 0 (by simpa using X.out.1); have p1 : w4.cell? ⟨g3, 1, none⟩ = some (.int .u32 (r.gen : Int)) := hk2.cell 1 (by simpa using X.out.2.1); have p2 : w4.cell? ⟨g3, 2, none⟩ = some (.bool r.dir) := hk2.cell 2 (by simpa using X.out.2.2); have q0 : w4.cell? ⟨g1, 0, none⟩ = some (.slice (some ⟨b, off, none⟩) t.nodes.length c) := D4.out.cell 0 (by simpa using C0.out); clear hk2 ht2 hb4)
      | fail)
    go_ret
    exact ⟨false, by first | rfl | simp, ⟨fun h => (by cases h), fun h => absurd h HZ.out⟩, B4.out⟩
  have k5 : ((r.ino : Int) == 1) = true := by simp only [beq_iff_eq]; omega
  by_cases x6 : r.gen = 1
  rotate_left
  · have k6 : ((r.gen : Int) == 1) = false := by simp only [beq_eq_false_iff_ne, ne_eq]; omega
    have HZ := Lib.hid (show ¬ MayT t from fun h => x6 (HRT.out h).2.1)
    clear x5 x6
    go_enter Tryd.func28, Tryd.ntmps28
    go_wp2_with (first
      | ((with_reducible show wpList _ _ _ _ _ w); refine wpList_boxS rfl 30 _ rfl cl rfl ?_; intro g1 w1 hk1 hb1 hg1; go_frame; have D1 := Lib.hid hk1; have B1 := Lib.hid hb1; have q0 : w1.cell? ⟨g1, 0, none⟩ = some (.slice (some ⟨b, off, none⟩) t.nodes.length c) := hk1.cell 0 (by simpa using C0.out); have q2 : w1.cell? ⟨g1, 2, none⟩ = some (.int .u32 (t.boot : Int)) := hk1.cell 2 (by simpa using C2.out); have A1 := Lib.hid (At.tz HAT.out hb1); clear hk1 hb1 hg1)
      | ((with_reducible show wpList _ _ _ _ _ w1); refine wpList_load_agg rfl 48 _ rfl b off rfl xs A1.out _ Tryd.underlying48 rfl (by rw [HXL.out]; exact infoNode) ?_; go_frame)
      | ((with_reducible show wpList _ _ _ _ _ w1); refine wpList_allocS rfl 48 rfl nodeZ nodeZero ?_; intro g3 w3 hk1 hb1 hg1; go_frame; have C5 := Lib.hid hk1; have B5 := Lib.hid hb1; have G5 := Lib.hid hg1; clear hk1 hb1 hg1 q2)
      | ((with_reducible show wpList _ _ _ _ _ w3); refine wpList_storeS rfl 48 _ _ rfl g3 rfl xs nodeZ rfl C5.out (by rw [HXL.out]; rfl) HXO.out (by rw [HXL.out]; exact infoNode) ?_; intro w4 hk2 ht2; go_frame; have hb4 : Below w1.heap.size w1 w4 := below_turn B5.out ht2 B5.out.size G5.out; have B4 := Lib.hid (below_chain B1.out hb4); have D4 := Lib.hid (D1.out.below hb4 D1.out.lt); have p0 : w4.cell? ⟨g3, 0, none⟩ = some (.int .u32 (r.ino : Int)) := hk2.cell 0 (by simpa using X.out.1); have p1 : w4.cell? ⟨g3, 1, none⟩ = some (.int .u32 (r.gen : Int)) := hk2.cell 1 (by simpa using X.out.2.1); have p2 : w4.cell? ⟨g3, 2, none⟩ = some (.bool r.dir) := hk2.cell 2 (by simpa using X.out.2.2); have q0 : w4.cell? ⟨g1, 0, none⟩ = some (.slice (some ⟨b, off, none⟩) t.nodes.length c) := D4.out.cell 0 (by simpa using C0.out); clear hk2 ht2 hb4)
      | fail)
    go_ret
    exact ⟨false, by first | rfl | simp, ⟨fun h => (by cases h), fun h => absurd h HZ.out⟩, B4.out⟩
  have k6 : ((r.gen : Int) == 1) = true := by simp only [beq_iff_eq]; omega
  by_cases x7 : r.dir = true
  rotate_left
  · have k7 : r.dir = false := by simpa using x7
    have HZ := Lib.hid (show ¬ MayT t from fun h => x7 (HRT.out h).2.2)
    clear x5 x6 x7
    go_enter Tryd.func28, Tryd.ntmps28
    go_wp2_with (first
      | ((with_reducible show wpList _ _ _ _ _ w); refine wpList_boxS rfl 30 _ rfl cl rfl ?_; intro g1 w1 hk1 hb1 hg1; go_frame; have D1 := Lib.hid hk1; have B1 := Lib.hid hb1; have q0 : w1.cell? ⟨g1, 0, none⟩ = some (.slice (some ⟨b, off, none⟩) t.nodes.length c) := hk1.cell 0 (by simpa using C0.out); have q2 : w1.cell? ⟨g1, 2, none⟩ = some (.int .u32 (t.boot : Int)) := hk1.cell 2 (by simpa using C2.out); have A1 := Lib.hid (At.tz HAT.out hb1); clear hk1 hb1 hg1)
      | ((with_reducible show wpList _ _ _ _ _ w1); refine wpList_load_agg rfl 48 _ rfl b off rfl xs A1.out _ Tryd.underlying48 rfl (by rw [HXL.out]; exact infoNode) ?_; go_frame)
      | ((with_reducible show wpList _ _ _ _ _ w1); refine wpList_allocS rfl 48 rfl nodeZ nodeZero ?_; intro g3 w3 hk1 hb1 hg1; go_frame; have C5 := Lib.hid hk1; have B5 := Lib.hid hb1; have G5 := Lib.hid hg1; clear hk1 hb1 hg1 q2)
      | ((with_reducible show wpList _ _ _ _ _ w3); refine wpList_storeS rfl 48 _ _ rfl g3 rfl xs nodeZ rfl C5.out (by rw [HXL.out]; rfl) HXO.out (by rw [HXL.out]; exact infoNode) ?_; intro w4 hk2 ht2; go_frame; have hb4 : Below w1.heap.size w1 w4 := below_turn B5.out ht2 B5.out.size G5.out; have B4 := Lib.hid (below_chain B1.out hb4); have D4 := Lib.hid (D1.out.below hb4 D1.out.lt); have p0 : w4.cell? ⟨g3, 0, none⟩ = some (.int .u32 (r.ino : Int)) := hk2.cell 0 (by simpa using X.out.1); have p1 : w4.cell? ⟨g3, 1, none⟩ = some (.int .u32 (r.gen : Int)) := hk2.cell 1 (by simpa using X.out.2.1); have p2 : w4.cell? ⟨g3, 2, none⟩ = some (.bool r.dir) := hk2.cell 2 (by simpa using X.out.2.2); have q0 : w4.cell? ⟨g1, 0, none⟩ = some (.slice (some ⟨b, off, none⟩) t.nodes.length c) := D4.out.cell 0 (by simpa using C0.out); clear hk2 ht2 hb4)
      | fail)
    go_ret
    exact ⟨false, by first | rfl | simp, ⟨fun h => (by cases h), fun h => absurd h HZ.out⟩, B4.out⟩
  have HRR := Lib.hid (HR0.out ⟨x5, x6, x7⟩)
  have k7 := x7
  clear x5 x6 x7
  go_enter Tryd.func28, Tryd.ntmps28
  go_wp2_with (first
    | ((with_reducible show wpList _ _ _ _ _ w); refine wpList_boxS rfl 30 _ rfl cl rfl ?_; intro g1 w1 hk1 hb1 hg1; go_frame; have D1 := Lib.hid hk1; have B1 := Lib.hid hb1; have q0 : w1.cell? ⟨g1, 0, none⟩ = some (.slice (some ⟨b, off, none⟩) t.nodes.length c) := hk1.cell 0 (by simpa using C0.out); have q2 : w1.cell? ⟨g1, 2, none⟩ = some (.int .u32 (t.boot : Int)) := hk1.cell 2 (by simpa using C2.out); have A1 := Lib.hid (At.tz HAT.out hb1); clear hk1 hb1 hg1)
    | ((with_reducible show wpList _ _ _ _ _ w1); refine wpList_load_agg rfl 48 _ rfl b off rfl xs A1.out _ Tryd.underlying48 rfl (by rw [HXL.out]; exact infoNode) ?_; go_frame)
    | ((with_reducible show wpList _ _ _ _ _ w1); refine wpList_allocS rfl 48 rfl nodeZ nodeZero ?_; intro g3 w3 hk1 hb1 hg1; go_frame; have C5 := Lib.hid hk1; have B5 := Lib.hid hb1; have G5 := Lib.hid hg1; clear hk1 hb1 hg1 q2)
    | ((with_reducible show wpList _ _ _ _ _ w3); refine wpList_storeS rfl 48 _ _ rfl g3 rfl xs nodeZ rfl C5.out (by rw [HXL.out]; rfl) HXO.out (by rw [HXL.out]; exact infoNode) ?_; intro w4 hk2 ht2; go_frame; have hb4 : Below w1.heap.size w1 w4 := below_turn B5.out ht2 B5.out.size G5.out; have B4 := Lib.hid (below_chain B1.out hb4); have D4 := Lib.hid (D1.out.below hb4 D1.out.lt); have p0 : w4.cell? ⟨g3, 0, none⟩ = some (.int .u32 (r.ino : Int)) := hk2.cell 0 (by simpa using X.out.1); have p1 : w4.cell? ⟨g3, 1, none⟩ = some (.int .u32 (r.gen : Int)) := hk2.cell 1 (by simpa using X.out.2.1); have p2 : w4.cell? ⟨g3, 2, none⟩ = some (.bool r.dir) := hk2.cell 2 (by simpa using X.out.2.2); have q0 : w4.cell? ⟨g1, 0, none⟩ = some (.slice (some ⟨b, off, none⟩) t.nodes.length c) := D4.out.cell 0 (by simpa using C0.out); clear hk2 ht2 hb4)
    | fail)
  refine (rise_ndB t.nodes (some ⟨b, off, none⟩) c F w4 (by have := HX4.out; omega) (HR.out.below B4.out)).mono ?_
  rintro e w5 ⟨b1, rfl, hs, hb⟩
  have HS := Lib.hid hs
  have B5' := Lib.hid (below_chain B4.out hb)
  have D5 := Lib.hid (D4.out.below hb D4.out.lt)
  clear hb p0 p1 p2 q0 hs
  cases b1
  · go_wp2_with fail
    go_ret
    exact ⟨false, by first | rfl | simp, ⟨fun h => (by cases h), fun h => (by have := HS.out.2 h.rise; cases this)⟩, B5'.out⟩
  go_wp2_with (first
    | ((with_reducible show wpList _ _ _ _ _ w5); refine wpList_loadA (by rfl) 30 _ rfl g1 0 rfl cl (At.whole D5.out) _ Tryd.underlying30 rfl (by rw [HLN.out]; exact infoTree) ?_; go_frame)
    | fail)
  refine (mayNodes_vB t cl F w5 (HT.out.below B5'.out) (HTR.out.below B5'.out) HX4.out).mono ?_
  rintro e w6 ⟨b2, rfl, hg, hb⟩
  have HG := Lib.hid hg
  have B6 := Lib.hid (below_chain B5'.out hb)
  have q0 : w6.cell? ⟨g1, 0, none⟩ = some (.slice (some ⟨b, off, none⟩) t.nodes.length c) := (D5.out.below hb D5.out.lt).cell 0 (by simpa using C0.out)
  clear hb hg
  cases b2
  · go_wp2_with fail
    go_ret
    exact ⟨false, by first | rfl | simp, ⟨fun h => (by cases h), fun h => (by have := HG.out.2 (may_good h); cases this)⟩, B6.out⟩
  have HGG := Lib.hid (HG.out.1 (by trivial))
  have HSS := Lib.hid (HS.out.1 (by trivial))
  clear HS HG
  go_wp2_with fail
  refine (isOnePiece_vB t (some ⟨b, off, none⟩) c F w6 HSS.out HX4.out (fun n hn => hold_many (HGG.out.each n hn).hold) (HR.out.below B6.out)).mono ?_
  rintro e w7 ⟨b3, rfl, h1, h2, hb⟩
  have H1 := Lib.hid h1
  have H2 := Lib.hid h2
  have B7 := Lib.hid (below_chain B6.out hb)
  clear hb q0 h1 h2
  cases b3
  · go_wp2_with fail
    go_ret
    exact ⟨false, by first | rfl | simp, ⟨fun h => (by cases h), fun h => (by have := H2.out h; cases this)⟩, B7.out⟩
  · have HP := Lib.hid (H1.out (by trivial))
    clear H1 H2
    go_wp2_with fail
    go_ret
    exact ⟨true, by first | rfl | simp, ⟨fun _ => may_ofB HX1.out HX2.out HX4.out HRR.out HSS.out HGG.out HP.out, fun _ => rfl⟩, B7.out⟩

end Go.Proofs.YtdhlejhflkfoaaaDoor
/- A tree's four sessions, in a row of cells. -/
namespace Go.Proofs.YtdhlejhflkfoaaaDoor
open Go.RowKit Go.Shelf
set_option linter.unusedVariables false
set_option maxRecDepth 100000
set_option linter.unusedSimpArgs false

theorem infoSes4 : (Tryd.prog.info? 28).map (·.size) = some 12 := by kernel_rfl
theorem infoSesT : (Tryd.prog.info? 27).map (·.size) = some 3 := by kernel_rfl
def sesZ : List Value := [.int .u32 0, .int .u64 0, .slice none 0 0]
theorem sesZero (w : World) : (zeroValue 27).run Tryd.prog w = .ok (.agg sesZ.toArray) w := by kernel_rfl
def ses12 (x0 x1 x2 x3 : Nat × Nat × List UInt8) (a0 a1 a2 a3 : Value) : List Value := [.int .u32 (x0.1 : Int), .int .u64 (x0.2.1 : Int), a0, .int .u32 (x1.1 : Int), .int .u64 (x1.2.1 : Int), a1, .int .u32 (x2.1 : Int), .int .u64 (x2.2.1 : Int), a2, .int .u32 (x3.1 : Int), .int .u64 (x3.2.1 : Int), a3]
theorem idx_ses0 (x0 x1 x2 x3 : Nat × Nat × List UInt8) (a0 a1 a2 a3 : Value) (W : World) : (Instr.index 28 (.agg (ses12 x0 x1 x2 x3 a0 a1 a2 a3).toArray) (.int .i64 0)).run Tryd.prog W = .ok (.agg (sesC x0 a0).toArray) W := by
  first
    | rfl
    | kernel_rfl
    | (unfold ses12 sesC; go_simp; done)
    | (unfold ses12 sesC; simp [Instr.index]; done)
theorem idx_ses1 (x0 x1 x2 x3 : Nat × Nat × List UInt8) (a0 a1 a2 a3 : Value) (W : World) : (Instr.index 28 (.agg (ses12 x0 x1 x2 x3 a0 a1 a2 a3).toArray) (.int .i64 1)).run Tryd.prog W = .ok (.agg (sesC x1 a1).toArray) W := by
  first
    | rfl
    | kernel_rfl
    | (unfold ses12 sesC; go_simp; done)
    | (unfold ses12 sesC; simp [Instr.index]; done)
theorem idx_ses2 (x0 x1 x2 x3 : Nat × Nat × List UInt8) (a0 a1 a2 a3 : Value) (W : World) : (Instr.index 28 (.agg (ses12 x0 x1 x2 x3 a0 a1 a2 a3).toArray) (.int .i64 2)).run Tryd.prog W = .ok (.agg (sesC x2 a2).toArray) W := by
  first
    | rfl
    | kernel_rfl
    | (unfold ses12 sesC; go_simp; done)
    | (unfold ses12 sesC; simp [Instr.index]; done)
theorem idx_ses3 (x0 x1 x2 x3 : Nat × Nat × List UInt8) (a0 a1 a2 a3 : Value) (W : World) : (Instr.index 28 (.agg (ses12 x0 x1 x2 x3 a0 a1 a2 a3).toArray) (.int .i64 3)).run Tryd.prog W = .ok (.agg (sesC x3 a3).toArray) W := by
  first
    | rfl
    | kernel_rfl
    | (unfold ses12 sesC; go_simp; done)
    | (unfold ses12 sesC; simp [Instr.index]; done)
theorem ses_sub0 (x0 x1 x2 x3 : Nat × Nat × List UInt8) (b0 b1 b2 b3 : Value) : ∀ j v, (sesC x0 b0)[j]? = some v → (ses12 x0 x1 x2 x3 b0 b1 b2 b3)[0 + j]? = some v := by
  intro j v h
  match j with
  | 0 => exact h
  | 1 => exact h
  | 2 => exact h
  | j + 3 => simp [sesC] at h
theorem ses_sub1 (x0 x1 x2 x3 : Nat × Nat × List UInt8) (b0 b1 b2 b3 : Value) : ∀ j v, (sesC x1 b1)[j]? = some v → (ses12 x0 x1 x2 x3 b0 b1 b2 b3)[3 + j]? = some v := by
  intro j v h
  match j with
  | 0 => exact h
  | 1 => exact h
  | 2 => exact h
  | j + 3 => simp [sesC] at h
theorem ses_sub2 (x0 x1 x2 x3 : Nat × Nat × List UInt8) (b0 b1 b2 b3 : Value) : ∀ j v, (sesC x2 b2)[j]? = some v → (ses12 x0 x1 x2 x3 b0 b1 b2 b3)[6 + j]? = some v := by
  intro j v h
  match j with
  | 0 => exact h
  | 1 => exact h
  | 2 => exact h
  | j + 3 => simp [sesC] at h
theorem ses_sub3 (x0 x1 x2 x3 : Nat × Nat × List UInt8) (b0 b1 b2 b3 : Value) : ∀ j v, (sesC x3 b3)[j]? = some v → (ses12 x0 x1 x2 x3 b0 b1 b2 b3)[9 + j]? = some v := by
  intro j v h
  match j with
  | 0 => exact h
  | 1 => exact h
  | 2 => exact h
  | j + 3 => simp [sesC] at h

end Go.Proofs.YtdhlejhflkfoaaaDoor
/- The program: whether a tree is whole. -/
namespace Go.Proofs.YtdhlejhflkfoaaaDoor
open Go.RowKit Go.Shelf
set_option linter.unusedVariables false
set_option maxRecDepth 100000
set_option linter.unusedSimpArgs false

set_option maxHeartbeats 4000000 in
theorem isNoSession_v (s : Ses) (v : Value) (F : Nat → Prop) (w : World) (h : BsV w F v s.2.2) :
    Calls Tryd.prog 30 #[.agg (sesC s v).toArray] w fun e w' => TellsB (¬ SesOk s) w e w' := by
  obtain ⟨inc, seq, back⟩ := s
  obtain ⟨A, c, rfl, -, -, hl1, hl2⟩ := h
  dsimp only at *
  have i8 : (back.length : Int) ≤ 9223372036854775807 := by simp only [maxLen] at hl2; omega
  obtain ⟨cl, hcl⟩ : ∃ cl, cl = sesC (inc, seq, back) (.slice A back.length c) := ⟨_, rfl⟩
  have K0 := Lib.hid (show cl[0]? = some (.int .u32 (inc : Int)) by rw [hcl]; rfl)
  have K1 := Lib.hid (show cl[1]? = some (.int .u64 (seq : Int)) by rw [hcl]; rfl)
  have K2 := Lib.hid (show cl[2]? = some (.slice A back.length c) by rw [hcl]; rfl)
  have KL := Lib.hid (show cl.length = 3 by rw [hcl]; rfl)
  rw [← hcl]
  clear hcl hl1 hl2
  by_cases x1 : back.length ≤ 4096
  · have i1 : ¬ (4096 : Int) < back.length := by omega
    by_cases x2 : inc = 0
    · have i2 : ((inc : Int) == 0) = true := by simp only [beq_iff_eq]; omega
      by_cases x3 : seq = 0
      · have i3 : ((seq : Int) != 0) = false := by simp [x3]
        by_cases x4 : back.length = 0
        · obtain rfl : back = [] := List.eq_nil_of_length_eq_zero x4
          have HZ := Lib.hid (show SesOk (inc, seq, []) from ⟨x1, fun _ => ⟨x3, rfl⟩⟩)
          clear x1 x2 x3 x4
          go_enter Tryd.func30, Tryd.ntmps30
          go_wp2_with (first
            | ((with_reducible show wpList _ _ _ _ _ w); refine wpList_boxS rfl 27 _ rfl cl rfl ?_; intro g1 w1 hk1 hb1 hg1; go_frame; have q0 : w1.cell? ⟨g1, 0, none⟩ = some (.int .u32 (inc : Int)) := hk1.cell 0 (by simpa using K0.out); have q1 : w1.cell? ⟨g1, 1, none⟩ = some (.int .u64 (seq : Int)) := hk1.cell 1 (by simpa using K1.out); have q2 : w1.cell? ⟨g1, 2, none⟩ = some (.slice A 0 c) := hk1.cell 2 (by simpa using K2.out); have B1 := Lib.hid hb1; clear hk1 hb1 hg1)
            | fail)
          go_ret
          exact ⟨false, by first | rfl | simp, ⟨fun h => (by cases h), fun h => absurd HZ.out h⟩, B1.out⟩
        · have i4 : (0 : Int) < back.length := by omega
          have i5 : 0 < back.length := by omega
          have HZ := Lib.hid (show ¬ SesOk (inc, seq, back) from fun h => x4 (by rw [show back = [] from (h.2 x2).2]; rfl))
          clear x1 x2 x3 x4
          go_enter Tryd.func30, Tryd.ntmps30
          go_wp2_with (first
            | ((with_reducible show wpList _ _ _ _ _ w); refine wpList_boxS rfl 27 _ rfl cl rfl ?_; intro g1 w1 hk1 hb1 hg1; go_frame; have q0 : w1.cell? ⟨g1, 0, none⟩ = some (.int .u32 (inc : Int)) := hk1.cell 0 (by simpa using K0.out); have q1 : w1.cell? ⟨g1, 1, none⟩ = some (.int .u64 (seq : Int)) := hk1.cell 1 (by simpa using K1.out); have q2 : w1.cell? ⟨g1, 2, none⟩ = some (.slice A back.length c) := hk1.cell 2 (by simpa using K2.out); have B1 := Lib.hid hb1; clear hk1 hb1 hg1)
            | fail)
          go_ret
          exact ⟨true, by first | rfl | simp, ⟨fun _ => HZ.out, fun _ => rfl⟩, B1.out⟩
      · have i3 : ((seq : Int) != 0) = true := by simp; omega
        have HZ := Lib.hid (show ¬ SesOk (inc, seq, back) from fun h => x3 (h.2 x2).1)
        clear x1 x2 x3
        go_enter Tryd.func30, Tryd.ntmps30
        go_wp2_with (first
          | ((with_reducible show wpList _ _ _ _ _ w); refine wpList_boxS rfl 27 _ rfl cl rfl ?_; intro g1 w1 hk1 hb1 hg1; go_frame; have q0 : w1.cell? ⟨g1, 0, none⟩ = some (.int .u32 (inc : Int)) := hk1.cell 0 (by simpa using K0.out); have q1 : w1.cell? ⟨g1, 1, none⟩ = some (.int .u64 (seq : Int)) := hk1.cell 1 (by simpa using K1.out); have q2 : w1.cell? ⟨g1, 2, none⟩ = some (.slice A back.length c) := hk1.cell 2 (by simpa using K2.out); have B1 := Lib.hid hb1; clear hk1 hb1 hg1)
          | fail)
        go_ret
        exact ⟨true, by first | rfl | simp, ⟨fun _ => HZ.out, fun _ => rfl⟩, B1.out⟩
    · have i2 : ((inc : Int) == 0) = false := by simp only [beq_eq_false_iff_ne, ne_eq]; omega
      have HZ := Lib.hid (show SesOk (inc, seq, back) from ⟨x1, fun h => absurd h x2⟩)
      clear x1 x2
      go_enter Tryd.func30, Tryd.ntmps30
      go_wp2_with (first
        | ((with_reducible show wpList _ _ _ _ _ w); refine wpList_boxS rfl 27 _ rfl cl rfl ?_; intro g1 w1 hk1 hb1 hg1; go_frame; have q0 : w1.cell? ⟨g1, 0, none⟩ = some (.int .u32 (inc : Int)) := hk1.cell 0 (by simpa using K0.out); have q1 : w1.cell? ⟨g1, 1, none⟩ = some (.int .u64 (seq : Int)) := hk1.cell 1 (by simpa using K1.out); have q2 : w1.cell? ⟨g1, 2, none⟩ = some (.slice A back.length c) := hk1.cell 2 (by simpa using K2.out); have B1 := Lib.hid hb1; clear hk1 hb1 hg1)
        | fail)
      go_ret
      exact ⟨false, by first | rfl | simp, ⟨fun h => (by cases h), fun h => absurd HZ.out h⟩, B1.out⟩
  · have i1 : (4096 : Int) < back.length := by omega
    have HZ := Lib.hid (show ¬ SesOk (inc, seq, back) from fun h => x1 h.1)
    clear x1
    go_enter Tryd.func30, Tryd.ntmps30
    go_wp2_with (first
      | ((with_reducible show wpList _ _ _ _ _ w); refine wpList_boxS rfl 27 _ rfl cl rfl ?_; intro g1 w1 hk1 hb1 hg1; go_frame; have q0 : w1.cell? ⟨g1, 0, none⟩ = some (.int .u32 (inc : Int)) := hk1.cell 0 (by simpa using K0.out); have q1 : w1.cell? ⟨g1, 1, none⟩ = some (.int .u64 (seq : Int)) := hk1.cell 1 (by simpa using K1.out); have q2 : w1.cell? ⟨g1, 2, none⟩ = some (.slice A back.length c) := hk1.cell 2 (by simpa using K2.out); have B1 := Lib.hid hb1; clear hk1 hb1 hg1)
      | fail)
    go_ret
    exact ⟨true, by first | rfl | simp, ⟨fun _ => HZ.out, fun _ => rfl⟩, B1.out⟩
/-- four sessions, cell by cell, from b on -/
structure Four (w : World) (F : Nat → Prop) (b off : Nat) (l : List Ses) : Prop where
  len : l.length = 4
  at1 : ∀ k (h : k < l.length), ∃ v, At w b (off + k * 3) (sesC l[k] v) ∧ BsV w F v l[k].2.2
theorem Four.below {w w' : World} {F : Nat → Prop} {b off : Nat} {l : List Ses} (h : Four w F b off l) (hb : Below w.heap.size w w') : Four w' F b off l :=
  ⟨h.len, fun k hk => by obtain ⟨v, h1, h2⟩ := h.at1 k hk; exact ⟨v, At.tz h1 hb, h2.below hb⟩⟩
def NoSesRet (l : List Ses) (w : World) (e : Ending) (w' : World) : Prop := ∃ i : Int, e = .returned (.int .i64 i) ∧ -1 ≤ i ∧ i ≤ 4 ∧ (i = -1 ↔ ∀ s ∈ l, SesOk s) ∧ Below w.heap.size w w'
set_option maxHeartbeats 4000000 in
theorem noSes_i (l : List Ses) (b off c : Nat) (F : Nat → Prop) (w : World) (h : Four w F b off l) :
    Calls Tryd.prog 53 #[.slice (some ⟨b, off, none⟩) 4 c, .func (.func 30) #[] #[]] w fun e w' => NoSesRet l w e w' := by
  have HF := Lib.hid h
  have HL := Lib.hid h.len
  clear h
  go_enter Tryd.func53, Tryd.ntmps53
  go_wp2
  go_loopw [8] (fun j wr => ∃ k : Nat, j = .int .i64 k ∧ k ≤ 4 ∧ (∀ s ∈ l.take k, SesOk s) ∧ Below w.heap.size w wr) (fun j _ => 4 - (RowKit.intOf j).toNat)
  case atStart => exact ⟨0, rfl, Nat.zero_le _, fun e he => by simp at he, Below.refl _ _⟩
  case round =>
    obtain ⟨k, rfl, hk, hpre, hB⟩ := hrel
    have HPRE := Lib.hid hpre
    have HB := Lib.hid hB
    by_cases hlt : k < 4
    · have hkl : k < l.length := by rw [HL.out]; exact hlt
      obtain ⟨v, hat, hbs⟩ := (HF.out.below hB).at1 k hkl
      have HAT := Lib.hid hat
      have HTK := Lib.hid (take_snoc hkl)
      have HMEM := Lib.hid (List.getElem_mem hkl)
      have HCX := Lib.hid (isNoSession_v l[k] v F wr hbs)
      generalize l[k] = x at *
      clear hat hbs hB hpre hkl
      go_wp2_with (first
        | ((with_reducible show wpList _ _ _ _ _ wr); refine wpList_load_agg rfl 27 _ rfl b (off + k * 3) rfl (sesC x v) HAT.out _ Tryd.underlying27 rfl infoSesT ?_; go_frame)
        | fail)
      refine HCX.out.mono ?_
      rintro e u1 ⟨q, rfl, hq, hb⟩
      have HQ := Lib.hid hq
      have B1 := Lib.hid (below_chain HB.out hb)
      clear hb hq
      cases q
      · have HOK := Lib.hid (show SesOk x from Classical.byContradiction fun h => by have := HQ.out.2 h; cases this)
        go_wp2_with fail
        go_roundw
        case rel => exact ⟨k + 1, by go_num, hlt, by rw [HTK.out]; intro e he; rw [List.mem_append, List.mem_singleton] at he; rcases he with he | rfl; exact HPRE.out e he; exact HOK.out, B1.out⟩
        case measure => simp [RowKit.intOf]; omega
      · have HNO := Lib.hid (show ¬ SesOk x from HQ.out.1 rfl)
        go_wp2_with fail
        go_ret
        exact ⟨(k : Int), rfl, by omega, by omega, ⟨fun h => by omega, fun h => absurd (h x HMEM.out) HNO.out⟩, B1.out⟩
    · have HALL := Lib.hid (show ∀ s ∈ l, SesOk s by
        have e1 : l.take k = l := List.take_of_length_le (by rw [HL.out]; omega)
        rw [e1] at hpre
        exact hpre)
      clear hB hpre
      go_wp2_with fail
      go_ret
      exact ⟨-1, rfl, by omega, by omega, ⟨fun _ => HALL.out, fun _ => rfl⟩, HB.out⟩
theorem noSes_c (l : List Ses) (b off c : Nat) (F : Nat → Prop) (w : World) (h : Four w F b off l) :
    Calls Tryd.prog 29 #[.slice (some ⟨b, off, none⟩) 4 c, .func (.func 30) #[] #[]] w fun e w' => TellsB (¬ ∀ s ∈ l, SesOk s) w e w' := by
  have HI := Lib.hid (noSes_i l b off c F w h)
  clear h
  go_enter Tryd.func29, Tryd.ntmps29
  go_wp2_with fail
  refine HI.out.mono ?_
  rintro e w1 ⟨i, rfl, h1, h2, hi, hb⟩
  have HX := Lib.hid hi
  have B1 := Lib.hid hb
  clear hb hi
  by_cases hz : i = -1
  · subst hz
    go_wp2_with fail
    go_ret
    exact ⟨false, by first | rfl | simp, ⟨fun h => (by cases h), fun h => absurd (HX.out.1 (by trivial)) h⟩, B1.out⟩
  · have h3 : 0 ≤ i := by omega
    have HNZ := Lib.hid hz
    clear hz h1
    go_wp2_with fail
    go_ret
    exact ⟨true, by first | rfl | simp, ⟨fun _ h => HNZ.out (HX.out.2 h), fun _ => rfl⟩, B1.out⟩
theorem four_of {w : World} {F : Nat → Prop} {cs : List Value} {t : Tr} (h : TrAt w F cs t) {u : World} {g : Nat} (hc : Cs u g 30 cs.toArray) (hb : Below w.heap.size w u) : Four u F g 4 t.sess := by
  obtain ⟨nv, ss, rfl, -, hse, hl4, hl12, -⟩ := h
  obtain ⟨x0, x1, x2, x3, a0, a1, a2, a3, he, rfl, h0, h1, h2, h3, -⟩ := hse.four hl4 hl12
  rw [show sesC x0 a0 ++ sesC x1 a1 ++ sesC x2 a2 ++ sesC x3 a3 = ses12 x0 x1 x2 x3 a0 a1 a2 a3 from rfl] at hc
  rw [he]
  refine ⟨rfl, fun k hk => ?_⟩
  rcases (show k = 0 ∨ k = 1 ∨ k = 2 ∨ k = 3 by simp at hk; omega) with rfl | rfl | rfl | rfl
  · exact ⟨a0, fun j v hv => hc.cell _ (by have := ses_sub0 x0 x1 x2 x3 a0 a1 a2 a3 j v hv; rw [Nat.zero_mul, Nat.add_zero, Nat.add_comm]; simpa using this), h0.below hb⟩
  · exact ⟨a1, fun j v hv => hc.cell _ (by have := ses_sub1 x0 x1 x2 x3 a0 a1 a2 a3 j v hv; rw [show 4 + 1 * 3 + j = (3 + j) + 4 by omega]; simpa using this), h1.below hb⟩
  · exact ⟨a2, fun j v hv => hc.cell _ (by have := ses_sub2 x0 x1 x2 x3 a0 a1 a2 a3 j v hv; rw [show 4 + 2 * 3 + j = (6 + j) + 4 by omega]; simpa using this), h2.below hb⟩
  · exact ⟨a3, fun j v hv => hc.cell _ (by have := ses_sub3 x0 x1 x2 x3 a0 a1 a2 a3 j v hv; rw [show 4 + 3 * 3 + j = (9 + j) + 4 by omega]; simpa using this), h3.below hb⟩
set_option maxHeartbeats 4000000 in
theorem Whole_v (t : Tr) (cs : List Value) (F : Nat → Prop) (w : World) (hT : Tabs w) (h : TrAt w F cs t) :
    Calls Tryd.prog 11 #[.agg cs.toArray] w fun e w' => TellsB (WholeT t) w e w' := by
  have HTR := Lib.hid h
  have HT := Lib.hid hT
  have HLN := Lib.hid h.len
  clear h hT
  go_enter Tryd.func11, Tryd.ntmps11
  go_wp2_with (first
    | ((with_reducible show wpList _ _ _ _ _ w); refine wpList_boxS rfl 30 _ rfl cs rfl ?_; intro g1 w1 hk1 hb1 hg1; go_frame; have C1 := Lib.hid hk1; have B1 := Lib.hid hb1; clear hk1 hb1 hg1)
    | ((with_reducible show wpList _ _ _ _ _ w1); refine wpList_loadS rfl 30 _ rfl g1 rfl cs C1.out _ Tryd.underlying30 rfl (by rw [HLN.out]; exact infoTree) ?_; go_frame)
    | fail)
  refine (May_vB t cs F w1 (HT.out.below B1.out) (HTR.out.below B1.out)).mono ?_
  rintro e w2 ⟨q, rfl, hq, hb⟩
  have HQ := Lib.hid hq
  have B2 := Lib.hid (below_chain B1.out hb)
  have C2 := Lib.hid (C1.out.below hb C1.out.lt)
  clear hq hb
  cases q
  · go_wp2_with fail
    go_ret
    exact ⟨false, by first | rfl | simp, ⟨fun h => (by cases h), fun h => (by have := HQ.out.2 h.may; cases this)⟩, B2.out⟩
  · have HM := Lib.hid (HQ.out.1 rfl)
    clear HQ
    go_wp2_with fail
    refine (noSes_c t.sess g1 4 4 F w2 (four_of HTR.out C2.out B2.out)).mono ?_
    rintro e w3 ⟨q, rfl, hq, hb⟩
    have HQ := Lib.hid hq
    have B3 := Lib.hid (below_chain B2.out hb)
    clear hq hb
    cases q
    · have HS := Lib.hid (show ∀ s ∈ t.sess, SesOk s from Classical.byContradiction fun h => by have := HQ.out.2 h; cases this)
      go_wp2_with fail
      go_ret
      exact ⟨true, by first | rfl | simp, ⟨fun _ => ⟨HM.out, HS.out⟩, fun _ => rfl⟩, B3.out⟩
    · have HS := Lib.hid (show ¬ ∀ s ∈ t.sess, SesOk s from HQ.out.1 rfl)
      go_wp2_with fail
      go_ret
      exact ⟨false, by first | rfl | simp, ⟨fun h => (by cases h), fun h => absurd h.ses HS.out⟩, B3.out⟩

end Go.Proofs.YtdhlejhflkfoaaaDoor
