/- SWEPT -/
import Derived.Test.YtdhlejhflkfoaaaDoorKB7
/- The program: under, from the root on, of whatever nodes are in order. -/
namespace Go.Proofs.YtdhlejhflkfoaaaDoor
open Go.RowKit Go.Shelf Go.Maps
set_option linter.unusedVariables false
set_option maxRecDepth 100000
set_option linter.unusedSimpArgs false

def kidsOf (l : List Nd) (y : Nat) : List Nat := match nodeT l y with
  | some n => kidsN n
  | none => []
theorem kidsOf_is {l : List Nd} (hs : SortN l) {n : Nd} (hn : n ∈ l) : kidsOf l n.ino = kidsN n := by
  unfold kidsOf
  rw [(nodeT_some hs).2 ⟨hn, rfl⟩]
/-- how far it has come: what is done, and what is ahead -/
structure UB (t : Tr) (D Q : List Nat) : Prop where
  nd : D.Nodup
  ino : ∀ y ∈ D, y ∈ inosL t.nodes
  un : ∀ y ∈ D ++ Q, Under t.nodes 1 y
  kids : D ++ Q = 1 :: D.flatMap (kidsOf t.nodes)
  may : MayT t → UI t.nodes 1 D Q
theorem UB.start (t : Tr) : UB t [] [1] := ⟨by simp, fun y h => (by cases h), fun y h => (by simp at h; subst h; exact .here), rfl, fun _ => UI.start _ _⟩
theorem UB.next {t : Tr} (hs : SortN t.nodes) {y : Nat} {D Q : List Nat} (h : UB t D (y :: Q)) {n : Nd} (hn : n ∈ t.nodes) (hy : n.ino = y) (hD : y ∉ D) : UB t (D ++ [y]) (Q ++ kidsN n) := by
  have e1 : (D ++ [y]) ++ (Q ++ kidsN n) = (D ++ y :: Q) ++ kidsN n := by simp
  refine ⟨?_, fun z hz => ?_, fun z hz => ?_, ?_, fun hm => (h.may hm).next hm hn hy⟩
  · rw [List.nodup_append]
    exact ⟨h.nd, by simp, fun a ha b hb e => by rw [List.mem_singleton] at hb; subst hb; subst e; exact hD ha⟩
  · rw [List.mem_append, List.mem_singleton] at hz
    rcases hz with hz | rfl
    · exact h.ino z hz
    · exact mem_inos.2 ⟨n, hn, hy⟩
  · rw [e1, List.mem_append] at hz
    rcases hz with hz | hz
    · exact h.un z hz
    · obtain ⟨e, he, rfl⟩ := List.mem_map.1 hz
      exact .step hn he (by rw [hy]; exact h.un y (by simp))
  · rw [e1, h.kids, List.flatMap_append, ← hy]
    simp [kidsOf_is hs hn]
theorem UB.len {t : Tr} {D Q : List Nat} (h : UB t D Q) : D.length ≤ t.nodes.length := by
  have := nodup_sub_le h.nd h.ino
  unfold inosL at this
  rwa [List.length_map] at this
theorem UB.more {t : Tr} {y : Nat} {D Q : List Nat} (h : UB t D Q) (hy : y ∈ inosL t.nodes) (hD : y ∉ D) : D.length < t.nodes.length := by
  have := nodup_sub_le (a := y :: D) (List.nodup_cons.2 ⟨hD, h.nd⟩) fun z hz => by
    rcases List.mem_cons.1 hz with rfl | hz
    · exact hy
    · exact h.ino z hz
  unfold inosL at this
  rwa [List.length_map] at this
theorem flat_len {f : Nat → List Nat} {k : Nat} (hf : ∀ y, (f y).length ≤ k) : ∀ l : List Nat, (l.flatMap f).length ≤ l.length * k
  | [] => by simp
  | x :: l => by
    have := flat_len hf l
    have := hf x
    rw [List.flatMap_cons, List.length_append, List.length_cons, Nat.succ_mul]
    omega
theorem UB.qlen {t : Tr} (hs : SortN t.nodes) (hk : ∀ n ∈ t.nodes, n.names.length ≤ 32) {D Q : List Nat} (h : UB t D Q) : (D ++ Q).length ≤ 1 + D.length * 32 := by
  rw [h.kids, List.length_cons]
  have := flat_len (f := kidsOf t.nodes) (k := 32) (fun y => by
    unfold kidsOf
    cases e : nodeT t.nodes y with
    | none => simp
    | some n => show (kidsN n).length ≤ 32; unfold kidsN; rw [List.length_map]; exact hk n ((nodeT_some hs).1 e).1) D
  omega
theorem UB.u32 {t : Tr} (hs : SortN t.nodes) (hk : ∀ n ∈ t.nodes, ∀ e ∈ n.names, e.2 < 4294967296) {D Q : List Nat} (h : UB t D Q) : ∀ y ∈ D ++ Q, y < 4294967296 := fun y hy => by
  rw [h.kids, List.mem_cons] at hy
  rcases hy with rfl | hy
  · decide
  · obtain ⟨z, -, hz⟩ := List.mem_flatMap.1 hy
    unfold kidsOf at hz
    cases e : nodeT t.nodes z with
    | none => rw [e] at hz; cases hz
    | some n =>
      rw [e] at hz
      obtain ⟨x, hx, rfl⟩ := List.mem_map.1 hz
      exact hk n ((nodeT_some hs).1 e).1 x hx
theorem root_in {t : Tr} (hm : MayT t) : 1 ∈ inosL t.nodes := by
  obtain ⟨x, h1, h2, -⟩ := hm.root
  exact mem_inos.2 ⟨x, h1, h2⟩
theorem UB.lost {t : Tr} {y : Nat} {D Q : List Nat} (h : UB t D (y :: Q)) (hy : y ∉ inosL t.nodes ∨ y ∈ D) : ¬ MayT t := fun hm => by
  rcases hy with hy | hy
  · exact hy ((h.may hm).ino hm (root_in hm) y (by simp))
  · exact (h.may hm).fresh hy
theorem perm_flat {f : Nat → List Nat} {a b : List Nat} (h : a.Perm b) : (a.flatMap f).Perm (b.flatMap f) := by
  induction h with
  | nil => exact List.Perm.refl _
  | cons x _ ih => rw [List.flatMap_cons, List.flatMap_cons]; exact ih.append_left _
  | swap x y l =>
    rw [List.flatMap_cons, List.flatMap_cons, List.flatMap_cons, List.flatMap_cons, ← List.append_assoc, ← List.append_assoc]
    exact List.perm_append_comm.append_right _
  | trans _ _ h1 h2 => exact h1.trans h2
/-- the names lead to each node but the root, once -/
structure PieceT (t : Tr) : Prop where
  once : ((entsL t.nodes).map (·.2)).Nodup
  noroot : 1 ∉ (entsL t.nodes).map (·.2)
  above : ∀ n ∈ t.nodes, Under t.nodes 1 n.ino
  inn : ∀ n ∈ t.nodes, ∀ e ∈ n.names, e.2 ∈ inosL t.nodes
theorem flat_inos {l : List Nd} (hs : SortN l) : ∀ k : List Nd, (∀ n ∈ k, n ∈ l) → (inosL k).flatMap (kidsOf l) = (entsL k).map (·.2)
  | [], _ => rfl
  | n :: k, h => by
    rw [entsL_cons, List.map_append, ← flat_inos hs k fun m hm => h m (List.mem_cons_of_mem _ hm)]
    show (n.ino :: inosL k).flatMap _ = _
    rw [List.flatMap_cons, kidsOf_is hs (h n (by simp))]
    rfl
theorem UB.over {t : Tr} (hs : SortN t.nodes) {D : List Nat} (h : UB t D []) (hl : D.length = t.nodes.length) : PieceT t := by
  have hnd : (inosL t.nodes).Nodup := (List.pairwise_map.2 hs).imp fun {a b} hab => by omega
  have hin : ∀ z ∈ inosL t.nodes, z ∈ D := fun z hz => Classical.byContradiction fun hd => by have := h.more hz hd; omega
  have hp : D.Perm (inosL t.nodes) := (List.perm_ext_iff_of_nodup h.nd hnd).2 fun z => ⟨h.ino z, hin z⟩
  have hk : (1 :: (entsL t.nodes).map (·.2)).Perm D := by
    have h1 := h.kids
    rw [List.append_nil] at h1
    rw [← flat_inos hs t.nodes fun n hn => hn]
    conv => rhs; rw [h1]
    exact (perm_flat hp.symm).cons 1
  have hn1 : (1 :: (entsL t.nodes).map (·.2)).Nodup := (hk.nodup_iff).2 h.nd
  rw [List.nodup_cons] at hn1
  refine ⟨hn1.2, hn1.1, fun n hn => h.un _ (by rw [List.append_nil]; exact hin _ (mem_inos.2 ⟨n, hn, rfl⟩)), fun n hn e he => h.ino _ (hk.mem_iff.1 (List.mem_cons_of_mem _ (kid_mem hn he)))⟩
theorem nd_u32 {w : World} {F : Nat → Prop} {A : Option Addr} {l : List Nd} (r : RdX nodeE w F A l) : ∀ n ∈ l, ∀ e ∈ n.names, e.2 < 4294967296 := fun n hn e he => by
  obtain ⟨i, hi, rfl⟩ := List.getElem_of_mem hn
  obtain ⟨b, off, cs, -, ⟨dv, ev, -, -, ⟨A2, c2, -, hr2, -⟩, -⟩, -⟩ := r.get i hi
  obtain ⟨j, hj, rfl⟩ := List.getElem_of_mem he
  obtain ⟨b3, off3, xs, -, ⟨-, hx32⟩, -⟩ := hr2.get j hj
  exact hx32
/-- what is beneath the root; or it is no tree that may be -/
def UnderB (t : Tr) (e : Ending) (w' : World) : Prop := (∃ mb D, e = .returned (.tuple #[.map (some mb), .bool true]) ∧ SetIs w' mb D ∧ UB t D []) ∨ (e = .returned (.tuple #[.map none, .bool false]) ∧ ¬ MayT t)
set_option maxHeartbeats 16000000 in
theorem under_vB (t : Tr) (A : Option Addr) (c : Nat) (F : Nat → Prop) (w : World) (hs : SortN t.nodes) (hl64 : t.nodes.length ≤ 64) (hk : ∀ n ∈ t.nodes, n.names.length ≤ 32) (r : RdX nodeE w F A t.nodes) :
    Calls Tryd.prog 71 #[.slice A t.nodes.length c, .int .u32 1] w fun e w' => UnderB t e w' ∧ Below w.heap.size w w' := by
  have HR := Lib.hid r
  have HSN := Lib.hid hs
  have HMN := Lib.hid hl64
  have HKN := Lib.hid hk
  have HN32 := Lib.hid (nd_u32 r)
  have hmm := run_makeMap (P := Tryd.prog) 107 w
  obtain ⟨mb, hmb⟩ : ∃ mb, mb = w.heap.size := ⟨_, rfl⟩
  obtain ⟨w1, hw1⟩ : ∃ w1, w1 = w.alloc (.map #[] 0) := ⟨_, rfl⟩
  have HS1 := Lib.hid (show SetIs w1 mb [] by rw [hw1, hmb]; exact SetIs.new w)
  have HB1 := Lib.hid (show Below w.heap.size w w1 by rw [hw1]; exact (Below.refl _ _).alloc (Nat.le_refl _) _)
  rw [← hmb, ← hw1] at hmm
  have HMB := Lib.hid hmb
  clear r hs hl64 hk hmb hw1
  go_enter Tryd.func71, Tryd.ntmps71
  go_wp2_with (first
    | ((with_reducible show wpList _ _ _ _ _ w1); refine wpList_buildU rfl _ rfl 1 rfl ?_; intro g2 w2 hk1 hb1 hg1; go_frame; have Q2 := Lib.hid (Qu.one (base := w.heap.size) hk1 (Nat.le_trans HB1.out.size hg1)); have S2 := Lib.hid (HS1.out.below hb1); have B2 := Lib.hid (below_chain HB1.out hb1); clear hk1 hb1 hg1)
    | fail)
  clear hmm
  go_loopg [7] t.nodes.length (fun kx v7 wr => ∃ D Q, UB t D Q ∧ Qu wr w.heap.size v7 Q ∧ SetIs wr mb D ∧ Below w.heap.size w wr ∧ t.nodes.length - D.length ≤ kx)
  case atStart => exact ⟨[], [1], UB.start _, Q2.out, S2.out, B2.out, by simp⟩
  case round =>
    obtain ⟨D, Q, hI, hq, hs, hb, hkx⟩ := hrel
    have HI := Lib.hid hI
    have HS := Lib.hid hs
    have HB := Lib.hid hb
    have HLQ := Lib.hid (hI.qlen HSN.out HKN.out)
    have HDN := Lib.hid hI.len
    have HKX := Lib.hid hkx
    cases Q with
    | nil =>
      obtain ⟨g, o, cq, cur, rfl, -⟩ := hq
      clear hI hs hb hkx
      go_wp2_with fail
      go_ret2
      exact ⟨.inl ⟨mb, D, rfl, HS.out, HI.out⟩, HB.out⟩
    | cons y Q =>
      have HQ := Lib.hid hq
      obtain ⟨g, o, cq, rfl, hcq, hcell⟩ := hq.head
      have iq : (Q.length : Int) ≤ 4096 := by have h1 := HLQ.out; have h2 := HMN.out; have h3 := HDN.out; rw [List.length_append, List.length_cons] at h1; omega
      have icq : (Q.length : Int) + 1 ≤ cq := by omega
      have HCQ := Lib.hid hcq
      have HPL := Lib.hid (place_tv t.nodes y A c F wr (by have := HMN.out; omega) HSN.out (HR.out.below hb))
      have HY32 := Lib.hid (hI.u32 HSN.out HN32.out y (by simp))
      clear hI hs hb hkx hcq hq
      go_wp2_with fail
      refine HPL.out.mono ?_
      rintro e w3 ⟨⟨i, bp, rfl, hp⟩, hb⟩
      have HP := Lib.hid hp
      have B3 := Lib.hid (below_chain HB.out hb)
      have S3 := Lib.hid (HS.out.below hb)
      have Q3 := Lib.hid (HQ.out.below hb)
      have q0 : w3.cell? ⟨g, o, none⟩ = some (.int .u32 (y : Int)) := by
        obtain ⟨g', o', c', e, -, h⟩ := Q3.out.head
        injection e with e1
        injection e1 with e1
        injection e1 with e2 e3
        subst e2 e3
        exact h
      clear hp hb hcell
      obtain ⟨qd, hqd⟩ : ∃ q, decide (y ∈ D) = q := ⟨_, rfl⟩
      have HQD := Lib.hid hqd
      clear hqd
      cases bp
      · have HLO := Lib.hid (HI.out.lost (.inl fun h => by
          have h1 := HP.out.no rfl
          obtain ⟨n, hn, hy⟩ := mem_inos.1 h
          rw [(nodeT_some HSN.out).2 ⟨hn, hy⟩] at h1
          cases h1))
        have B4 := Lib.hid (below_chain B3.out (show Below w3.heap.size w3 (w3.alloc (.cells #[] 109)) from (Below.refl _ _).alloc (Nat.le_refl _) _))
        go_wp2_with (first
          | ((with_reducible show wpList _ _ _ _ _ w3); refine wpList_setHas rfl _ _ rfl mb D rfl S3.out y HY32.out rfl qd HQD.out ?_; go_frame)
          | fail)
        go_ret2
        exact ⟨.inr ⟨rfl, HLO.out⟩, B4.out⟩
      cases qd
      rotate_left
      · have HLO := Lib.hid (HI.out.lost (.inr (of_decide_eq_true HQD.out)))
        have B4 := Lib.hid (below_chain B3.out (show Below w3.heap.size w3 (w3.alloc (.cells #[] 109)) from (Below.refl _ _).alloc (Nat.le_refl _) _))
        go_wp2_with (first
          | ((with_reducible show wpList _ _ _ _ _ w3); refine wpList_setHas rfl _ _ rfl mb D rfl S3.out y HY32.out rfl true HQD.out ?_; go_frame)
          | fail)
        go_ret2
        exact ⟨.inr ⟨rfl, HLO.out⟩, B4.out⟩
      obtain ⟨hi, hino, hi2⟩ := HP.out.yes rfl
      obtain ⟨n, hn, hin⟩ : ∃ n, n ∈ t.nodes ∧ t.nodes[i] = n := ⟨t.nodes[i], List.getElem_mem hi, rfl⟩
      have HIN := Lib.hid hin
      clear hin
      have HN := Lib.hid hn
      have HY := Lib.hid (show n.ino = y by rw [← HIN.out]; exact hino)
      have HFR := Lib.hid (of_decide_eq_false HQD.out)
      have HNX := Lib.hid (HI.out.next HSN.out hn HY.out HFR.out)
      have HDD := Lib.hid (HI.out.more (mem_inos.2 ⟨n, hn, HY.out⟩) HFR.out)
      clear hn hi2 hino
      have HAP := Lib.hid (show g ≠ mb from fun e => Q3.out.apart S3.out (by rw [e]; rfl))
      obtain ⟨b, off, rfl⟩ : ∃ b off, A = some ⟨b, off, none⟩ := by
        obtain ⟨b, off, cs, e, -⟩ := HR.out.get i hi
        exact ⟨b, off, e⟩
      have HDL := Lib.hid (show D.length ≤ 1000000 by have h1 := HDN.out; have h2 := HMN.out; omega)
      obtain ⟨dv, ev, hat, -, ⟨B2, c2, rfl, hr2, -⟩, -⟩ := nd_head HR.out hi
      rw [HIN.out] at hat hr2
      have HAT := Lib.hid hat
      have HR2 := Lib.hid hr2
      have HKL := Lib.hid (show n.names.length ≤ 32 from HKN.out n HN.out)
      have ikl : (n.names.length : Int) ≤ 32 := by have := HKL.out; omega
      clear hat hr2
      have hb4 : Below w3.heap.size w3 (w3.alloc (.cells #[] 109)) := (Below.refl _ _).alloc (Nat.le_refl _) _
      have q1 : (w3.alloc (.cells #[] 109)).cell? ⟨g, o, none⟩ = some (.int .u32 (y : Int)) := by
        obtain ⟨g', o', c', e, -, h⟩ := (Q3.out.below hb4).head
        injection e with e1
        injection e1 with e1
        injection e1 with e2 e3
        subst e2 e3
        exact h
      have S4 := Lib.hid (S3.out.below hb4)
      have Q4 := Lib.hid (Q3.out.below hb4)
      have B4 := Lib.hid (below_chain B3.out hb4)
      clear hb4
      go_wp2_with (first
        | ((with_reducible show wpList _ _ _ _ _ w3); refine wpList_setHas rfl _ _ rfl mb D rfl S3.out y HY32.out rfl false (HQD.out) ?_; go_frame)
        | ((with_reducible show wpList _ _ _ _ _ (w3.alloc (.cells #[] 109))); refine wpList_setPut rfl _ _ _ rfl mb D rfl S4.out HDL.out y HY32.out rfl rfl HFR.out ?_; intro w5 hs5 ht5; go_frame; have S5 := Lib.hid hs5; have Q5 := Lib.hid (Q4.out.turn ht5 (fun k e h => by injection e with e; exact HAP.out (e.trans h))); have hb5 : Below w.heap.size w w5 := B4.out.trans (ht5.below B4.out.size fun k e => by rw [e, HMB.out]; exact Nat.le_refl _); have B5 := Lib.hid hb5; have q5 : w5.cell? ⟨b, off + i * 6 + 5, none⟩ = some (.slice B2 n.names.length c2) := (At.tz HAT.out hb5) 5 _ rfl; clear hs5 ht5 hb5)
        | fail)
      clear q0 q1 q5
      go_loopw [7, 54] (fun v7 j wz => ∃ k : Nat, j = .int .i64 k ∧ k ≤ n.names.length ∧ Qu wz w.heap.size v7 ((y :: Q) ++ (kidsN n).take k) ∧ SetIs wz mb (D ++ [y]) ∧ Below w.heap.size w wz) (fun _ j _ => n.names.length - (RowKit.intOf j).toNat)
      case atStart => exact ⟨0, rfl, Nat.zero_le _, by rw [List.take_zero, List.append_nil]; exact Q5.out, S5.out, B5.out⟩
      case round =>
        obtain ⟨k, rfl, hk, hq, hs, hb⟩ := hrel
        have HQ := Lib.hid hq
        have HS := Lib.hid hs
        have HB := Lib.hid hb
        by_cases hlt : k < n.names.length
        · obtain ⟨b3, off3, xs, rfl, ⟨rfl, hx32⟩, hat⟩ := (HR2.out.below hb).get k hlt
          have HAT3 := Lib.hid hat
          have HTS := Lib.hid (show (kidsN n).take (k + 1) = (kidsN n).take k ++ [n.names[k].2] by
            unfold kidsN
            rw [take_snoc (by rw [List.length_map]; exact hlt), List.getElem_map])
          have HLL := Lib.hid (show ((y :: Q) ++ (kidsN n).take k).length ≤ 1000000 by rw [List.length_append, List.length_cons, List.length_take]; omega)
          generalize n.names[k] = x at *
          clear hq hs hb hat hx32
          go_wp2_with (first
            | ((with_reducible show wpList _ _ _ _ _ wr); refine wpList_load_agg rfl 80 _ rfl b3 (off3 + k * 2) rfl [sv x.1, .int .u32 (x.2 : Int)] HAT3.out _ Tryd.underlying80 rfl infoEnt ?_; go_frame)
            | ((with_reducible show wpList _ _ _ _ _ wr); refine wpList_allocS rfl 80 rfl [sv [], .int .u32 0] entZero ?_; intro g6 w6 hk1 hb1 hg1; go_frame; have C6 := Lib.hid hk1; have B6 := Lib.hid hb1; have G6 := Lib.hid hg1; clear hk1 hb1 hg1)
            | ((with_reducible show wpList _ _ _ _ _ w6); refine wpList_storeS rfl 80 _ _ rfl g6 rfl [sv x.1, .int .u32 (x.2 : Int)] [sv [], .int .u32 0] rfl C6.out rfl (by intro v hv; simp at hv; rcases hv with rfl | rfl <;> rfl) infoEnt ?_; intro w7 hk2 ht2; go_frame; have B7 := Lib.hid (show Below wr.heap.size wr w7 from below_turn B6.out ht2 B6.out.size G6.out); have q1 : w7.cell? ⟨g6, 1, none⟩ = some (.int .u32 (x.2 : Int)) := hk2.cell 1 rfl; clear hk2 ht2)
            | ((with_reducible show wpList _ _ _ _ _ w7); refine wpList_buildU rfl _ rfl x.2 rfl ?_; intro g8 w8 hk1 hb1 hg1; go_frame; have C8 := Lib.hid hk1; have B8 := Lib.hid (below_chain B7.out hb1); clear hk1 hb1 hg1)
            | (at_builtin; refine wpList_appQ rfl _ _ rfl rfl (HQ.out.below B8.out) g8 x.2 rfl C8.out HLL.out (Nat.le_trans HB.out.size B8.out.size) ?_; intro v9 w9 hq9 ht9; go_frame; have Q9 := Lib.hid hq9; have T9 := Lib.hid ht9; clear hq9 ht9)
            | fail)
          go_roundw
          case rel =>
            refine ⟨k + 1, by go_num, hlt, by rw [HTS.out, ← List.append_assoc]; exact Q9.out, ((HS.out.below B8.out).turn T9.out fun e => (HQ.out.below B8.out).apart (HS.out.below B8.out) e), ?_⟩
            refine (below_chain HB.out B8.out).trans (T9.out.below (Nat.le_trans HB.out.size B8.out.size) fun q e => ?_)
            obtain ⟨g', o', c', cur', e', -, h1, -⟩ := HQ.out
            rw [e'] at e
            injection e with e
            rw [← e]
            exact h1
          case measure => simp [RowKit.intOf]; omega
        · obtain rfl : k = n.names.length := by omega
          have hkk : (kidsN n).take n.names.length = kidsN n := List.take_of_length_le (by unfold kidsN; rw [List.length_map]; exact Nat.le_refl _)
          rw [hkk] at hq
          have hq2 : Qu wr w.heap.size u7 (y :: (Q ++ kidsN n)) := hq
          obtain ⟨g7, o7, c7, rfl, hc7, -⟩ := hq2.head
          have HT7 := Lib.hid (Qu.tail hq2)
          have HLT := Lib.hid (show (Q ++ kidsN n).length = Q.length + n.names.length by rw [List.length_append]; unfold kidsN; rw [List.length_map])
          have i7 : ((Q ++ kidsN n).length : Int) ≤ 5000 := by have := HLT.out; omega
          generalize Q ++ kidsN n = QQ at *
          clear hq hq2 hs hb hkk
          by_cases hc1 : c7 = 1
          · subst hc1
            go_wp2_with fail
            go_roundg (t.nodes.length - (D ++ [y]).length)
            case measure => have h1 := HDD.out; have h2 := HKX.out; rw [List.length_append, List.length_singleton]; omega
            case rel => exact ⟨D ++ [y], QQ, HNX.out, (by have hz : QQ.length = 0 := (by omega); have h9 := HT7.out; rw [hz] at h9; simpa using h9), HS.out, HB.out, Nat.le_refl _⟩
          · go_wp2_with fail
            go_roundg (t.nodes.length - (D ++ [y]).length)
            case measure => have h1 := HDD.out; have h2 := HKX.out; rw [List.length_append, List.length_singleton]; omega
            case rel => exact ⟨D ++ [y], QQ, HNX.out, by have := HT7.out; rw [if_neg hc1] at this; simpa using this, HS.out, HB.out, Nat.le_refl _⟩

end Go.Proofs.YtdhlejhflkfoaaaDoor
/- The program: whether numbers, or names, rise; whether a node may be by itself: of whatever there is. -/
namespace Go.Proofs.YtdhlejhflkfoaaaDoor
open Go.RowKit Go.Shelf Go.Maps
set_option linter.unusedVariables false
set_option maxRecDepth 100000
set_option linter.unusedSimpArgs false

theorem rise_allN {l : List Nd} (h : ∀ j (hj : j + 1 < l.length), l[j].ino < l[j + 1].ino) : SortN l := by
  refine List.pairwise_iff_getElem.2 fun i j hi hj hij => ?_
  induction j with
  | zero => omega
  | succ j ih =>
    by_cases e : i = j
    · subst e; exact h i hj
    · exact Nat.lt_trans (ih (by omega) (by omega)) (h j hj)
theorem sortE_allN {l : List Ent} (h : ∀ j (hj : j + 1 < l.length), lessK l[j].1 l[j + 1].1 = true) : SortE l := by
  refine List.pairwise_iff_getElem.2 fun i j hi hj hij => ?_
  induction j with
  | zero => omega
  | succ j ih =>
    by_cases e : i = j
    · subst e; exact h i hj
    · exact lessK_trans (ih (by omega) (by omega)) (h j hj)
/-- it tells whether p -/
def TellsB (p : Prop) (w : World) (e : Ending) (w' : World) : Prop := ∃ b, e = .returned (.bool b) ∧ (b = true ↔ p) ∧ Below w.heap.size w w'
theorem geq_sv2 (a b : Key) (w : World) : (binOp .geq 9 (sv a) (sv b)).run Tryd.prog w = .ok (.bool (!lessK a b)) w := by
  cases h : lessK a b with
  | true => exact geq_sv a b h w
  | false =>
    have h1 : Op.bytesLess a b = false := by rw [bytesLess_is]; exact h
    have e1 : (⟨a.toArray⟩ : ByteArray).toList = a := by rw [Lib.toList_data]
    have e2 : (⟨b.toArray⟩ : ByteArray).toList = b := by rw [Lib.toList_data]
    unfold sv
    go_simp
    all_goals (try simp [e1, e2, h1])
set_option maxHeartbeats 4000000 in
theorem rise_ndB (l : List Nd) (A : Option Addr) (c : Nat) (F : Nat → Prop) (w : World) (hl : l.length ≤ 1000000) (r : RdX nodeE w F A l) :
    Calls Tryd.prog 49 #[.slice A l.length c, .func (.func 50) #[] #[]] w fun e w' => TellsB (SortN l) w e w' := by
  have hmix : Tryd.prog.follows .mixedOrders = true := by kernel_rfl
  have HR := Lib.hid r
  have iln : (l.length : Int) ≤ 1000000 := by omega
  clear r
  go_enter Tryd.func49, Tryd.ntmps49
  go_wp2
  go_loopw [5] (fun j wr => ∃ k : Nat, j = .int .i64 k ∧ 1 ≤ k ∧ (k ≤ l.length ∨ k = 1) ∧ (∀ i (hi : i + 1 < l.length), i + 1 < k → l[i].ino < l[i + 1].ino) ∧ Below w.heap.size w wr) (fun j _ => l.length - (RowKit.intOf j).toNat)
  case atStart => exact ⟨1, rfl, Nat.le_refl _, .inr rfl, fun i hi h => by omega, Below.refl _ _⟩
  case round =>
    obtain ⟨k, rfl, hk1, hk2, hpre, hB⟩ := hrel
    have HPRE := Lib.hid hpre
    have HB := Lib.hid hB
    by_cases hlt : k < l.length
    · obtain ⟨m, rfl⟩ : ∃ m, k = m + 1 := ⟨k - 1, by omega⟩
      obtain ⟨b, off, cs, rfl, hrd, hat⟩ := (HR.out.below hB).get m (by omega)
      obtain ⟨b', off', ds, e, hrd2, hat2⟩ := (HR.out.below hB).get (m + 1) hlt
      cases e
      have HBAD := Lib.hid (show ¬ l[m].ino < l[m + 1].ino → ¬ SortN l from fun h h2 => h (List.pairwise_iff_getElem.1 h2 m (m + 1) (by omega) hlt (by omega)))
      have HNXT := Lib.hid (show l[m].ino < l[m + 1].ino → ∀ i (hi : i + 1 < l.length), i + 1 < m + 1 + 1 → l[i].ino < l[i + 1].ino from fun h i hi h2 => by
        by_cases e : i = m
        · subst e; exact h
        · exact HPRE.out i hi (by omega))
      have HA1 := Lib.hid (show At wr b (off + m * 6) cs from hat)
      have HA2 := Lib.hid (show At wr b (off + (m + 1) * 6) ds from hat2)
      have HD1 := Lib.hid hrd
      have HD2 := Lib.hid hrd2
      have HL1 := Lib.hid (show cs.length = 6 from nodeE.len hrd)
      have HL2 := Lib.hid (show ds.length = 6 from nodeE.len hrd2)
      have hlt2 : (m : Int) + 1 < l.length := by omega
      generalize l[m] = x at *
      generalize l[m + 1] = y at *
      clear hrd hrd2 hat hat2 hB hpre
      obtain ⟨q, hq⟩ : ∃ q : Bool, q = decide (y.ino ≤ x.ino) := ⟨_, rfl⟩
      have HQ := Lib.hid hq
      clear hq
      have jw : IntKind.i64.wrap (m : Int) = (m : Int) := by rw [IntKind.wrap_i64]; omega
      have jw2 : (m : Int) + 1 - 1 = m := by omega
      have j3 : ¬ (m : Int) < 0 := by omega
      have j4 : ¬ ((m : Int) + 1 < 0) := by omega
      have j5 : ¬ l.length ≤ m := by omega
      have j6 : ¬ l.length ≤ m + 1 := by omega
      go_wp2_with fail
      refine wp_region_V [] (Below wr.heap.size wr) hmix ((Below.refl _ _).drew) ?_
      change wpAnyV _ _ _ _ _ _ _ _ _
      refine wpAnyV_take (i := 0) (v := .func (.func 50) #[] #[]) 12 (kept_below wr) rfl (by kernel_rfl) (by kernel_rfl) (fun _ _ _ h => h) (fun _ h => h) (DoesV.reads (by rfl) fun w9 hS => by go_simp) ?_
      try simp only [nrm, Act.put]
      refine wpAnyV_take (i := 1) (v := .slice (some ⟨b, off, none⟩) l.length c) 12 (kept_below wr) rfl (by kernel_rfl) (by kernel_rfl) (fun _ _ _ h => h) (fun _ h => h) (DoesV.reads (by rfl) fun w9 hS => by go_simp) ?_
      try simp only [nrm, Act.put]
      refine wpAnyV_take (i := 2) (v := .int .i64 ((m : Int) + 1)) 12 (kept_below wr) rfl (by kernel_rfl) (by kernel_rfl) (fun _ _ _ h => h) (fun _ h => h) (DoesV.reads (by rfl) fun w9 hS => by go_simp) ?_
      try simp only [nrm, Act.put]
      refine wpAnyV_take (i := 3) (v := .int .i64 (m : Int)) 12 (kept_below wr) rfl (by kernel_rfl) (by kernel_rfl) (fun _ _ _ h => h) (fun _ h => h) (DoesV.reads (by rfl) fun w9 hS => by go_simp) ?_
      try simp only [nrm, Act.put]
      refine wpAnyV_take (i := 4) (v := .pointer (some ⟨b, off + m * 6, none⟩)) 12 (kept_below wr) rfl (by kernel_rfl) (by kernel_rfl) (fun _ _ _ h => h) (fun _ h => h) (DoesV.reads (by rfl) fun w9 hS => by go_simp) ?_
      try simp only [nrm, Act.put]
      refine wpAnyV_take (i := 5) (v := .agg cs.toArray) 12 (kept_below wr) rfl (by kernel_rfl) (by kernel_rfl) (fun _ _ _ h => h) (fun _ h => h) (DoesV.loadT (by rfl) 48 _ rfl b (off + m * 6) rfl cs (fun w9 hS => At.tz HA1.out hS) _ Tryd.underlying48 rfl (by rw [HL1.out]; exact infoNode)) ?_
      try simp only [nrm, Act.put]
      refine wpAnyV_take (i := 6) (v := .int .u32 (x.ino : Int)) 12 (kept_below wr) rfl (by kernel_rfl) (by kernel_rfl) (fun _ _ _ h => h) (fun _ h => h) (DoesV.calls 50 #[.agg cs.toArray] (by rfl) (fun w9 hS => by go_simp) (fun w9 hS => inoOf_v x cs F w9 (nodeE.turn HD1.out (Turn.of_below hS fun _ => False) fun _ _ h => h))) ?_
      try simp only [nrm, Act.put]
      refine wpAnyV_take (i := 7) (v := .func (.func 50) #[] #[]) 12 (kept_below wr) rfl (by kernel_rfl) (by kernel_rfl) (fun _ _ _ h => h) (fun _ h => h) (DoesV.reads (by rfl) fun w9 hS => by go_simp) ?_
      try simp only [nrm, Act.put]
      refine wpAnyV_take (i := 8) (v := .slice (some ⟨b, off, none⟩) l.length c) 12 (kept_below wr) rfl (by kernel_rfl) (by kernel_rfl) (fun _ _ _ h => h) (fun _ h => h) (DoesV.reads (by rfl) fun w9 hS => by go_simp) ?_
      try simp only [nrm, Act.put]
      refine wpAnyV_take (i := 9) (v := .int .i64 ((m : Int) + 1)) 12 (kept_below wr) rfl (by kernel_rfl) (by kernel_rfl) (fun _ _ _ h => h) (fun _ h => h) (DoesV.reads (by rfl) fun w9 hS => by go_simp) ?_
      try simp only [nrm, Act.put]
      refine wpAnyV_take (i := 10) (v := .pointer (some ⟨b, off + (m + 1) * 6, none⟩)) 12 (kept_below wr) rfl (by kernel_rfl) (by kernel_rfl) (fun _ _ _ h => h) (fun _ h => h) (DoesV.reads (by rfl) fun w9 hS => by go_simp) ?_
      try simp only [nrm, Act.put]
      refine wpAnyV_take (i := 11) (v := .agg ds.toArray) 12 (kept_below wr) rfl (by kernel_rfl) (by kernel_rfl) (fun _ _ _ h => h) (fun _ h => h) (DoesV.loadT (by rfl) 48 _ rfl b (off + (m + 1) * 6) rfl ds (fun w9 hS => At.tz HA2.out hS) _ Tryd.underlying48 rfl (by rw [HL2.out]; exact infoNode)) ?_
      try simp only [nrm, Act.put]
      refine wpAnyV_take (i := 12) (v := .int .u32 (y.ino : Int)) 12 (kept_below wr) rfl (by kernel_rfl) (by kernel_rfl) (fun _ _ _ h => h) (fun _ h => h) (DoesV.calls 50 #[.agg ds.toArray] (by rfl) (fun w9 hS => by go_simp) (fun w9 hS => inoOf_v y ds F w9 (nodeE.turn HD2.out (Turn.of_below hS fun _ => False) fun _ _ h => h))) ?_
      try simp only [nrm, Act.put]
      refine wpAnyV_take (i := 13) (v := .bool q) 12 (kept_below wr) rfl (by kernel_rfl) (by kernel_rfl) (fun _ _ _ h => h) (fun _ h => h) (DoesV.reads (by rfl) fun w9 hS => by go_simp; exact HQ.out.symm) ?_
      try simp only [nrm, Act.put]
      refine wpAnyV_done (by kernel_rfl) (fun w1 hw1 => ?_) _
      have B1 := Lib.hid (below_chain HB.out hw1)
      clear hw1
      cases q
      · go_wp2_with fail
        go_roundw
        case rel => exact ⟨m + 1 + 1, by go_num, by omega, .inl hlt, HNXT.out (by have := HQ.out; simpa using this), B1.out⟩
        case measure => simp [RowKit.intOf]; omega
      · go_wp2_with fail
        go_ret
        exact ⟨false, rfl, ⟨fun h => (by cases h), fun h => absurd h (HBAD.out (by have := HQ.out; simpa using this))⟩, B1.out⟩
    · have HALL := Lib.hid (show SortN l from rise_allN fun i hi => hpre i hi (by omega))
      clear hB hpre
      go_wp2_with fail
      go_ret
      exact ⟨true, rfl, ⟨fun _ => HALL.out, fun _ => rfl⟩, HB.out⟩
set_option maxHeartbeats 4000000 in
theorem rise_enB (l : List Ent) (A : Option Addr) (c : Nat) (F : Nat → Prop) (w : World) (hl : l.length ≤ 1000000) (r : RdX entE w F A l) :
    Calls Tryd.prog 86 #[.slice A l.length c, .func (.func 87) #[] #[]] w fun e w' => TellsB (SortE l) w e w' := by
  have hmix : Tryd.prog.follows .mixedOrders = true := by kernel_rfl
  have HR := Lib.hid r
  have iln : (l.length : Int) ≤ 1000000 := by omega
  clear r
  go_enter Tryd.func86, Tryd.ntmps86
  go_wp2
  go_loopw [5] (fun j wr => ∃ k : Nat, j = .int .i64 k ∧ 1 ≤ k ∧ (k ≤ l.length ∨ k = 1) ∧ (∀ i (hi : i + 1 < l.length), i + 1 < k → lessK l[i].1 l[i + 1].1 = true) ∧ Below w.heap.size w wr) (fun j _ => l.length - (RowKit.intOf j).toNat)
  case atStart => exact ⟨1, rfl, Nat.le_refl _, .inr rfl, fun i hi h => by omega, Below.refl _ _⟩
  case round =>
    obtain ⟨k, rfl, hk1, hk2, hpre, hB⟩ := hrel
    have HPRE := Lib.hid hpre
    have HB := Lib.hid hB
    by_cases hlt : k < l.length
    · obtain ⟨m, rfl⟩ : ∃ m, k = m + 1 := ⟨k - 1, by omega⟩
      obtain ⟨b, off, cs, rfl, hrd, hat⟩ := (HR.out.below hB).get m (by omega)
      obtain ⟨b', off', ds, e, hrd2, hat2⟩ := (HR.out.below hB).get (m + 1) hlt
      cases e
      have HBAD := Lib.hid (show ¬ lessK l[m].1 l[m + 1].1 = true → ¬ SortE l from fun h h2 => h (List.pairwise_iff_getElem.1 h2 m (m + 1) (by omega) hlt (by omega)))
      have HNXT := Lib.hid (show lessK l[m].1 l[m + 1].1 = true → ∀ i (hi : i + 1 < l.length), i + 1 < m + 1 + 1 → lessK l[i].1 l[i + 1].1 = true from fun h i hi h2 => by
        by_cases e : i = m
        · subst e; exact h
        · exact HPRE.out i hi (by omega))
      have HA1 := Lib.hid (show At wr b (off + m * 2) cs from hat)
      have HA2 := Lib.hid (show At wr b (off + (m + 1) * 2) ds from hat2)
      have HD1 := Lib.hid hrd
      have HD2 := Lib.hid hrd2
      have HL1 := Lib.hid (show cs.length = 2 from entE.len hrd)
      have HL2 := Lib.hid (show ds.length = 2 from entE.len hrd2)
      have hlt2 : (m : Int) + 1 < l.length := by omega
      generalize l[m] = x at *
      generalize l[m + 1] = y at *
      clear hrd hrd2 hat hat2 hB hpre
      obtain ⟨q, hq⟩ : ∃ q : Bool, q = !lessK x.1 y.1 := ⟨_, rfl⟩
      have HQ := Lib.hid hq
      clear hq
      have jw : IntKind.i64.wrap (m : Int) = (m : Int) := by rw [IntKind.wrap_i64]; omega
      have jw2 : (m : Int) + 1 - 1 = m := by omega
      have j3 : ¬ (m : Int) < 0 := by omega
      have j4 : ¬ ((m : Int) + 1 < 0) := by omega
      have j5 : ¬ l.length ≤ m := by omega
      have j6 : ¬ l.length ≤ m + 1 := by omega

      go_wp2_with fail
      refine wp_region_V [] (Below wr.heap.size wr) hmix ((Below.refl _ _).drew) ?_
      change wpAnyV _ _ _ _ _ _ _ _ _
      refine wpAnyV_take (i := 0) (v := .func (.func 87) #[] #[]) 12 (kept_below wr) rfl (by kernel_rfl) (by kernel_rfl) (fun _ _ _ h => h) (fun _ h => h) (DoesV.reads (by rfl) fun w9 hS => by go_simp) ?_
      try simp only [nrm, Act.put]
      refine wpAnyV_take (i := 1) (v := .slice (some ⟨b, off, none⟩) l.length c) 12 (kept_below wr) rfl (by kernel_rfl) (by kernel_rfl) (fun _ _ _ h => h) (fun _ h => h) (DoesV.reads (by rfl) fun w9 hS => by go_simp) ?_
      try simp only [nrm, Act.put]
      refine wpAnyV_take (i := 2) (v := .int .i64 ((m : Int) + 1)) 12 (kept_below wr) rfl (by kernel_rfl) (by kernel_rfl) (fun _ _ _ h => h) (fun _ h => h) (DoesV.reads (by rfl) fun w9 hS => by go_simp) ?_
      try simp only [nrm, Act.put]
      refine wpAnyV_take (i := 3) (v := .int .i64 (m : Int)) 12 (kept_below wr) rfl (by kernel_rfl) (by kernel_rfl) (fun _ _ _ h => h) (fun _ h => h) (DoesV.reads (by rfl) fun w9 hS => by go_simp) ?_
      try simp only [nrm, Act.put]
      refine wpAnyV_take (i := 4) (v := .pointer (some ⟨b, off + m * 2, none⟩)) 12 (kept_below wr) rfl (by kernel_rfl) (by kernel_rfl) (fun _ _ _ h => h) (fun _ h => h) (DoesV.reads (by rfl) fun w9 hS => by go_simp) ?_
      try simp only [nrm, Act.put]
      refine wpAnyV_take (i := 5) (v := .agg cs.toArray) 12 (kept_below wr) rfl (by kernel_rfl) (by kernel_rfl) (fun _ _ _ h => h) (fun _ h => h) (DoesV.loadT (by rfl) 80 _ rfl b (off + m * 2) rfl cs (fun w9 hS => At.tz HA1.out hS) _ Tryd.underlying80 rfl (by rw [HL1.out]; exact infoEnt)) ?_
      try simp only [nrm, Act.put]
      refine wpAnyV_take (i := 6) (v := sv x.1) 12 (kept_below wr) rfl (by kernel_rfl) (by kernel_rfl) (fun _ _ _ h => h) (fun _ h => h) (DoesV.calls 87 #[.agg cs.toArray] (by rfl) (fun w9 hS => by go_simp) (fun w9 hS => nameOf_v x cs F w9 (entE.turn HD1.out (Turn.of_below hS fun _ => False) fun _ _ h => h))) ?_
      try simp only [nrm, Act.put]
      refine wpAnyV_take (i := 7) (v := .func (.func 87) #[] #[]) 12 (kept_below wr) rfl (by kernel_rfl) (by kernel_rfl) (fun _ _ _ h => h) (fun _ h => h) (DoesV.reads (by rfl) fun w9 hS => by go_simp) ?_
      try simp only [nrm, Act.put]
      refine wpAnyV_take (i := 8) (v := .slice (some ⟨b, off, none⟩) l.length c) 12 (kept_below wr) rfl (by kernel_rfl) (by kernel_rfl) (fun _ _ _ h => h) (fun _ h => h) (DoesV.reads (by rfl) fun w9 hS => by go_simp) ?_
      try simp only [nrm, Act.put]
      refine wpAnyV_take (i := 9) (v := .int .i64 ((m : Int) + 1)) 12 (kept_below wr) rfl (by kernel_rfl) (by kernel_rfl) (fun _ _ _ h => h) (fun _ h => h) (DoesV.reads (by rfl) fun w9 hS => by go_simp) ?_
      try simp only [nrm, Act.put]
      refine wpAnyV_take (i := 10) (v := .pointer (some ⟨b, off + (m + 1) * 2, none⟩)) 12 (kept_below wr) rfl (by kernel_rfl) (by kernel_rfl) (fun _ _ _ h => h) (fun _ h => h) (DoesV.reads (by rfl) fun w9 hS => by go_simp) ?_
      try simp only [nrm, Act.put]
      refine wpAnyV_take (i := 11) (v := .agg ds.toArray) 12 (kept_below wr) rfl (by kernel_rfl) (by kernel_rfl) (fun _ _ _ h => h) (fun _ h => h) (DoesV.loadT (by rfl) 80 _ rfl b (off + (m + 1) * 2) rfl ds (fun w9 hS => At.tz HA2.out hS) _ Tryd.underlying80 rfl (by rw [HL2.out]; exact infoEnt)) ?_
      try simp only [nrm, Act.put]
      refine wpAnyV_take (i := 12) (v := sv y.1) 12 (kept_below wr) rfl (by kernel_rfl) (by kernel_rfl) (fun _ _ _ h => h) (fun _ h => h) (DoesV.calls 87 #[.agg ds.toArray] (by rfl) (fun w9 hS => by go_simp) (fun w9 hS => nameOf_v y ds F w9 (entE.turn HD2.out (Turn.of_below hS fun _ => False) fun _ _ h => h))) ?_
      try simp only [nrm, Act.put]
      refine wpAnyV_take (i := 13) (v := .bool q) 12 (kept_below wr) rfl (by kernel_rfl) (by kernel_rfl) (fun _ _ _ h => h) (fun _ h => h) (DoesV.reads (by rfl) fun w9 hS => by have q0 := geq_sv2 x.1 y.1 w9; rw [← HQ.out] at q0; go_simp) ?_
      try simp only [nrm, Act.put]
      refine wpAnyV_done (by kernel_rfl) (fun w1 hw1 => ?_) _
      have B1 := Lib.hid (below_chain HB.out hw1)
      clear hw1
      cases q
      · go_wp2_with fail
        go_roundw
        case rel => exact ⟨m + 1 + 1, by go_num, by omega, .inl hlt, HNXT.out (by have := HQ.out; simpa using this), B1.out⟩
        case measure => simp [RowKit.intOf]; omega
      · go_wp2_with fail
        go_ret
        exact ⟨false, rfl, ⟨fun h => (by cases h), fun h => absurd h (HBAD.out (by have := HQ.out; simpa using this))⟩, B1.out⟩
    · have HALL := Lib.hid (show SortE l from sortE_allN fun i hi => hpre i hi (by omega))
      clear hB hpre
      go_wp2_with fail
      go_ret
      exact ⟨true, rfl, ⟨fun _ => HALL.out, fun _ => rfl⟩, HB.out⟩
def NoBadRet (l : List Ent) (w : World) (e : Ending) (w' : World) : Prop := ∃ i : Int, e = .returned (.int .i64 i) ∧ -1 ≤ i ∧ i ≤ 1000000 ∧ (i = -1 ↔ ∀ e ∈ l, nameL e.1 = true) ∧ Below w.heap.size w w'
set_option maxHeartbeats 4000000 in
theorem noBad_iB (l : List Ent) (A : Option Addr) (c : Nat) (F : Nat → Prop) (w : World) (hT : Tabs w) (hl : l.length ≤ 1000000) (r : RdX entE w F A l) :
    Calls Tryd.prog 97 #[.slice A l.length c, .func (.func 89) #[] #[]] w fun e w' => NoBadRet l w e w' := by
  have HR := Lib.hid r
  have HT := Lib.hid hT
  have iln : (l.length : Int) ≤ 1000000 := by omega
  clear r hT
  go_enter Tryd.func97, Tryd.ntmps97
  go_wp2
  go_loopw [8] (fun j wr => ∃ k : Nat, j = .int .i64 k ∧ k ≤ l.length ∧ (∀ e ∈ l.take k, nameL e.1 = true) ∧ Below w.heap.size w wr) (fun j _ => l.length - (RowKit.intOf j).toNat)
  case atStart => exact ⟨0, rfl, Nat.zero_le _, fun e he => by simp at he, Below.refl _ _⟩
  case round =>
    obtain ⟨k, rfl, hk, hpre, hB⟩ := hrel
    have HPRE := Lib.hid hpre
    have HB := Lib.hid hB
    by_cases hlt : k < l.length
    · obtain ⟨b, off, cs, rfl, hrd, hat⟩ := (HR.out.below hB).get k hlt
      have HAT := Lib.hid (show At wr b (off + k * 2) cs from hat)
      have HLN := Lib.hid (show cs.length = 2 from entE.len hrd)
      have HTK := Lib.hid (take_snoc hlt)
      have HMEM := Lib.hid (List.getElem_mem hlt)
      have HCX := Lib.hid (isNoName_v _ cs F wr (HT.out.below hB) hrd)
      generalize l[k] = x at *
      obtain ⟨q, hq⟩ : ∃ q : Bool, q = !nameL x.1 := ⟨_, rfl⟩
      rw [← hq] at HCX
      have HQ := Lib.hid hq
      clear hq hpre
      clear hrd hat hB
      go_wp2_with (first
        | ((with_reducible show wpList _ _ _ _ _ wr); refine wpList_load_agg rfl 80 _ rfl b (off + k * 2) rfl cs HAT.out _ Tryd.underlying80 rfl (by rw [HLN.out]; exact infoEnt) ?_; go_frame)
        | fail)
      refine HCX.out.mono ?_
      rintro e u1 ⟨rfl, hb⟩
      have B1 := Lib.hid (below_chain HB.out hb)
      clear hb
      cases q
      · go_wp2_with fail
        go_roundw
        case rel => exact ⟨k + 1, by go_num, hlt, by rw [HTK.out]; intro e he; rw [List.mem_append, List.mem_singleton] at he; rcases he with he | rfl; exact HPRE.out e he; exact (by have := HQ.out; simpa using this.symm), B1.out⟩
        case measure => simp [RowKit.intOf]; omega
      · go_wp2_with fail
        go_ret
        refine ⟨(k : Int), rfl, by omega, by omega, ⟨fun h => by omega, fun h => ?_⟩, B1.out⟩
        have h1 := h x HMEM.out
        have h2 := HQ.out
        rw [h1] at h2
        cases h2
    · have HALL := Lib.hid (show ∀ e ∈ l, nameL e.1 = true by
        have e1 : l.take k = l := List.take_of_length_le (by omega)
        rw [e1] at hpre
        exact hpre)
      clear hB hpre
      go_wp2_with fail
      go_ret
      exact ⟨-1, rfl, by omega, by omega, ⟨fun _ => HALL.out, fun _ => rfl⟩, HB.out⟩
theorem noBad_cB (l : List Ent) (A : Option Addr) (c : Nat) (F : Nat → Prop) (w : World) (hT : Tabs w) (hl : l.length ≤ 1000000) (r : RdX entE w F A l) :
    Calls Tryd.prog 88 #[.slice A l.length c, .func (.func 89) #[] #[]] w fun e w' => TellsB (¬ ∀ e ∈ l, nameL e.1 = true) w e w' := by
  have HI := Lib.hid (noBad_iB l A c F w hT hl r)
  clear r hT
  go_enter Tryd.func88, Tryd.ntmps88
  go_wp2_with fail
  refine HI.out.mono ?_
  rintro e w1 ⟨i, rfl, h1, h2, hi, hb⟩
  have HX := Lib.hid hi
  have B1 := Lib.hid hb
  clear hb hi
  by_cases hz : i = -1
  · subst hz
    go_wp2_with fail
    go_ret
    exact ⟨false, by first | rfl | simp, ⟨fun h => (by cases h), fun h => absurd (HX.out.1 (by trivial)) h⟩, B1.out⟩
  · have h3 : 0 ≤ i := by omega
    have HNZ := Lib.hid hz
    clear hz h1
    go_wp2_with fail
    go_ret
    exact ⟨true, by first | rfl | simp, ⟨fun _ h => HNZ.out (HX.out.2 h), fun _ => rfl⟩, B1.out⟩
set_option maxHeartbeats 8000000 in
theorem mayHold_vB (n : Nd) (cs : List Value) (F : Nat → Prop) (w : World) (hT : Tabs w) (h : NdAt w F cs n) :
    Calls Tryd.prog 70 #[.agg cs.toArray] w fun e w' => TellsB (HoldN n) w e w' := by
  obtain ⟨dv, nv, rfl, ⟨Ad, cd, rfl, hrd, -, hdl, hdc⟩, ⟨A, c, rfl, hr, hl1, hl2, -⟩, -⟩ := h
  have HR := Lib.hid hr
  have HT := Lib.hid hT
  obtain ⟨ino, gen, dir, chg, data, names⟩ := n
  dsimp only at *
  have i8 : (data.length : Int) ≤ 9223372036854775807 := by simp only [maxLen] at hdc; omega
  have i9 : (names.length : Int) ≤ 9223372036854775807 := by simp only [maxLen] at hl2; omega
  clear hr hT hrd
  cases dir
  · by_cases e1 : names.length = 0
    · have i1 : ((names.length : Int) == 0) = true := by simp only [beq_iff_eq]; omega
      have i1' : (names.length : Int) = 0 := by omega
      have HE1 := Lib.hid (List.eq_nil_of_length_eq_zero e1)
      clear e1
      by_cases e2 : data.length ≤ 4096
      · have i2 : (data.length : Int) ≤ 4096 := by omega
        have HZ := Lib.hid (show HoldN ⟨ino, gen, false, chg, data, names⟩ from ⟨fun _ => ⟨HE1.out, e2⟩, fun h => (by cases h)⟩)
        go_enter Tryd.func70, Tryd.ntmps70
        go_wp2_with (first
          | ((with_reducible show wpList _ _ _ _ _ w); refine wpList_boxS rfl 48 _ rfl (ndC ⟨ino, gen, false, chg, data, names⟩ (.slice Ad data.length cd) (.slice A names.length c)) rfl ?_; intro g1 w1 hk1 hb1 hg1; go_frame; have q2 : w1.cell? ⟨g1, 2, none⟩ = some (.bool false) := hk1.cell 2 rfl; have q4 : w1.cell? ⟨g1, 4, none⟩ = some (.slice Ad data.length cd) := hk1.cell 4 rfl; have q5 : w1.cell? ⟨g1, 5, none⟩ = some (.slice A names.length c) := hk1.cell 5 rfl; have B1 := Lib.hid hb1; have C1 := Lib.hid hk1; clear hk1 hb1 hg1)
          | fail)
        go_ret
        exact ⟨true, by first | rfl | simp, ⟨fun _ => HZ.out, fun _ => rfl⟩, B1.out⟩
      · have i2 : ¬ (data.length : Int) ≤ 4096 := by omega
        have i2' : (4096 : Int) < data.length := by omega
        have HZ := Lib.hid (show ¬ HoldN ⟨ino, gen, false, chg, data, names⟩ from fun h => e2 (h.file rfl).2)
        clear e2
        go_enter Tryd.func70, Tryd.ntmps70
        go_wp2_with (first
          | ((with_reducible show wpList _ _ _ _ _ w); refine wpList_boxS rfl 48 _ rfl (ndC ⟨ino, gen, false, chg, data, names⟩ (.slice Ad data.length cd) (.slice A names.length c)) rfl ?_; intro g1 w1 hk1 hb1 hg1; go_frame; have q2 : w1.cell? ⟨g1, 2, none⟩ = some (.bool false) := hk1.cell 2 rfl; have q4 : w1.cell? ⟨g1, 4, none⟩ = some (.slice Ad data.length cd) := hk1.cell 4 rfl; have q5 : w1.cell? ⟨g1, 5, none⟩ = some (.slice A names.length c) := hk1.cell 5 rfl; have B1 := Lib.hid hb1; have C1 := Lib.hid hk1; clear hk1 hb1 hg1)
          | fail)
        go_ret
        exact ⟨false, rfl, ⟨fun h => (by cases h), fun h => absurd h HZ.out⟩, B1.out⟩
    · have i1 : ((names.length : Int) == 0) = false := by simp only [beq_eq_false_iff_ne, ne_eq]; omega
      have i1' : ¬ (names.length : Int) = 0 := by omega
      have HZ := Lib.hid (show ¬ HoldN ⟨ino, gen, false, chg, data, names⟩ from fun h => e1 (by rw [show names = [] from (h.file rfl).1]; rfl))
      clear e1
      go_enter Tryd.func70, Tryd.ntmps70
      go_wp2_with (first
        | ((with_reducible show wpList _ _ _ _ _ w); refine wpList_boxS rfl 48 _ rfl (ndC ⟨ino, gen, false, chg, data, names⟩ (.slice Ad data.length cd) (.slice A names.length c)) rfl ?_; intro g1 w1 hk1 hb1 hg1; go_frame; have q2 : w1.cell? ⟨g1, 2, none⟩ = some (.bool false) := hk1.cell 2 rfl; have q4 : w1.cell? ⟨g1, 4, none⟩ = some (.slice Ad data.length cd) := hk1.cell 4 rfl; have q5 : w1.cell? ⟨g1, 5, none⟩ = some (.slice A names.length c) := hk1.cell 5 rfl; have B1 := Lib.hid hb1; have C1 := Lib.hid hk1; clear hk1 hb1 hg1)
        | fail)
      go_ret
      exact ⟨false, rfl, ⟨fun h => (by cases h), fun h => absurd h HZ.out⟩, B1.out⟩
  · by_cases e1 : data.length = 0
    · have i1 : ((data.length : Int) == 0) = true := by simp only [beq_iff_eq]; omega
      have i1' : (data.length : Int) = 0 := by omega
      have HE1 := Lib.hid (List.eq_nil_of_length_eq_zero e1)
      clear e1
      by_cases e2 : names.length ≤ 32
      · have i2 : (names.length : Int) ≤ 32 := by omega
        have HE2 := Lib.hid e2
        clear e2
        go_enter Tryd.func70, Tryd.ntmps70
        go_wp2_with (first
          | ((with_reducible show wpList _ _ _ _ _ w); refine wpList_boxS rfl 48 _ rfl (ndC ⟨ino, gen, true, chg, data, names⟩ (.slice Ad data.length cd) (.slice A names.length c)) rfl ?_; intro g1 w1 hk1 hb1 hg1; go_frame; have q2 : w1.cell? ⟨g1, 2, none⟩ = some (.bool true) := hk1.cell 2 rfl; have q4 : w1.cell? ⟨g1, 4, none⟩ = some (.slice Ad data.length cd) := hk1.cell 4 rfl; have q5 : w1.cell? ⟨g1, 5, none⟩ = some (.slice A names.length c) := hk1.cell 5 rfl; have B1 := Lib.hid hb1; have C1 := Lib.hid hk1; clear hk1 hb1 hg1)
          | fail)
        refine (rise_enB names A c F w1 (by have := HE2.out; omega) (HR.out.below B1.out)).mono ?_
        rintro e w2 ⟨b, rfl, hs, hb⟩
        have B2 := Lib.hid (below_chain B1.out hb)
        have HS := Lib.hid hs
        have q5 : w2.cell? ⟨g1, 5, none⟩ = some (.slice A names.length c) := (C1.out.below hb C1.out.lt).cell 5 rfl
        clear hb q2 q4 hs
        cases b
        · go_wp2_with fail
          go_ret
          exact ⟨false, rfl, ⟨fun h => (by cases h), fun h => (by have := HS.out.2 (h.dir rfl).2.2.1; cases this)⟩, B2.out⟩
        · go_wp2_with fail
          refine (noBad_cB names A c F w2 (HT.out.below B2.out) (by have := HE2.out; omega) (HR.out.below B2.out)).mono ?_
          rintro e w3 ⟨b, rfl, hn, hb⟩
          have B3 := Lib.hid (below_chain B2.out hb)
          have HN := Lib.hid hn
          clear hb hn
          cases b
          · go_wp2_with fail
            go_ret
            exact ⟨true, by first | rfl | simp, ⟨fun _ => ⟨fun h => (by cases h), fun _ => ⟨HE1.out, HE2.out, HS.out.1 (by trivial), Classical.byContradiction fun hh => (by have := HN.out.2 hh; cases this)⟩⟩, fun _ => rfl⟩, B3.out⟩
          · go_wp2_with fail
            go_ret
            exact ⟨false, by first | rfl | simp, ⟨fun h => (by cases h), fun h => absurd (h.dir rfl).2.2.2 (HN.out.1 (by trivial))⟩, B3.out⟩
      · have i2 : ¬ (names.length : Int) ≤ 32 := by omega
        have i2' : (32 : Int) < names.length := by omega
        have HZ := Lib.hid (show ¬ HoldN ⟨ino, gen, true, chg, data, names⟩ from fun h => e2 (h.dir rfl).2.1)
        clear e2
        go_enter Tryd.func70, Tryd.ntmps70
        go_wp2_with (first
          | ((with_reducible show wpList _ _ _ _ _ w); refine wpList_boxS rfl 48 _ rfl (ndC ⟨ino, gen, true, chg, data, names⟩ (.slice Ad data.length cd) (.slice A names.length c)) rfl ?_; intro g1 w1 hk1 hb1 hg1; go_frame; have q2 : w1.cell? ⟨g1, 2, none⟩ = some (.bool true) := hk1.cell 2 rfl; have q4 : w1.cell? ⟨g1, 4, none⟩ = some (.slice Ad data.length cd) := hk1.cell 4 rfl; have q5 : w1.cell? ⟨g1, 5, none⟩ = some (.slice A names.length c) := hk1.cell 5 rfl; have B1 := Lib.hid hb1; have C1 := Lib.hid hk1; clear hk1 hb1 hg1)
          | fail)
        go_ret
        exact ⟨false, rfl, ⟨fun h => (by cases h), fun h => absurd h HZ.out⟩, B1.out⟩
    · have i1 : ((data.length : Int) == 0) = false := by simp only [beq_eq_false_iff_ne, ne_eq]; omega
      have i1' : ¬ (data.length : Int) = 0 := by omega
      have HZ := Lib.hid (show ¬ HoldN ⟨ino, gen, true, chg, data, names⟩ from fun h => e1 (by rw [show data = [] from (h.dir rfl).1]; rfl))
      clear e1
      go_enter Tryd.func70, Tryd.ntmps70
      go_wp2_with (first
        | ((with_reducible show wpList _ _ _ _ _ w); refine wpList_boxS rfl 48 _ rfl (ndC ⟨ino, gen, true, chg, data, names⟩ (.slice Ad data.length cd) (.slice A names.length c)) rfl ?_; intro g1 w1 hk1 hb1 hg1; go_frame; have q2 : w1.cell? ⟨g1, 2, none⟩ = some (.bool true) := hk1.cell 2 rfl; have q4 : w1.cell? ⟨g1, 4, none⟩ = some (.slice Ad data.length cd) := hk1.cell 4 rfl; have q5 : w1.cell? ⟨g1, 5, none⟩ = some (.slice A names.length c) := hk1.cell 5 rfl; have B1 := Lib.hid hb1; have C1 := Lib.hid hk1; clear hk1 hb1 hg1)
        | fail)
      go_ret
      exact ⟨false, rfl, ⟨fun h => (by cases h), fun h => absurd h HZ.out⟩, B1.out⟩

end Go.Proofs.YtdhlejhflkfoaaaDoor
