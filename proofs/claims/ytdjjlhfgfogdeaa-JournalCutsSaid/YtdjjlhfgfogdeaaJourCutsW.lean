/- JournalCuts, the walk: again and again the power goes. -/
import Derived.Test.YtdjjlhfgfogdeaaJourCutsP
import Derived.Test.YtdjjlhfgfogdeaaJourCutsA
namespace Go.Proofs.Ytdjjlhfgfogdeaa
open Go.RowKit Go.Shelf
set_option linter.unusedVariables false
set_option maxRecDepth 100000
set_option linter.unusedSimpArgs false

def cutZero : List Value := [.bool false, .slice none 0 0, .int .u8 0, .slice none 0 0]
theorem zeroCut (w : World) : (zeroValue 34).run Try.prog w = .ok (.agg cutZero.toArray) w := by kernel_rfl
theorem infoCut (x : Ct) : (Try.prog.info? 34).map (·.size) = some (ctCells x).length := by kernel_rfl
theorem ctCells_one (x : Ct) : ∀ v ∈ ctCells x, v.oneCell' = true := by
  intro v hv
  simp [ctCells] at hv
  rcases hv with rfl | rfl | rfl | rfl <;> rfl
theorem cut_at {w : World} {A0 : Option Addr} {l : List Ct} (h : CtsR w A0 l) (k : Nat) (hk : k < l.length) : ∃ b f, A0 = some ⟨b, f, none⟩ ∧ ∀ u, Below w.heap.size w u → At u b (f + k * 4) (ctCells l[k]) := by
  rcases h with h | ⟨b, f, e, hc⟩
  · rw [h] at hk; cases hk
  · refine ⟨b, f, e, fun u hb j v hv => ?_⟩
    have := hc k hk j v hv
    exact (hb.cell (lt_of_cell this)).trans this
/-- bytes of old memory, beside what lies in F -/
theorem rdf_old {w u : World} {F : Nat → Prop} {A : Option Addr} {l : List UInt8} (h : Rd w A l) (hb : Below w.heap.size w u) (hF : ∀ i, F i → w.heap.size ≤ i) : RdF u (Else F u) A l := by
  have h1 : RdF w (· < w.heap.size) A l := h.f fun b off _ hlt => hlt
  rcases h1 with h1 | ⟨b, off, e, hlt, hc⟩
  · exact .inl h1
  · exact .inr ⟨b, off, e, ⟨fun hf => absurd (hF b hf) (Nat.not_le.2 hlt), Nat.lt_of_lt_of_le hlt hb.size⟩, fun j hj => (hb.cell (lt_of_cell (hc j hj))).trans (hc j hj)⟩
theorem Below.both {a b c : World} (h : Below a.heap.size a b) (k : Below a.heap.size a c) : a.heap.size ≤ b.heap.size ∧ a.heap.size ≤ c.heap.size := ⟨h.size, k.size⟩
theorem cut_c0 {w : World} {g : Nat} {z : Ct} (h : Cs w g 34 (ctCells z).toArray) : w.cell? ⟨g, 0, none⟩ = some (.bool z.all) := h.cell 0 rfl
theorem cut_c1 {w : World} {g : Nat} {z : Ct} (h : Cs w g 34 (ctCells z).toArray) : w.cell? ⟨g, 1, none⟩ = some (.slice z.b z.l.length z.c) := h.cell 1 rfl
theorem cut_c2 {w : World} {g : Nat} {z : Ct} (h : Cs w g 34 (ctCells z).toArray) : w.cell? ⟨g, 2, none⟩ = some (.int .u8 (z.arm : Int)) := h.cell 2 rfl
theorem cut_c3 {w : World} {g : Nat} {z : Ct} (h : Cs w g 34 (ctCells z).toArray) : w.cell? ⟨g, 3, none⟩ = some (.slice z.p z.picks.length z.pc) := h.cell 3 rfl
/-- at the loop's beginning -/
theorem cut_start {w u : World} {d jb : Nat} {v : Value} {s : DS} {j : JS} (ho : OnJ u jb d v j s 64 (fun i => w.heap.size ≤ i ∧ i < u.heap.size)) (ht : Tells s 64 j) (hh : Head 64 s [[]] 0) (hb : Below w.heap.size w u) :
    CutI w d jb (some ⟨u.heap.size, 0, none⟩) 1 0 [[]] (fun i => w.heap.size ≤ i ∧ i < u.heap.size) v s j (u.alloc (.cells #[.slice none 0 0] 31)) := by
  have h1 := (Below.refl u.heap.size u).alloc (Nat.le_refl _) (.cells #[.slice none 0 0] 31)
  have hs : (u.alloc (.cells #[.slice none 0 0] 31)).heap.size = u.heap.size + 1 := by simp
  have hc := (Cs.new u 31 #[.slice none 0 0]).cell 0 rfl
  refine ⟨ho.below h1, ht, hh, fun i hi => ⟨hi.1, by omega⟩, .inr ⟨u.heap.size, 0, [.slice none 0 0], rfl, ⟨fun hf => absurd hf.2 (Nat.lt_irrefl _), by omega⟩, (BsL.nil _ _).snoc (BsV.nil _ _), fun j v hv => ?_⟩, (fun h => by cases h), ⟨Nat.le_refl _, by simp [maxLen]⟩, fun b hb => ?_, below_chain hb h1⟩
  · cases j with
    | zero => cases hv; exact hc
    | succ j => simp at hv
  · simp at hb; subst hb; decide
set_option maxHeartbeats 1000000 in
theorem cuts_walk (l : List Ct) (A0 : Option Addr) (c0 : Nat) (w : World) (hr : CtsR w A0 l) (hok : ∀ x ∈ l, CtOk w x) (hlen : l.length ≤ maxLen) : Calls Try.prog 3 #[.slice A0 l.length c0] w fun e w' => e = .returned (.bool true) ∧ Below w.heap.size w w' := by
  have RD := Lib.hid hr
  have OK := Lib.hid hok
  unfold maxLen at hlen
  have hl1 : (l.length : Int) ≤ 9223372036854775807 := by omega
  clear hr hok hlen
  go_enter Try.func3, Try.ntmps3
  go_wp2_with fail
  refine (New_v 128 w (by decide) (by decide)).mono ?_
  rintro e w1 ⟨d, rfl, hd, hb1⟩
  have D1 := Lib.hid (show DiskV w1 d (fresh (2 * 64)) (w.heap.size ≤ ·) from hd)
  have B1 := Lib.hid hb1
  clear hd hb1
  go_wp2_with fail
  refine (cut_make B1.out D1.out).mono ?_
  rintro e w2 ⟨jb0, v0, s0, j0, rfl, ho, ht, hh, hb⟩
  have H0 := Lib.hid (cut_start ho ht hh hb)
  clear ho ht hh hb B1 D1
  go_wp2_with fail
  go_loopw [5, 6, 7] (fun jv nv i wr => ∃ (k jb : Nat) (A : Option Addr) (c : Nat) (now : List (List UInt8)) (F : Nat → Prop) (v : Value) (s : DS) (j : JS), k ≤ l.length ∧ k ≤ 20 ∧ i = .int .i64 (k : Int) ∧ jv = .pointer (some ⟨jb, 0, none⟩) ∧ nv = .slice A now.length c ∧ now ≠ [] ∧ CutI w d jb A c k now F v s j wr) (fun _ _ i _ => 20 - (intOf i).toNat)
  case atStart => exact ⟨0, jb0, _, 1, [[]], _, v0, s0, j0, Nat.zero_le _, Nat.zero_le _, rfl, rfl, rfl, by simp, H0.out⟩
  case round =>
    clear H0
    obtain ⟨k, jb, A, c, now, F, v, s, j, hk, hk20, rfl, rfl, rfl, hne, hI⟩ := hrel
    have HI := Lib.hid hI
    have HNE := Lib.hid hne
    clear hI hne
    have hk1 : (k : Int) ≤ 20 := by omega
    by_cases hlt : k < l.length ∧ k < 20
    · have lt1 : (k : Int) < (l.length : Int) := by omega
      have lt2 : (k : Int) < 20 := by omega
      obtain ⟨lb, lf, hA, hct⟩ := cut_at RD.out k hlt.1
      have hz := Lib.hid (OK.out _ (List.getElem_mem hlt.1))
      obtain ⟨z, hzz⟩ : ∃ z, l[k] = z := ⟨_, rfl⟩
      rw [hzz] at hz hct
      have CT := Lib.hid hct
      subst hA
      clear hct hzz
      have harm : (z.arm : Int) ≤ 255 := by have := hz.out.arm; omega
      by_cases hs : 2000 < z.l.length
      · have hs' : (2000 : Int) < (z.l.length : Int) := by omega
        go_wp2_with (first
          | ((with_reducible show wpList _ _ _ _ _ wr); refine wpList_load_agg rfl 34 (.tmp 41) rfl lb (lf + k * 4) rfl (ctCells z) (CT.out _ HI.out.below) _ Try.underlying34 rfl (infoCut z) ?_; go_frame)
          | ((with_reducible show wpList _ _ _ _ _ wr); refine wpList_allocS rfl 34 rfl _ zeroCut ?_; intro g8 u1 hk1 hb1 hg1; go_frame; have K1 := Lib.hid hk1; have B1 := Lib.hid hb1; have G1 := Lib.hid hg1; clear hk1 hb1 hg1)
          | ((with_reducible show wpList _ _ _ _ _ u1); refine wpList_storeS rfl 34 _ _ rfl g8 rfl (ctCells z) _ rfl K1.out rfl (ctCells_one z) (infoCut z) ?_; intro u2 hk2 ht2; go_frame; have K2 := Lib.hid hk2; have T2 := Lib.hid ht2; have q1 := cut_c1 hk2; have q2 := cut_c2 hk2; clear hk2 ht2))
        have z1 := B1.out.size
        have z2 := T2.out.size
        have B2 := Lib.hid ((B1.out.trans (T2.out.below z1 fun i e => by have := G1.out; omega)))
        have E2 := Lib.hid (show Else F u2 g8 from ⟨fun hf => by have := (HI.out.mem g8 hf).2; have := G1.out; omega, K2.out.lt⟩)
        have F2 := Lib.hid (Foot.of_below (F := F) B2.out fun i hi => (HI.out.mem i hi).2)
        have ON2 := Lib.hid (HI.out.on.below B2.out)
        have N2 := Lib.hid (F2.out.old (Nat.le_refl wr.heap.size) (HI.out.now'.mono (G := Old F wr.heap.size) fun _ h => h))
        have BW2 := Lib.hid (below_chain HI.out.below B2.out)
        have ZB := Lib.hid (show wr.heap.size ≤ u2.heap.size by omega)
        clear K1 B1 G1 T2 z1 z2 B2 F2
        clear q2

        refine (lives_any _).mono ?_
        rintro e uf ⟨rfl, hbf⟩
        have BF := Lib.hid hbf
        clear hbf
        go_wp2_with fail
        go_ret
        exact ⟨rfl, below_chain BW2.out BF.out⟩
      · have hs' : ¬ (2000 : Int) < (z.l.length : Int) := by omega
        go_wp2_with (first
          | ((with_reducible show wpList _ _ _ _ _ wr); refine wpList_load_agg rfl 34 (.tmp 41) rfl lb (lf + k * 4) rfl (ctCells z) (CT.out _ HI.out.below) _ Try.underlying34 rfl (infoCut z) ?_; go_frame)
          | ((with_reducible show wpList _ _ _ _ _ wr); refine wpList_allocS rfl 34 rfl _ zeroCut ?_; intro g8 u1 hk1 hb1 hg1; go_frame; have K1 := Lib.hid hk1; have B1 := Lib.hid hb1; have G1 := Lib.hid hg1; clear hk1 hb1 hg1)
          | ((with_reducible show wpList _ _ _ _ _ u1); refine wpList_storeS rfl 34 _ _ rfl g8 rfl (ctCells z) _ rfl K1.out rfl (ctCells_one z) (infoCut z) ?_; intro u2 hk2 ht2; go_frame; have K2 := Lib.hid hk2; have T2 := Lib.hid ht2; have q1 := cut_c1 hk2; have q2 := cut_c2 hk2; clear hk2 ht2))
        have z1 := B1.out.size
        have z2 := T2.out.size
        have B2 := Lib.hid ((B1.out.trans (T2.out.below z1 fun i e => by have := G1.out; omega)))
        have E2 := Lib.hid (show Else F u2 g8 from ⟨fun hf => by have := (HI.out.mem g8 hf).2; have := G1.out; omega, K2.out.lt⟩)
        have F2 := Lib.hid (Foot.of_below (F := F) B2.out fun i hi => (HI.out.mem i hi).2)
        have ON2 := Lib.hid (HI.out.on.below B2.out)
        have N2 := Lib.hid (F2.out.old (Nat.le_refl wr.heap.size) (HI.out.now'.mono (G := Old F wr.heap.size) fun _ h => h))
        have BW2 := Lib.hid (below_chain HI.out.below B2.out)
        have ZB := Lib.hid (show wr.heap.size ≤ u2.heap.size by omega)
        clear K1 B1 G1 T2 z1 z2 B2 F2

        clear q1 q2
        refine (step_arm ON2.out HI.out.head.light z.arm hz.out.arm).mono ?_
        rintro e u3 ⟨rfl, F3, ho, hf⟩
        have ON3 := Lib.hid ho
        have FT := Lib.hid hf
        obtain ⟨k3, e3⟩ := hf.cs K2.out E2.out
        have K3 := Lib.hid k3
        have E3 := Lib.hid e3
        have N3 := Lib.hid (hf.old ZB.out N2.out)
        have BW3 := Lib.hid (hf.below BW2.out fun i hi => (HI.out.mem i hi).1)
        have L3 := Lib.hid (hf.low BW2.out.size fun i hi => (HI.out.mem i hi).1)
        have M3 := Lib.hid (show ∀ i, F3 i → i < u3.heap.size from fun i hi => (hf.take i hi).2)
        have ZB3 := Lib.hid (show wr.heap.size ≤ u3.heap.size from Nat.le_trans ZB.out hf.turn.size)
        clear ho hf k3 e3 ON2 K2 E2 N2 BW2 ZB FT
        obtain ⟨al, hall⟩ : ∃ al, z.all = al := ⟨_, rfl⟩
        cases al
        · have q0 := cut_c0 K3.out
          have q1 := cut_c1 K3.out
          rw [hall] at q0
          clear hall
          
          obtain ⟨nb, noff, nvs, rfl, hbl, hcl⟩ := N3.out.src HNE.out
          have HBL := Lib.hid hbl
          have HCL := Lib.hid hcl
          clear hbl hcl
          have hfew := HI.out.few
          clear q1
          go_wp2_with (first
            | (at_builtin; go_loud (refine wpList_append_bs rfl _ _ rfl wr.heap.size (More (Else F3 u3) u3) (.slice none 0 0) [] rfl (OwnR.nil _ _ _) nb noff now.length c rfl nvs now rfl (HBL.out.mono fun i hi h => ⟨.inl ⟨h.1, hi⟩, by simp [Value.ownBlock]⟩) HCL.out (by simp; omega) ZB3.out (.inr (Nat.le_refl _)) ?_; intro v4 u4 ho4 hg4; rw [List.nil_append] at ho4; have A4 := Lib.hid (cut_aft (cs := (ctCells z).toArray) (by decide) ON3.out N3.out K3.out E3.out BW3.out M3.out (OwnR.nil u3 wr.heap.size (Else F3 u3)) HI.out.below.size (Below.refl _ _) hg4 ho4); have z4 := hg4.size; have q1 := cut_c1 A4.out.cs; clear ho4 hg4; go_frame)))
          have ON4 := Lib.hid A4.out.on
          have N4 := Lib.hid A4.out.now'
          have K4 := Lib.hid A4.out.cs
          have E4 := Lib.hid A4.out.els
          have BW4 := Lib.hid A4.out.below
          have L4 := L3
          have M4 := Lib.hid A4.out.mem
          have O4 := Lib.hid A4.out.own
          have ZB4 := Lib.hid (show wr.heap.size ≤ u4.heap.size from Nat.le_trans ZB3.out z4)
          clear A4 z4 HBL HCL ON3 N3 K3 E3 BW3 M3 L3 ZB3
          clear q0
          clear q1
          have hst := HI.out.head.steps
          have hap := step_app (A := z.b) (c := z.c) z.l ON4.out (rdf_old hz.out.rd BW4.out L4.out) hz.out.non hz.out.cap.1 hz.out.cap.2 (by show s.steps + 30000 < _; omega) HI.out.head.queue
          clear hst
          rcases cut_append HI.out.head HI.out.tells z.arm (l := z.l) (by omega) (by omega) with h10 | ⟨hr, hq, hH⟩
          · have hJ : appJ (armed s z.arm) j 64 z.l = j := by unfold appJ; rw [h10]; exact if_neg (show ¬ (10 : Int) = 0 by decide)
            rw [hJ, h10] at hap
            clear hJ h10
            refine hap.mono ?_
            clear hap
            rintro e u5 ⟨rfl, v5, F5, ho, hf⟩
            have ON5 := Lib.hid ho
            obtain ⟨k5, e5⟩ := hf.cs K4.out E4.out
            have K5 := Lib.hid k5
            have E5 := Lib.hid e5
            have N5 := Lib.hid (hf.old ZB4.out N4.out)
            have BW5 := Lib.hid (hf.below BW4.out L4.out)
            have L5 := Lib.hid (hf.low BW4.out.size L4.out)
            have M5 := Lib.hid (show ∀ i, F5 i → i < u5.heap.size from fun i hi => (hf.take i hi).2)
            have ZB5 := Lib.hid (show wr.heap.size ≤ u5.heap.size from Nat.le_trans ZB4.out hf.turn.size)
            have O5 := Lib.hid (hf.ownR O4.out)
            clear ho hf k5 e5 ON4 K4 E4 N4 BW4 L4 M4 ZB4 O4
            have q1 := cut_c1 K5.out
            go_wp2_with (first
              | (at_builtin; go_loud (refine wpList_append_b1 rfl _ _ rfl wr.heap.size (More (Else F5 u5) u5) v4 now rfl ((O5.out.mono fun k _ hk => Or.inl hk).below ((Below.refl u5.heap.size u5).alloc (Nat.le_refl _) _)) u5.heap.size 1 rfl (.slice z.b z.l.length z.c) z.l ⟨z.b, z.c, rfl, rdf_app hz.out.rd BW5.out L5.out O5.out HI.out.below.size ((Below.refl u5.heap.size u5).alloc (Nat.le_refl _) _), hz.out.non, hz.out.cap⟩ ((Cs.new _ _ _).cell 0 rfl) (by first | (simp; done) | (simp; omega)) (by have := ZB5.out; simp; omega) (Or.inr (by simp)) ?_; intro v6 u6 ho6 hg6; have AF := Lib.hid (cut_aft (cs := (ctCells z).toArray) (by decide) ON5.out N5.out K5.out E5.out BW5.out M5.out O5.out HI.out.below.size ((Below.refl u5.heap.size u5).alloc (Nat.le_refl _) _) hg6 ho6); have Z6 := Lib.hid (show wr.heap.size ≤ u6.heap.size from by have := ZB5.out; have := hg6.size; have := ((Below.refl u5.heap.size u5).alloc (Nat.le_refl _) (.cells #[.slice z.b z.l.length z.c] 31)).size; omega); clear ho6 hg6; go_frame)))
            clear q1 ON5 K5 E5 N5 BW5 M5 O5 ZB5
            refine (step_arm AF.out.on HI.out.head.light 0 (by decide)).mono ?_
            rintro e u7 ⟨rfl, F7, ho, hf⟩
            have L7 := hf.low AF.out.below.size L5.out
            have C7 := Lib.hid (cut_full HI.out ho (fun i hi => ⟨L7 i hi, (hf.take i hi).2⟩) (hf.old Z6.out AF.out.now') (Nat.le_trans Z6.out hf.turn.size) (hf.below AF.out.below L5.out))
            clear ho hf L7 AF Z6 L5
            go_wp2_with fail
            go_roundw
            case rel => exact ⟨k + 1, jb, _, c, now, F7, v5, _, j, by omega, by omega, by go_num, rfl, rfl, HNE.out, C7.out⟩
            case measure => simp [intOf]; omega
          rcases hr with hr | hr
          · rw [hr] at hap hH
            clear hr
            have HQ := Lib.hid hq
            have HH := Lib.hid hH
            clear hq hH
            generalize (appR (armed s z.arm) j 64 z.l).1 = s6 at *
            generalize appJ (armed s z.arm) j 64 z.l = j6 at *
            refine hap.mono ?_
            clear hap
            rintro e u5 ⟨rfl, v5, F5, ho, hf⟩
            have ON5 := Lib.hid ho
            obtain ⟨k5, e5⟩ := hf.cs K4.out E4.out
            have K5 := Lib.hid k5
            have E5 := Lib.hid e5
            have N5 := Lib.hid (hf.old ZB4.out N4.out)
            have BW5 := Lib.hid (hf.below BW4.out L4.out)
            have L5 := Lib.hid (hf.low BW4.out.size L4.out)
            have M5 := Lib.hid (show ∀ i, F5 i → i < u5.heap.size from fun i hi => (hf.take i hi).2)
            have ZB5 := Lib.hid (show wr.heap.size ≤ u5.heap.size from Nat.le_trans ZB4.out hf.turn.size)
            have O5 := Lib.hid (hf.ownR O4.out)
            clear ho hf k5 e5 ON4 K4 E4 N4 BW4 L4 M4 ZB4 O4
            have q1 := cut_c1 K5.out
            go_wp2_with (first
              | (at_builtin; go_loud (refine wpList_append_b1 rfl _ _ rfl wr.heap.size (More (Else F5 u5) u5) v4 now rfl ((O5.out.mono fun k _ hk => Or.inl hk).below ((Below.refl u5.heap.size u5).alloc (Nat.le_refl _) _)) u5.heap.size 1 rfl (.slice z.b z.l.length z.c) z.l ⟨z.b, z.c, rfl, rdf_app hz.out.rd BW5.out L5.out O5.out HI.out.below.size ((Below.refl u5.heap.size u5).alloc (Nat.le_refl _) _), hz.out.non, hz.out.cap⟩ ((Cs.new _ _ _).cell 0 rfl) (by first | (simp; done) | (simp; omega)) (by have := ZB5.out; simp; omega) (Or.inr (by simp)) ?_; intro v6 u6 ho6 hg6; have AF := Lib.hid (cut_aft (cs := (ctCells z).toArray) (by decide) ON5.out N5.out K5.out E5.out BW5.out M5.out O5.out HI.out.below.size ((Below.refl u5.heap.size u5).alloc (Nat.le_refl _) _) hg6 ho6); have Z6 := Lib.hid (show wr.heap.size ≤ u6.heap.size from by have := ZB5.out; have := hg6.size; have := ((Below.refl u5.heap.size u5).alloc (Nat.le_refl _) (.cells #[.slice z.b z.l.length z.c] 31)).size; omega); have q3 := cut_c3 AF.out.cs; clear ho6 hg6; go_frame)))
            clear q1 ON5 K5 E5 N5 BW5 M5 O5 ZB5
            have SH := Lib.hid (show ∀ b ∈ (now ++ [z.l]), b.length ≤ 2000 from fun b hb => by
              simp at hb
              rcases hb with hb | rfl
              · exact HI.out.short b hb
              · omega)
            have TN := Lib.hid (show (now ++ [z.l]) ≠ [] by simp)
            have TF : (now ++ [z.l]).length ≤ 9000 := by simp; try omega
            generalize (now ++ [z.l]) = th at *
            clear q3
            obtain ⟨now', hh, hn1, hn2⟩ := HH.out z.picks
            clear HH
            refine (step_crash AF.out.on.disk z.picks z.p z.pc (hz.out.picks.old AF.out.below) hz.out.wf HQ.out hz.out.few).mono ?_
            rintro e u7 ⟨rfl, F7, hd7, hf7⟩
            have D7 := Lib.hid hd7
            have L7 := Lib.hid (hf7.low AF.out.below.size L5.out)
            have BW7 := Lib.hid (hf7.below AF.out.below L5.out)
            have Z7 := Lib.hid (show wr.heap.size ≤ u7.heap.size from Nat.le_trans Z6.out hf7.turn.size)
            have M7 := Lib.hid (show ∀ i, F7 i → i < u7.heap.size from fun i hi => (hf7.take i hi).2)
            have N7 := Lib.hid (hf7.old Z6.out AF.out.now')
            have O7 := Lib.hid (hf7.ownR AF.out.own)
            have HD := Lib.hid hh
            clear hd7 hf7 hh AF L5 Z6
            go_wp2_with fail
            refine (step_open D7.out HD.out (by omega) M7.out).mono ?_
            rintro e u8 ⟨jb8, v8, j8, F8, rfl, ho8, ht8, hf8, hb8⟩
            have hjb : j8.batches = now' := ht8.own HD.out.batches
            have ON8 := Lib.hid ho8
            have T8 := Lib.hid ht8
            have L8 := Lib.hid (hf8.low BW7.out.size L7.out)
            have BW8 := Lib.hid (below_chain BW7.out hb8)
            have Z8 := Lib.hid (show wr.heap.size ≤ u8.heap.size from Nat.le_trans Z7.out hb8.size)
            have M8 := Lib.hid (show ∀ i, F8 i → i < u8.heap.size from fun i hi => (hf8.take i hi).2)
            have N8 := Lib.hid (hf8.old Z7.out N7.out)
            have O8 := Lib.hid (hf8.ownR O7.out)
            clear ho8 ht8 hf8 hb8 D7 L7 BW7 Z7 M7 N7 O7
            go_wp2_with fail
            obtain rfl := hn2 (by first | trivial | rfl)
            clear hn1 hn2
            have SHN := SH
            have NNE := TN
            obtain ⟨A6, c6, e6, hr6, -⟩ := O8.out.form
            subst e6
            have R6 := Lib.hid hr6
            clear hr6 O8
            have hfn := HI.out.few
            have hbat := Batches_v ON8.out (by rw [hjb]; exact fun b hb => by have := SHN.out b hb; omega)
            rw [hjb] at hbat
            clear hjb
            refine hbat.mono ?_
            clear hbat
            rintro e u9 ⟨v9, vs9, rfl, ho9, hb9⟩
            obtain ⟨A9, c9, rfl, hr9, hl9, hm9, hn9⟩ := (ho9.r.mono (G := Else F8 u9) fun i hi h => ⟨fun hf => by have := M8.out i hf; omega, hi⟩).form
            have hw9 : A9 = none → now' = [] ∧ c9 = 0 := hn9
            have W9 := Lib.hid hw9
            have R9 := Lib.hid hr9
            have C9 := Lib.hid (And.intro hl9 hm9)
            have B9 := Lib.hid hb9
            clear ho9 hb9 hr9 hl9 hm9 hn9 hw9
            go_wp2_with fail
            have hli := Lists_any now' now' A9 A6 c9 c6 _ _ u9 (by omega) (by omega) R9.out ((R6.out).below B9.out)
            rw [show (now' == now') = true by simp] at hli
            refine hli.mono ?_
            clear hli
            rintro e u10 ⟨rfl, hb10⟩
            have B10 := Lib.hid hb10
            clear hb10
            go_wp2_with fail
            go_roundw
            case rel => exact ⟨k + 1, jb8, A9, c9, now', F8, v8, _, j8, by omega, by omega, by go_num, rfl, rfl, NNE.out, ⟨ON8.out.below (below_chain B9.out B10.out), T8.out, HD.out, fun i hi => ⟨L8.out i hi, Nat.lt_of_lt_of_le (M8.out i hi) ((below_chain B9.out B10.out)).size⟩, (R9.out.below B10.out).mono fun i hi => ⟨hi.1, Nat.lt_of_lt_of_le hi.2 (B10.out).size⟩, W9.out, C9.out, SHN.out, below_chain BW8.out (below_chain B9.out B10.out)⟩⟩
            case measure => simp [intOf]; omega
          · rw [hr] at hap hH
            clear hr
            have HQ := Lib.hid hq
            have HH := Lib.hid hH
            clear hq hH
            generalize (appR (armed s z.arm) j 64 z.l).1 = s6 at *
            generalize appJ (armed s z.arm) j 64 z.l = j6 at *
            refine hap.mono ?_
            clear hap
            rintro e u5 ⟨rfl, v5, F5, ho, hf⟩
            have ON5 := Lib.hid ho
            obtain ⟨k5, e5⟩ := hf.cs K4.out E4.out
            have K5 := Lib.hid k5
            have E5 := Lib.hid e5
            have N5 := Lib.hid (hf.old ZB4.out N4.out)
            have BW5 := Lib.hid (hf.below BW4.out L4.out)
            have L5 := Lib.hid (hf.low BW4.out.size L4.out)
            have M5 := Lib.hid (show ∀ i, F5 i → i < u5.heap.size from fun i hi => (hf.take i hi).2)
            have ZB5 := Lib.hid (show wr.heap.size ≤ u5.heap.size from Nat.le_trans ZB4.out hf.turn.size)
            have O5 := Lib.hid (hf.ownR O4.out)
            clear ho hf k5 e5 ON4 K4 E4 N4 BW4 L4 M4 ZB4 O4
            have q1 := cut_c1 K5.out
            go_wp2_with (first
              | (at_builtin; go_loud (refine wpList_append_b1 rfl _ _ rfl wr.heap.size (More (Else F5 u5) u5) v4 now rfl ((O5.out.mono fun k _ hk => Or.inl hk).below ((Below.refl u5.heap.size u5).alloc (Nat.le_refl _) _)) u5.heap.size 1 rfl (.slice z.b z.l.length z.c) z.l ⟨z.b, z.c, rfl, rdf_app hz.out.rd BW5.out L5.out O5.out HI.out.below.size ((Below.refl u5.heap.size u5).alloc (Nat.le_refl _) _), hz.out.non, hz.out.cap⟩ ((Cs.new _ _ _).cell 0 rfl) (by first | (simp; done) | (simp; omega)) (by have := ZB5.out; simp; omega) (Or.inr (by simp)) ?_; intro v6 u6 ho6 hg6; have AF := Lib.hid (cut_aft (cs := (ctCells z).toArray) (by decide) ON5.out N5.out K5.out E5.out BW5.out M5.out O5.out HI.out.below.size ((Below.refl u5.heap.size u5).alloc (Nat.le_refl _) _) hg6 ho6); have Z6 := Lib.hid (show wr.heap.size ≤ u6.heap.size from by have := ZB5.out; have := hg6.size; have := ((Below.refl u5.heap.size u5).alloc (Nat.le_refl _) (.cells #[.slice z.b z.l.length z.c] 31)).size; omega); have q3 := cut_c3 AF.out.cs; clear ho6 hg6; go_frame)))
            clear q1 ON5 K5 E5 N5 BW5 M5 O5 ZB5
            have SH := Lib.hid (show ∀ b ∈ (now ++ [z.l]), b.length ≤ 2000 from fun b hb => by
              simp at hb
              rcases hb with hb | rfl
              · exact HI.out.short b hb
              · omega)
            have TN := Lib.hid (show (now ++ [z.l]) ≠ [] by simp)
            have TF : (now ++ [z.l]).length ≤ 9000 := by simp; try omega
            generalize (now ++ [z.l]) = th at *
            clear q3
            obtain ⟨now', hh, hn1, hn2⟩ := HH.out z.picks
            clear HH
            refine (step_crash AF.out.on.disk z.picks z.p z.pc (hz.out.picks.old AF.out.below) hz.out.wf HQ.out hz.out.few).mono ?_
            rintro e u7 ⟨rfl, F7, hd7, hf7⟩
            have D7 := Lib.hid hd7
            have L7 := Lib.hid (hf7.low AF.out.below.size L5.out)
            have BW7 := Lib.hid (hf7.below AF.out.below L5.out)
            have Z7 := Lib.hid (show wr.heap.size ≤ u7.heap.size from Nat.le_trans Z6.out hf7.turn.size)
            have M7 := Lib.hid (show ∀ i, F7 i → i < u7.heap.size from fun i hi => (hf7.take i hi).2)
            have N7 := Lib.hid (hf7.old Z6.out AF.out.now')
            have O7 := Lib.hid (hf7.ownR AF.out.own)
            have HD := Lib.hid hh
            clear hd7 hf7 hh AF L5 Z6
            go_wp2_with fail
            refine (step_open D7.out HD.out (by omega) M7.out).mono ?_
            rintro e u8 ⟨jb8, v8, j8, F8, rfl, ho8, ht8, hf8, hb8⟩
            have hjb : j8.batches = now' := ht8.own HD.out.batches
            have ON8 := Lib.hid ho8
            have T8 := Lib.hid ht8
            have L8 := Lib.hid (hf8.low BW7.out.size L7.out)
            have BW8 := Lib.hid (below_chain BW7.out hb8)
            have Z8 := Lib.hid (show wr.heap.size ≤ u8.heap.size from Nat.le_trans Z7.out hb8.size)
            have M8 := Lib.hid (show ∀ i, F8 i → i < u8.heap.size from fun i hi => (hf8.take i hi).2)
            have N8 := Lib.hid (hf8.old Z7.out N7.out)
            have O8 := Lib.hid (hf8.ownR O7.out)
            clear ho8 ht8 hf8 hb8 D7 L7 BW7 Z7 M7 N7 O7
            go_wp2_with fail
            clear hn2
            have hfn := HI.out.few
            by_cases hnow : now' = now
            · subst hnow
              clear hn1
              have SHN := Lib.hid HI.out.short
              have NNE := HNE
              have hbat := Batches_v ON8.out (by rw [hjb]; exact fun b hb => by have := SHN.out b hb; omega)
              rw [hjb] at hbat
              clear hjb
              refine hbat.mono ?_
              clear hbat
              rintro e u9 ⟨v9, vs9, rfl, ho9, hb9⟩
              obtain ⟨A9, c9, rfl, hr9, hl9, hm9, hn9⟩ := (ho9.r.mono (G := Else F8 u9) fun i hi h => ⟨fun hf => by have := M8.out i hf; omega, hi⟩).form
              have hw9 : A9 = none → now' = [] ∧ c9 = 0 := hn9
              have W9 := Lib.hid hw9
              have R9 := Lib.hid hr9
              have C9 := Lib.hid (And.intro hl9 hm9)
              have B9 := Lib.hid hb9
              clear ho9 hb9 hr9 hl9 hm9 hn9 hw9
              go_wp2_with fail
              have hli := Lists_any now' now' A9 (some ⟨nb, noff, none⟩) c9 c _ _ u9 (by omega) (by omega) R9.out ((N8.out).below B9.out)
              rw [show (now' == now') = true by simp] at hli
              refine hli.mono ?_
              clear hli
              rintro e u10 ⟨rfl, hb10⟩
              have B10 := Lib.hid hb10
              clear hb10
              go_wp2_with fail
              go_roundw
              case rel => exact ⟨k + 1, jb8, A9, c9, now', F8, v8, _, j8, by omega, by omega, by go_num, rfl, rfl, NNE.out, ⟨ON8.out.below (below_chain B9.out B10.out), T8.out, HD.out, fun i hi => ⟨L8.out i hi, Nat.lt_of_lt_of_le (M8.out i hi) ((below_chain B9.out B10.out)).size⟩, (R9.out.below B10.out).mono fun i hi => ⟨hi.1, Nat.lt_of_lt_of_le hi.2 (B10.out).size⟩, W9.out, C9.out, SHN.out, below_chain BW8.out (below_chain B9.out B10.out)⟩⟩
              case measure => simp [intOf]; omega
            · obtain rfl := hn1.resolve_left hnow
              clear hn1
              have SHN := SH
              have NNE := TN
              obtain ⟨A6, c6, e6, hr6, -⟩ := O8.out.form
              subst e6
              have R6 := Lib.hid hr6
              clear hr6 O8
              have hbat := Batches_v ON8.out (by rw [hjb]; exact fun b hb => by have := SHN.out b hb; omega)
              rw [hjb] at hbat
              clear hjb
              refine hbat.mono ?_
              clear hbat
              rintro e u9 ⟨v9, vs9, rfl, ho9, hb9⟩
              obtain ⟨A9, c9, rfl, hr9, hl9, hm9, hn9⟩ := (ho9.r.mono (G := Else F8 u9) fun i hi h => ⟨fun hf => by have := M8.out i hf; omega, hi⟩).form
              have hw9 : A9 = none → now' = [] ∧ c9 = 0 := hn9
              have W9 := Lib.hid hw9
              have R9 := Lib.hid hr9
              have C9 := Lib.hid (And.intro hl9 hm9)
              have B9 := Lib.hid hb9
              clear ho9 hb9 hr9 hl9 hm9 hn9 hw9
              go_wp2_with fail
              have hli := Lists_any now' now A9 (some ⟨nb, noff, none⟩) c9 c _ _ u9 (by omega) (by omega) R9.out ((N8.out).below B9.out)
              rw [show (now' == now) = false by simp [hnow]] at hli
              refine hli.mono ?_
              clear hli
              rintro e u10 ⟨rfl, hb10⟩
              have B10 := Lib.hid hb10
              clear hb10
              go_wp2_with fail
              have hli := Lists_any now' now' A9 A6 c9 c6 _ _ u10 (by omega) (by omega) (R9.out.below B10.out) ((R6.out).below (below_chain B9.out B10.out))
              rw [show (now' == now') = true by simp] at hli
              refine hli.mono ?_
              clear hli
              rintro e u11 ⟨rfl, hb11⟩
              have B11 := Lib.hid hb11
              clear hb11
              go_wp2_with fail
              go_roundw
              case rel => exact ⟨k + 1, jb8, A9, c9, now', F8, v8, _, j8, by omega, by omega, by go_num, rfl, rfl, NNE.out, ⟨ON8.out.below (below_chain (below_chain B9.out B10.out) B11.out), T8.out, HD.out, fun i hi => ⟨L8.out i hi, Nat.lt_of_lt_of_le (M8.out i hi) ((below_chain (below_chain B9.out B10.out) B11.out)).size⟩, (R9.out.below (below_chain B10.out B11.out)).mono fun i hi => ⟨hi.1, Nat.lt_of_lt_of_le hi.2 ((below_chain B10.out B11.out)).size⟩, W9.out, C9.out, SHN.out, below_chain BW8.out (below_chain (below_chain B9.out B10.out) B11.out)⟩⟩
              case measure => simp [intOf]; omega
        · have q0 := cut_c0 K3.out
          have q1 := cut_c1 K3.out
          rw [hall] at q0
          clear hall
          go_wp2_with fail
          clear q0
          clear q1
          have hst := HI.out.head.steps
          have hap := step_rep (A := z.b) (c := z.c) z.l ON3.out (rdf_old hz.out.rd BW3.out L3.out) hz.out.non hz.out.cap.1 hz.out.cap.2 (by show s.steps + 30000 < _; omega) HI.out.head.queue
          clear hst
          obtain ⟨hr, hq, hH⟩ := cut_replace HI.out.head HI.out.tells z.arm (l := z.l) (by omega) (by omega) (by decide)
          rcases hr with hr | hr
          · rw [hr] at hap hH
            clear hr
            have HQ := Lib.hid hq
            have HH := Lib.hid hH
            clear hq hH
            generalize (repR (armed s z.arm) j 64 z.l).1 = s6 at *
            generalize repJ (armed s z.arm) j 64 z.l = j6 at *
            refine hap.mono ?_
            clear hap
            rintro e u5 ⟨rfl, v5, F5, ho, hf⟩
            have ON5 := Lib.hid ho
            obtain ⟨k5, e5⟩ := hf.cs K3.out E3.out
            have K5 := Lib.hid k5
            have E5 := Lib.hid e5
            have N5 := Lib.hid (hf.old ZB3.out N3.out)
            have BW5 := Lib.hid (hf.below BW3.out L3.out)
            have L5 := Lib.hid (hf.low BW3.out.size L3.out)
            have M5 := Lib.hid (show ∀ i, F5 i → i < u5.heap.size from fun i hi => (hf.take i hi).2)
            have ZB5 := Lib.hid (show wr.heap.size ≤ u5.heap.size from Nat.le_trans ZB3.out hf.turn.size)
            have O5 := Lib.hid (OwnR.nil u5 wr.heap.size (Else F5 u5))
            clear ho hf k5 e5 ON3 K3 E3 N3 BW3 L3 M3 ZB3 
            have q1 := cut_c1 K5.out
            go_wp2_with (first
              | (at_builtin; go_loud (refine wpList_append_b1 rfl _ _ rfl wr.heap.size (More (Else F5 u5) u5) (.slice none 0 0) [] rfl ((O5.out.mono fun k _ hk => Or.inl hk).below ((Below.refl u5.heap.size u5).alloc (Nat.le_refl _) _)) u5.heap.size 1 rfl (.slice z.b z.l.length z.c) z.l ⟨z.b, z.c, rfl, rdf_app hz.out.rd BW5.out L5.out O5.out HI.out.below.size ((Below.refl u5.heap.size u5).alloc (Nat.le_refl _) _), hz.out.non, hz.out.cap⟩ ((Cs.new _ _ _).cell 0 rfl) (by first | (simp; done) | (simp; omega)) (by have := ZB5.out; simp; omega) (Or.inr (by simp)) ?_; intro v6 u6 ho6 hg6; have AF := Lib.hid (cut_aft (cs := (ctCells z).toArray) (by decide) ON5.out N5.out K5.out E5.out BW5.out M5.out O5.out HI.out.below.size ((Below.refl u5.heap.size u5).alloc (Nat.le_refl _) _) hg6 ho6); have Z6 := Lib.hid (show wr.heap.size ≤ u6.heap.size from by have := ZB5.out; have := hg6.size; have := ((Below.refl u5.heap.size u5).alloc (Nat.le_refl _) (.cells #[.slice z.b z.l.length z.c] 31)).size; omega); have q3 := cut_c3 AF.out.cs; clear ho6 hg6; go_frame)))
            clear q1 ON5 K5 E5 N5 BW5 M5 O5 ZB5
            have SH := Lib.hid (show ∀ b ∈ ([] ++ [z.l]), b.length ≤ 2000 from fun b hb => by
              simp at hb
              subst hb
            
              omega)
            have TN := Lib.hid (show ([] ++ [z.l]) ≠ [] by simp)
            have TF : ([] ++ [z.l]).length ≤ 9000 := by simp; try omega
            rw [show ([z.l] : List (List UInt8)) = [] ++ [z.l] from rfl] at HH
            generalize ([] ++ [z.l]) = th at *
            clear q3
            obtain ⟨now', hh, hn1, hn2⟩ := HH.out z.picks
            clear HH
            refine (step_crash AF.out.on.disk z.picks z.p z.pc (hz.out.picks.old AF.out.below) hz.out.wf HQ.out hz.out.few).mono ?_
            rintro e u7 ⟨rfl, F7, hd7, hf7⟩
            have D7 := Lib.hid hd7
            have L7 := Lib.hid (hf7.low AF.out.below.size L5.out)
            have BW7 := Lib.hid (hf7.below AF.out.below L5.out)
            have Z7 := Lib.hid (show wr.heap.size ≤ u7.heap.size from Nat.le_trans Z6.out hf7.turn.size)
            have M7 := Lib.hid (show ∀ i, F7 i → i < u7.heap.size from fun i hi => (hf7.take i hi).2)
            have N7 := Lib.hid (hf7.old Z6.out AF.out.now')
            have O7 := Lib.hid (hf7.ownR AF.out.own)
            have HD := Lib.hid hh
            clear hd7 hf7 hh AF L5 Z6
            go_wp2_with fail
            refine (step_open D7.out HD.out (by omega) M7.out).mono ?_
            rintro e u8 ⟨jb8, v8, j8, F8, rfl, ho8, ht8, hf8, hb8⟩
            have hjb : j8.batches = now' := ht8.own HD.out.batches
            have ON8 := Lib.hid ho8
            have T8 := Lib.hid ht8
            have L8 := Lib.hid (hf8.low BW7.out.size L7.out)
            have BW8 := Lib.hid (below_chain BW7.out hb8)
            have Z8 := Lib.hid (show wr.heap.size ≤ u8.heap.size from Nat.le_trans Z7.out hb8.size)
            have M8 := Lib.hid (show ∀ i, F8 i → i < u8.heap.size from fun i hi => (hf8.take i hi).2)
            have N8 := Lib.hid (hf8.old Z7.out N7.out)
            have O8 := Lib.hid (hf8.ownR O7.out)
            clear ho8 ht8 hf8 hb8 D7 L7 BW7 Z7 M7 N7 O7
            go_wp2_with fail
            obtain rfl := hn2 (by first | trivial | rfl)
            clear hn1 hn2
            have SHN := SH
            have NNE := TN
            obtain ⟨A6, c6, e6, hr6, -⟩ := O8.out.form
            subst e6
            have R6 := Lib.hid hr6
            clear hr6 O8
            have hfn := HI.out.few
            have hbat := Batches_v ON8.out (by rw [hjb]; exact fun b hb => by have := SHN.out b hb; omega)
            rw [hjb] at hbat
            clear hjb
            refine hbat.mono ?_
            clear hbat
            rintro e u9 ⟨v9, vs9, rfl, ho9, hb9⟩
            obtain ⟨A9, c9, rfl, hr9, hl9, hm9, hn9⟩ := (ho9.r.mono (G := Else F8 u9) fun i hi h => ⟨fun hf => by have := M8.out i hf; omega, hi⟩).form
            have hw9 : A9 = none → now' = [] ∧ c9 = 0 := hn9
            have W9 := Lib.hid hw9
            have R9 := Lib.hid hr9
            have C9 := Lib.hid (And.intro hl9 hm9)
            have B9 := Lib.hid hb9
            clear ho9 hb9 hr9 hl9 hm9 hn9 hw9
            go_wp2_with fail
            have hli := Lists_any now' now' A9 A6 c9 c6 _ _ u9 (by omega) (by omega) R9.out ((R6.out).below B9.out)
            rw [show (now' == now') = true by simp] at hli
            refine hli.mono ?_
            clear hli
            rintro e u10 ⟨rfl, hb10⟩
            have B10 := Lib.hid hb10
            clear hb10
            go_wp2_with fail
            go_roundw
            case rel => exact ⟨k + 1, jb8, A9, c9, now', F8, v8, _, j8, by omega, by omega, by go_num, rfl, rfl, NNE.out, ⟨ON8.out.below (below_chain B9.out B10.out), T8.out, HD.out, fun i hi => ⟨L8.out i hi, Nat.lt_of_lt_of_le (M8.out i hi) ((below_chain B9.out B10.out)).size⟩, (R9.out.below B10.out).mono fun i hi => ⟨hi.1, Nat.lt_of_lt_of_le hi.2 (B10.out).size⟩, W9.out, C9.out, SHN.out, below_chain BW8.out (below_chain B9.out B10.out)⟩⟩
            case measure => simp [intOf]; omega
          · rw [hr] at hap hH
            clear hr
            have HQ := Lib.hid hq
            have HH := Lib.hid hH
            clear hq hH
            generalize (repR (armed s z.arm) j 64 z.l).1 = s6 at *
            generalize repJ (armed s z.arm) j 64 z.l = j6 at *
            refine hap.mono ?_
            clear hap
            rintro e u5 ⟨rfl, v5, F5, ho, hf⟩
            have ON5 := Lib.hid ho
            obtain ⟨k5, e5⟩ := hf.cs K3.out E3.out
            have K5 := Lib.hid k5
            have E5 := Lib.hid e5
            have N5 := Lib.hid (hf.old ZB3.out N3.out)
            have BW5 := Lib.hid (hf.below BW3.out L3.out)
            have L5 := Lib.hid (hf.low BW3.out.size L3.out)
            have M5 := Lib.hid (show ∀ i, F5 i → i < u5.heap.size from fun i hi => (hf.take i hi).2)
            have ZB5 := Lib.hid (show wr.heap.size ≤ u5.heap.size from Nat.le_trans ZB3.out hf.turn.size)
            have O5 := Lib.hid (OwnR.nil u5 wr.heap.size (Else F5 u5))
            clear ho hf k5 e5 ON3 K3 E3 N3 BW3 L3 M3 ZB3 
            have q1 := cut_c1 K5.out
            go_wp2_with (first
              | (at_builtin; go_loud (refine wpList_append_b1 rfl _ _ rfl wr.heap.size (More (Else F5 u5) u5) (.slice none 0 0) [] rfl ((O5.out.mono fun k _ hk => Or.inl hk).below ((Below.refl u5.heap.size u5).alloc (Nat.le_refl _) _)) u5.heap.size 1 rfl (.slice z.b z.l.length z.c) z.l ⟨z.b, z.c, rfl, rdf_app hz.out.rd BW5.out L5.out O5.out HI.out.below.size ((Below.refl u5.heap.size u5).alloc (Nat.le_refl _) _), hz.out.non, hz.out.cap⟩ ((Cs.new _ _ _).cell 0 rfl) (by first | (simp; done) | (simp; omega)) (by have := ZB5.out; simp; omega) (Or.inr (by simp)) ?_; intro v6 u6 ho6 hg6; have AF := Lib.hid (cut_aft (cs := (ctCells z).toArray) (by decide) ON5.out N5.out K5.out E5.out BW5.out M5.out O5.out HI.out.below.size ((Below.refl u5.heap.size u5).alloc (Nat.le_refl _) _) hg6 ho6); have Z6 := Lib.hid (show wr.heap.size ≤ u6.heap.size from by have := ZB5.out; have := hg6.size; have := ((Below.refl u5.heap.size u5).alloc (Nat.le_refl _) (.cells #[.slice z.b z.l.length z.c] 31)).size; omega); have q3 := cut_c3 AF.out.cs; clear ho6 hg6; go_frame)))
            clear q1 ON5 K5 E5 N5 BW5 M5 O5 ZB5
            have SH := Lib.hid (show ∀ b ∈ ([] ++ [z.l]), b.length ≤ 2000 from fun b hb => by
              simp at hb
              subst hb
            
              omega)
            have TN := Lib.hid (show ([] ++ [z.l]) ≠ [] by simp)
            have TF : ([] ++ [z.l]).length ≤ 9000 := by simp; try omega
            rw [show ([z.l] : List (List UInt8)) = [] ++ [z.l] from rfl] at HH
            generalize ([] ++ [z.l]) = th at *
            clear q3
            obtain ⟨now', hh, hn1, hn2⟩ := HH.out z.picks
            clear HH
            refine (step_crash AF.out.on.disk z.picks z.p z.pc (hz.out.picks.old AF.out.below) hz.out.wf HQ.out hz.out.few).mono ?_
            rintro e u7 ⟨rfl, F7, hd7, hf7⟩
            have D7 := Lib.hid hd7
            have L7 := Lib.hid (hf7.low AF.out.below.size L5.out)
            have BW7 := Lib.hid (hf7.below AF.out.below L5.out)
            have Z7 := Lib.hid (show wr.heap.size ≤ u7.heap.size from Nat.le_trans Z6.out hf7.turn.size)
            have M7 := Lib.hid (show ∀ i, F7 i → i < u7.heap.size from fun i hi => (hf7.take i hi).2)
            have N7 := Lib.hid (hf7.old Z6.out AF.out.now')
            have O7 := Lib.hid (hf7.ownR AF.out.own)
            have HD := Lib.hid hh
            clear hd7 hf7 hh AF L5 Z6
            go_wp2_with fail
            refine (step_open D7.out HD.out (by omega) M7.out).mono ?_
            rintro e u8 ⟨jb8, v8, j8, F8, rfl, ho8, ht8, hf8, hb8⟩
            have hjb : j8.batches = now' := ht8.own HD.out.batches
            have ON8 := Lib.hid ho8
            have T8 := Lib.hid ht8
            have L8 := Lib.hid (hf8.low BW7.out.size L7.out)
            have BW8 := Lib.hid (below_chain BW7.out hb8)
            have Z8 := Lib.hid (show wr.heap.size ≤ u8.heap.size from Nat.le_trans Z7.out hb8.size)
            have M8 := Lib.hid (show ∀ i, F8 i → i < u8.heap.size from fun i hi => (hf8.take i hi).2)
            have N8 := Lib.hid (hf8.old Z7.out N7.out)
            have O8 := Lib.hid (hf8.ownR O7.out)
            clear ho8 ht8 hf8 hb8 D7 L7 BW7 Z7 M7 N7 O7
            go_wp2_with fail
            clear hn2
            have hfn := HI.out.few
            by_cases hnow : now' = now
            · subst hnow
              clear hn1
              have SHN := Lib.hid HI.out.short
              have NNE := HNE
              have hbat := Batches_v ON8.out (by rw [hjb]; exact fun b hb => by have := SHN.out b hb; omega)
              rw [hjb] at hbat
              clear hjb
              refine hbat.mono ?_
              clear hbat
              rintro e u9 ⟨v9, vs9, rfl, ho9, hb9⟩
              obtain ⟨A9, c9, rfl, hr9, hl9, hm9, hn9⟩ := (ho9.r.mono (G := Else F8 u9) fun i hi h => ⟨fun hf => by have := M8.out i hf; omega, hi⟩).form
              have hw9 : A9 = none → now' = [] ∧ c9 = 0 := hn9
              have W9 := Lib.hid hw9
              have R9 := Lib.hid hr9
              have C9 := Lib.hid (And.intro hl9 hm9)
              have B9 := Lib.hid hb9
              clear ho9 hb9 hr9 hl9 hm9 hn9 hw9
              go_wp2_with fail
              have hli := Lists_any now' now' A9 A c9 c _ _ u9 (by omega) (by omega) R9.out ((N8.out).below B9.out)
              rw [show (now' == now') = true by simp] at hli
              refine hli.mono ?_
              clear hli
              rintro e u10 ⟨rfl, hb10⟩
              have B10 := Lib.hid hb10
              clear hb10
              go_wp2_with fail
              go_roundw
              case rel => exact ⟨k + 1, jb8, A9, c9, now', F8, v8, _, j8, by omega, by omega, by go_num, rfl, rfl, NNE.out, ⟨ON8.out.below (below_chain B9.out B10.out), T8.out, HD.out, fun i hi => ⟨L8.out i hi, Nat.lt_of_lt_of_le (M8.out i hi) ((below_chain B9.out B10.out)).size⟩, (R9.out.below B10.out).mono fun i hi => ⟨hi.1, Nat.lt_of_lt_of_le hi.2 (B10.out).size⟩, W9.out, C9.out, SHN.out, below_chain BW8.out (below_chain B9.out B10.out)⟩⟩
              case measure => simp [intOf]; omega
            · obtain rfl := hn1.resolve_left hnow
              clear hn1
              have SHN := SH
              have NNE := TN
              obtain ⟨A6, c6, e6, hr6, -⟩ := O8.out.form
              subst e6
              have R6 := Lib.hid hr6
              clear hr6 O8
              have hbat := Batches_v ON8.out (by rw [hjb]; exact fun b hb => by have := SHN.out b hb; omega)
              rw [hjb] at hbat
              clear hjb
              refine hbat.mono ?_
              clear hbat
              rintro e u9 ⟨v9, vs9, rfl, ho9, hb9⟩
              obtain ⟨A9, c9, rfl, hr9, hl9, hm9, hn9⟩ := (ho9.r.mono (G := Else F8 u9) fun i hi h => ⟨fun hf => by have := M8.out i hf; omega, hi⟩).form
              have hw9 : A9 = none → now' = [] ∧ c9 = 0 := hn9
              have W9 := Lib.hid hw9
              have R9 := Lib.hid hr9
              have C9 := Lib.hid (And.intro hl9 hm9)
              have B9 := Lib.hid hb9
              clear ho9 hb9 hr9 hl9 hm9 hn9 hw9
              go_wp2_with fail
              have hli := Lists_any now' now A9 A c9 c _ _ u9 (by omega) (by omega) R9.out ((N8.out).below B9.out)
              rw [show (now' == now) = false by simp [hnow]] at hli
              refine hli.mono ?_
              clear hli
              rintro e u10 ⟨rfl, hb10⟩
              have B10 := Lib.hid hb10
              clear hb10
              go_wp2_with fail
              have hli := Lists_any now' now' A9 A6 c9 c6 _ _ u10 (by omega) (by omega) (R9.out.below B10.out) ((R6.out).below (below_chain B9.out B10.out))
              rw [show (now' == now') = true by simp] at hli
              refine hli.mono ?_
              clear hli
              rintro e u11 ⟨rfl, hb11⟩
              have B11 := Lib.hid hb11
              clear hb11
              go_wp2_with fail
              go_roundw
              case rel => exact ⟨k + 1, jb8, A9, c9, now', F8, v8, _, j8, by omega, by omega, by go_num, rfl, rfl, NNE.out, ⟨ON8.out.below (below_chain (below_chain B9.out B10.out) B11.out), T8.out, HD.out, fun i hi => ⟨L8.out i hi, Nat.lt_of_lt_of_le (M8.out i hi) ((below_chain (below_chain B9.out B10.out) B11.out)).size⟩, (R9.out.below (below_chain B10.out B11.out)).mono fun i hi => ⟨hi.1, Nat.lt_of_lt_of_le hi.2 ((below_chain B10.out B11.out)).size⟩, W9.out, C9.out, SHN.out, below_chain BW8.out (below_chain (below_chain B9.out B10.out) B11.out)⟩⟩
              case measure => simp [intOf]; omega
    · have hend : (l.length : Int) ≤ (k : Int) ∨ (20 : Int) ≤ (k : Int) := by omega
      have BI := Lib.hid HI.out.below
      clear HI HNE
      by_cases hge : k < l.length
      · have hge' : (k : Int) < (l.length : Int) := by omega
        have h20 : ¬ (k : Int) < 20 := by omega
        go_wp2_with fail
        refine (lives_any _).mono ?_
        rintro e uf ⟨rfl, hbf⟩
        have BF := Lib.hid hbf
        clear hbf
        go_wp2_with fail
        go_ret
        exact ⟨rfl, below_chain BI.out BF.out⟩
      · have hge' : ¬ (k : Int) < (l.length : Int) := by omega
        go_wp2_with fail
        refine (lives_any _).mono ?_
        rintro e uf ⟨rfl, hbf⟩
        have BF := Lib.hid hbf
        clear hbf
        go_wp2_with fail
        go_ret
        exact ⟨rfl, below_chain BI.out BF.out⟩

end Go.Proofs.Ytdjjlhfgfogdeaa
