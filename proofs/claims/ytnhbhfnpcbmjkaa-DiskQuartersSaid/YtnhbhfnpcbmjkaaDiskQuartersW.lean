/- The walk of DiskQuarters: quarters that no write of the queue is about stay as they were laid down; behind a Crash each is as it was, or as some write that waited had it. -/
import Derived.Test.YtnhbhfnpcbmjkaaDiskQP
import Derived.Deep.CutBlock
import Derived.Deep.DeepCutAuto
namespace Go.Proofs.Ytnhbhfnpcbmjkaa
open Go.RowKit Go.Shelf Go.Maps
set_option linter.unusedVariables false
set_option linter.unusedSimpArgs false

/-- the deeds' own cells, in every world in which old memory is as it was -/
theorem deeds_at {w : World} {A : Option Addr} {l : List Dd} (h : Ds w A l) (k : Nat) (hk : k < l.length) : ∃ lb lf, A = some ⟨lb, lf, none⟩ ∧ (∀ w9, Below w.heap.size w w9 → w9.cell? ⟨lb, lf + k * 67 + 1, none⟩ = some (.int .i64 l[k].n)) ∧
    (∀ w9, Below w.heap.size w w9 → At w9 lb (lf + k * 67 + 2) (cellsOf l[k].b)) := by
  rcases h with h | ⟨lb, lf, hA, hat⟩
  · rw [h] at hk; cases hk
  · have hat' := hat k hk
    refine ⟨lb, lf, hA, fun w9 h9 => ?_, fun w9 h9 j v hv => ?_⟩
    · have := hat' 1 (.int .i64 l[k].n) (by simp [ddCells])
      exact (h9.cell (p := ⟨lb, lf + k * 67 + 1, none⟩) (lt_of_cell this)).trans this
    · have hj : j < (cellsOf l[k].b).length := (List.getElem?_eq_some_iff.1 hv).1
      have := hat' (2 + j) v (by rw [show 2 + j = j + 2 by omega]; show (cellsOf l[k].b ++ [.slice l[k].A l[k].len l[k].cap])[j]? = _; rw [List.getElem?_append_left hj]; exact hv)
      rw [← Nat.add_assoc] at this
      exact (h9.cell (p := ⟨lb, lf + k * 67 + 2 + j, none⟩) (lt_of_cell this)).trans this
theorem writeS_ok {s : DS} {k m : Nat} (h : AllS s k m) (n : Int) (l : Blk) (hn : 0 ≤ n ∧ n < 64) : (writeS s n l).q = s.q ++ [(n, l)] ∧ (writeS s n l).laid = s.laid := by
  obtain ⟨h1, h2, h3, -⟩ := h
  have hin : inB s n = true := by unfold inB; rw [h1]; simp; omega
  have hne : ¬ s.left = 1 := by omega
  rw [show writeS s n l = wrote s n l from by simp [writeS, h2, hin, hne]]
  exact ⟨rfl, rfl⟩
theorem flushS_ok {s : DS} {k m : Nat} (h : AllS s k m) : (flushS s).q = [] ∧ (flushS s).left = 0 := by
  have h2 := h.2.1
  have hne : ¬ s.left = 1 := by rw [h.2.2.1]; decide
  rw [show flushS s = flushed s from by simp [flushS, h2, hne]]
  refine ⟨rfl, ?_⟩
  show (if 1 < s.left then s.left - 1 else s.left) = 0
  rw [h.2.2.1]; rfl
theorem sure_all {s : DS} {k m : Nat} (h : AllS s k m) (n : Int) (hn : 0 ≤ n ∧ n < 64) : sureV s n = tell s.laid n := (allS_read h n hn).2.2.1
/-- what stands at the first loop's head -/
def Q1 (w : World) (d k : Nat) (s : DS) (wr : World) : Prop := DiskV wr d s (w.heap.size ≤ ·) ∧ Below w.heap.size w wr ∧ AllS s k k
/-- .. the second's -/
def Q2 (w : World) (d gl : Nat) (s : DS) (n : Nat) (wr : World) : Prop := DiskV wr d s (fun i => w.heap.size ≤ i ∧ i ≠ gl) ∧ Below w.heap.size w wr ∧ ∃ cur, Cs wr gl 35 cur ∧ Filled cur s.laid n
/-- .. the third's -/
def Q3 (w : World) (d gl : Nat) (L : Tab) (l : List Dd) (k : Nat) (s : DS) (wr : World) : Prop :=
  DiskV wr d s (fun i => w.heap.size ≤ i ∧ i ≠ gl) ∧ Below w.heap.size w wr ∧ (∃ cur, Cs wr gl 35 cur ∧ Filled cur L 64) ∧ AllS s k (41 + k) ∧ s.q = (l.take k).map dq ∧ s.laid = L
theorem RdI.keepI {w w' : World} {A : Option Addr} {l : List Int} (h : RdI w A l) (hb : Below w.heap.size w w') : RdI w' A l := by
  rcases h with h | ⟨b, f, e, hc⟩
  · exact .inl h
  · exact .inr ⟨b, f, e, fun j hj => (hb.cell (lt_of_cell (hc j hj))).trans (hc j hj)⟩
/-- .. and behind the Crash -/
def Q4 (w : World) (d gl : Nat) (L : Tab) (s : DS) (wr : World) : Prop := DiskV wr d s (fun i => w.heap.size ≤ i ∧ i ≠ gl) ∧ Below w.heap.size w wr ∧ ∃ cur, Cs wr gl 35 cur ∧ Filled cur L 64
theorem Q4.below {w wr w' : World} {d gl : Nat} {L : Tab} {s : DS} (h : Q4 w d gl L s wr) (hb : Below wr.heap.size wr w') : Q4 w d gl L s w' := by
  obtain ⟨h1, h2, cur, h3, h4⟩ := h
  exact ⟨h1.below hb, h2.trans (hb.mono h2.size), cur, h3.below hb h3.lt, h4⟩
theorem lok_tear {zs : List ((Int × Blk) × Int)} {f : Tab} (hf : LOK f) (hz : ∀ z ∈ zs, z.1.2.length = 64) : LOK (tear zs f) := by
  induction zs generalizing f with
  | nil => exact hf
  | cons z zs ih => exact ih (lok_upd hf _ _ (torn_len _ _ _ (lok_tell hf _) (hz z (by simp)))) (fun y hy => hz y (by simp [hy]))
theorem dq_len {l : List Dd} {k : Nat} {picks : List Int} (hl : ∀ x ∈ l, DdOk x) : ∀ z ∈ ((l.take k).map dq).zip picks, z.1.2.length = 64 := by
  intro z hz
  obtain ⟨x, hx, e⟩ := List.mem_map.1 (List.of_mem_zip hz).1
  rw [← e]
  exact (hl x (List.mem_of_mem_take hx)).1
theorem crash_told (s : DS) (picks : List Int) (n : Int) (hn : 0 ≤ n ∧ n < 64) (hb : s.blocks = 64) : readV (crashed s picks) n = tell (crashed s picks).laid n ∧ readE (crashed s picks) n = 0 ∧ sureV (crashed s picks) n = tell (crashed s picks).laid n ∧ sureE (crashed s picks) n = 0 := by
  have hin : inB (crashed s picks) n = true := by show decide (0 ≤ n ∧ n < (s.blocks : Int)) = true; rw [hb]; simp; omega
  have hd : (crashed s picks).dark = false := rfl
  refine ⟨crash_read s picks n hn hb, ?_, ?_, ?_⟩
  · unfold readE; rw [hd, hin]; rfl
  · unfold sureV; rw [hin]; rfl
  · unfold sureE; rw [hin]; rfl
/-- which quarter stands next -/
def QI (m : Nat) (v : Value) : Prop := (m = 0 ∧ v = .int .i64 0) ∨ (m = 1 ∧ v = .int .i64 16) ∨ (m = 2 ∧ v = .int .i64 32) ∨ (m = 3 ∧ v = .int .i64 48) ∨ (m = 4 ∧ v = .int .i64 64)
/-- what stands in the loops over quarters and over deeds -/
def Q5 (w : World) (d gl g14 : Nat) (L : Tab) (s : DS) (rb : Blk) (wr : World) : Prop := Q4 w d gl L s wr ∧ Cs wr g14 30 (cellsOf rb).toArray
theorem Q5.below {w wr w' : World} {d gl g14 : Nat} {L : Tab} {s : DS} {rb : Blk} (h : Q5 w d gl g14 L s rb wr) (hb : Below wr.heap.size wr w') : Q5 w d gl g14 L s rb w' := ⟨h.1.below hb, h.2.below hb h.2.lt⟩
/-- does deed j's write hold this quarter of block n? -/
def Hit (l : List Dd) (n : Nat) (rb : Blk) (f j : Nat) : Prop := ∃ h : j < l.length, l[j].n % 64 = (n : Int) ∧ quarter rb f = quarter l[j].b f
theorem laid_at {w wr : World} {d gl g14 : Nat} {L : Tab} {s : DS} {rb : Blk} (h : Q5 w d gl g14 L s rb wr) (n : Nat) (hn : n < 64) : At wr gl (n * 64) (cellsOf (tell L (n : Int))) := by
  obtain ⟨⟨-, -, cur, hc, hf⟩, -⟩ := h
  exact At.of_cs hc _ _ fun j v hv => hf.2 n hn j v hv
set_option maxRecDepth 100000 in
set_option maxHeartbeats 16000000 in
theorem diskQuarters_walk (l0 l1 : List Dd) (l2 : List Int) (A0 A1 A2 : Option Addr) (c0 c1 c2 : Nat) (w : World) (hr0 : Ds w A0 l0) (hr1 : Ds w A1 l1) (hr2 : RdI w A2 l2) (hok0 : ∀ x ∈ l0, DdOk x) (hok1 : ∀ x ∈ l1, DdOk x)
    (hok2 : ∀ x ∈ l2, -9223372036854775808 ≤ x ∧ x ≤ 9223372036854775807) (hlen0 : l0.length ≤ maxLen) (hlen1 : l1.length ≤ maxLen) (hlen2 : l2.length ≤ 9223372036854775807) :
    Calls Try.prog 3 #[.slice A0 l0.length c0, .slice A1 l1.length c1, .slice A2 l2.length c2] w fun e w' => e = .returned (.bool true) ∧ Below w.heap.size w w' := by
  have hmix : Try.prog.follows .mixedOrders = true := by kernel_rfl
  have RD0 := Lib.hid hr0
  have RD1 := Lib.hid hr1
  have RD2 := Lib.hid hr2
  have OK0 := Lib.hid hok0
  have OK1 := Lib.hid hok1
  have OK2 := Lib.hid hok2
  unfold maxLen at hlen0 hlen1
  have hl00 : (0 : Int) ≤ (l0.length : Int) := by omega
  have hl01 : (l0.length : Int) ≤ 9223372036854775807 := by omega
  have hl10 : (0 : Int) ≤ (l1.length : Int) := by omega
  have hl11 : (l1.length : Int) ≤ 9223372036854775807 := by omega
  clear hr0 hr1 hr2 hok0 hok1 hok2 hlen0 hlen1
  go_enter Try.func3, Try.ntmps3
  go_wp2_with fail
  refine (new64 _).mono ?_
  rintro e w1 ⟨d, rfl, hd, hb⟩
  have H0 := Lib.hid (show Q1 w d 0 (fresh 64) w1 from ⟨hd, hb, allS_fresh⟩)
  clear hd hb
  go_upto_block 0 with fail
  go_cut [9] (fun s9 wx => ∃ (k : Nat) (s : DS), k ≤ 40 ∧ Q1 w d k s wx)
  case first =>
    go_wp2_with fail
    go_loopw [9] (fun i wr => ∃ (k : Nat) (s : DS), k ≤ l0.length ∧ k ≤ 40 ∧ i = .int .i64 k ∧ Q1 w d k s wr) (fun i _ => 40 - (intOf i).toNat)
    case atStart => exact ⟨0, fresh 64, Nat.zero_le _, Nat.zero_le _, rfl, H0.out⟩
    case round =>
      obtain ⟨k, s, hk, hk40, rfl, hI⟩ := hrel
      have HI := Lib.hid hI
      have HS := Lib.hid hI.2.2
      clear hI
      have hk0 : (0 : Int) ≤ (k : Int) := by omega
      have hk1 : (k : Int) ≤ 40 := by omega
      by_cases hlt : k < l0.length ∧ k < 40
      · have lt1 : (k : Int) < (l0.length : Int) := by omega
        have lt2 : (k : Int) < 40 := by omega
        obtain ⟨lb, lf, hA, hcn, hcb⟩ := deeds_at RD0.out k hlt.1
        have hz := Lib.hid (OK0.out _ (List.getElem_mem hlt.1))
        have TK := Lib.hid (show l0.take (k + 1) = l0.take k ++ [l0[k]] from List.take_succ_eq_append_getElem hlt.1)
        obtain ⟨z, hzz⟩ : ∃ z, l0[k] = z := ⟨_, rfl⟩
        rw [hzz] at hz hcn hcb TK
        have CN := Lib.hid hcn
        have CB := Lib.hid hcb
        have WR := Lib.hid (allS_write HS.out (z.n % 64) z.b (by omega) hz.out.1)
        have WO := Lib.hid (writeS_ok HS.out (z.n % 64) z.b (by omega))
        subst hA
        clear hcn hcb hzz
        go_wp2_with fail
        refine wp_region_held (S := fun w9 => Below w.heap.size w w9) hmix ?_
        change wpAnyH _ _ _ _ _ _ _ _ (World.drew wr)
        have S4 := Lib.hid HI.out.2.1.drew
        have D4 := Lib.hid (HI.out.1.below (Below.refl _ _).drew)
        generalize World.drew wr = w4 at S4 D4 ⊢
        refine wpAnyH_take (i := 0) (v := .pointer (some ⟨d, 0, none⟩)) rfl (by kernel_rfl) (by kernel_rfl) (by kernel_rfl) (fun _ _ _ h => h) (Or.inl ⟨by rfl, by intro w9 hS; go_simp⟩) S4.out ?_
        try simp only [List.getElem_toArray, List.getElem_cons_succ, List.getElem_cons_zero, Act.put, List.setIfInBounds_toArray, List.set_cons_succ, List.set_cons_zero]
        refine wpAnyH_take (i := 1) (v := .slice (some ⟨lb, lf, none⟩) l0.length c0) rfl (by kernel_rfl) (by kernel_rfl) (by kernel_rfl) (fun _ _ _ h => h) (Or.inl ⟨by rfl, by intro w9 hS; go_simp⟩) S4.out ?_
        try simp only [List.getElem_toArray, List.getElem_cons_succ, List.getElem_cons_zero, Act.put, List.setIfInBounds_toArray, List.set_cons_succ, List.set_cons_zero]
        refine wpAnyH_take (i := 2) (v := .int .i64 (k : Int)) rfl (by kernel_rfl) (by kernel_rfl) (by kernel_rfl) (fun _ _ _ h => h) (Or.inl ⟨by rfl, by intro w9 hS; go_simp⟩) S4.out ?_
        try simp only [List.getElem_toArray, List.getElem_cons_succ, List.getElem_cons_zero, Act.put, List.setIfInBounds_toArray, List.set_cons_succ, List.set_cons_zero]
        refine wpAnyH_take (i := 3) (v := .pointer (some ⟨lb, lf + k * 67, none⟩)) rfl (by kernel_rfl) (by kernel_rfl) (by kernel_rfl) (fun _ _ _ h => h) (Or.inl ⟨by rfl, by intro w9 hS; go_simp⟩) S4.out ?_
        try simp only [List.getElem_toArray, List.getElem_cons_succ, List.getElem_cons_zero, Act.put, List.setIfInBounds_toArray, List.set_cons_succ, List.set_cons_zero]
        refine wpAnyH_take (i := 4) (v := .pointer (some ⟨lb, lf + k * 67 + 1, none⟩)) rfl (by kernel_rfl) (by kernel_rfl) (by kernel_rfl) (fun _ _ _ h => h) (Or.inl ⟨by rfl, by intro w9 hS; go_simp⟩) S4.out ?_
        try simp only [List.getElem_toArray, List.getElem_cons_succ, List.getElem_cons_zero, Act.put, List.setIfInBounds_toArray, List.set_cons_succ, List.set_cons_zero]
        refine wpAnyH_take (i := 5) (v := .int .i64 z.n) rfl (by kernel_rfl) (by kernel_rfl) (by kernel_rfl) (fun _ _ _ h => h) (Or.inl ⟨by rfl, by intro w9 hS; have cc := CN.out w9 hS; go_simp⟩) S4.out ?_
        try simp only [List.getElem_toArray, List.getElem_cons_succ, List.getElem_cons_zero, Act.put, List.setIfInBounds_toArray, List.set_cons_succ, List.set_cons_zero]
        refine wpAnyH_take (i := 6) (v := .int .i64 (z.n % 64)) rfl (by kernel_rfl) (by kernel_rfl) (by kernel_rfl) (fun _ _ _ h => h) (Or.inl ⟨by rfl, by intro w9 hS; have cc := i64_and63 z.n; go_simp⟩) S4.out ?_
        try simp only [List.getElem_toArray, List.getElem_cons_succ, List.getElem_cons_zero, Act.put, List.setIfInBounds_toArray, List.set_cons_succ, List.set_cons_zero]
        refine wpAnyH_take (i := 7) (v := .slice (some ⟨lb, lf, none⟩) l0.length c0) rfl (by kernel_rfl) (by kernel_rfl) (by kernel_rfl) (fun _ _ _ h => h) (Or.inl ⟨by rfl, by intro w9 hS; go_simp⟩) S4.out ?_
        try simp only [List.getElem_toArray, List.getElem_cons_succ, List.getElem_cons_zero, Act.put, List.setIfInBounds_toArray, List.set_cons_succ, List.set_cons_zero]
        refine wpAnyH_take (i := 8) (v := .int .i64 (k : Int)) rfl (by kernel_rfl) (by kernel_rfl) (by kernel_rfl) (fun _ _ _ h => h) (Or.inl ⟨by rfl, by intro w9 hS; go_simp⟩) S4.out ?_
        try simp only [List.getElem_toArray, List.getElem_cons_succ, List.getElem_cons_zero, Act.put, List.setIfInBounds_toArray, List.set_cons_succ, List.set_cons_zero]
        refine wpAnyH_take (i := 9) (v := .pointer (some ⟨lb, lf + k * 67, none⟩)) rfl (by kernel_rfl) (by kernel_rfl) (by kernel_rfl) (fun _ _ _ h => h) (Or.inl ⟨by rfl, by intro w9 hS; go_simp⟩) S4.out ?_
        try simp only [List.getElem_toArray, List.getElem_cons_succ, List.getElem_cons_zero, Act.put, List.setIfInBounds_toArray, List.set_cons_succ, List.set_cons_zero]
        refine wpAnyH_take (i := 10) (v := .pointer (some ⟨lb, lf + k * 67 + 2, none⟩)) rfl (by kernel_rfl) (by kernel_rfl) (by kernel_rfl) (fun _ _ _ h => h) (Or.inl ⟨by rfl, by intro w9 hS; go_simp⟩) S4.out ?_
        try simp only [List.getElem_toArray, List.getElem_cons_succ, List.getElem_cons_zero, Act.put, List.setIfInBounds_toArray, List.set_cons_succ, List.set_cons_zero]
        refine wpAnyH_take (i := 11) (v := bv z.b) rfl (by kernel_rfl) (by kernel_rfl) (by kernel_rfl) (fun _ _ _ h => h) (yieldsIf_load_blk rfl (.tmp 47) rfl lb (lf + k * 67 + 2) rfl z.b hz.out.1 CB.out) S4.out ?_
        try simp only [List.getElem_toArray, List.getElem_cons_succ, List.getElem_cons_zero, Act.put, List.setIfInBounds_toArray, List.set_cons_succ, List.set_cons_zero]
        refine wpAnyH_ready (rs := [12]) (by kernel_rfl) (by simp) ?_
        refine AllReadyH.cons rfl (fun K hK => ?_) AllReadyH.nil
        dsimp only [List.getElem_toArray, List.getElem_cons_succ, List.getElem_cons_zero]
        go_simp
        have c := Write_v D4.out (fun i hi => Nat.le_trans S4.out.size hi) (z.n % 64) z.b hz.out.1 (by have := HS.out.2.2.2.2.1; omega) (by have := HS.out.2.2.2.1; omega)
        rw [WR.out.1] at c
        refine c.mono ?_
        clear c
        rintro e w5 ⟨rfl, hd5, ht5⟩
        have D5 := Lib.hid hd5
        have S5 := Lib.hid (S4.out.trans (ht5.below S4.out.size fun i hi => hi))

        clear hd5 ht5
        refine hK.out _ _ S5.out (fun _ => ?_)
        clear hK K
        try simp only [List.getElem_toArray, List.getElem_cons_succ, List.getElem_cons_zero, Act.put, List.setIfInBounds_toArray, List.set_cons_succ, List.set_cons_zero]
        refine wpAnyH_take (i := 13) (v := .bool false) rfl (by kernel_rfl) (by kernel_rfl) (by kernel_rfl) (fun _ _ _ h => h) (Or.inl ⟨by rfl, by intro w9 hS; go_simp⟩) S5.out ?_
        try simp only [List.getElem_toArray, List.getElem_cons_succ, List.getElem_cons_zero, Act.put, List.setIfInBounds_toArray, List.set_cons_succ, List.set_cons_zero]
        refine wpAnyH_done (by kernel_rfl) ?_ _
        go_wp2
        go_roundw
        case rel => exact ⟨k + 1, _, by omega, by omega, by go_num, D5.out, S5.out, WR.out.2⟩
        case measure => simp [intOf]; omega
      · have hkk : (decide ((k : Int) < (l0.length : Int)) = false ∧ (l0.length : Int) ≤ (k : Int)) ∨ ((k : Int) < (l0.length : Int) ∧ decide ((k : Int) < 40) = false ∧ (40 : Int) ≤ (k : Int)) := by
          by_cases h : k < l0.length
          · exact .inr ⟨by omega, by simp; omega, by omega⟩
          · exact .inl ⟨by simp; omega, by omega⟩
        clear hlt
        rcases hkk with ⟨hkk, hkk2⟩ | ⟨hkk1, hkk, hkk2⟩
        all_goals
          go_wp2_with fail
          go_meet
          exact ⟨k, s, hk40, HI.out⟩

  case rest =>
    obtain ⟨k0, s0, hk40, hI⟩ := hcut
    have HI := Lib.hid hI
    have HS := Lib.hid hI.2.2
    clear hI H0
    go_wp2_with fail
    have c := Flush_v HI.out.1 (fun i hi => Nat.le_trans HI.out.2.1.size hi) (by have := HS.out.2.2.2.2.1; omega) (by have := HS.out.2.2.2.1; omega)
    have FL := Lib.hid (allS_flush HS.out)
    have FO := Lib.hid (flushS_ok HS.out)
    rw [FL.out.1] at c
    refine c.mono ?_
    clear c
    rintro e w2 ⟨rfl, hd2, ht2⟩
    have D2 := Lib.hid hd2
    have B2 := Lib.hid (HI.out.2.1.trans (ht2.below HI.out.2.1.size fun i hi => hi))
    clear hd2 ht2
    go_wp2_with fail
    have c := Loose_v D2.out
    rw [FO.out.1] at c
    refine c.mono ?_
    clear c
    rintro e _ ⟨rfl, rfl⟩
    obtain ⟨s1, hs1⟩ : ∃ y, flushS s0 = y := ⟨_, rfl⟩
    rw [hs1] at D2 FL FO
    have S1 := Lib.hid (show AllS s1 0 41 ∧ s1.q = [] from by
      obtain ⟨h1, h2, h3, h4, h5, h6, h7, h8⟩ := FL.out.2
      exact ⟨⟨h1, h2, h3, by rw [FO.out.1]; exact Nat.le_refl _, by omega, h6, h7, h8⟩, FO.out.1⟩)
    clear HI HS FL FO hs1
    have hstart : ∀ gl wl, Cs wl gl 35 (cellsOf (List.replicate 4096 0)).toArray → Below w2.heap.size w2 wl → w2.heap.size ≤ gl → Q2 w d gl s1 0 wl := fun gl wl hk hb hg =>
      ⟨by
        obtain ⟨p, e, hd, hf⟩ := D2.out
        exact ⟨p, e, hd.below hb, fun i hi => ⟨hf i hi, fun e => by have := foot_lt hd i hi; omega⟩⟩, B2.out.trans (hb.mono B2.out.size), _, hk, filled_zero _⟩
    have HST := Lib.hid hstart
    clear hstart
    go_wp2_with (refine wpList_alloc_agg rfl 35 rfl (cellsOf (List.replicate 4096 0)) zero35 ?_; have Q0 := Lib.hid (HST.out w2.heap.size _ (Cs.new _ _ _) ((Below.refl _ _).alloc (Nat.le_refl _) _) (Nat.le_refl _)); go_frame; generalize w2.alloc (.cells (cellsOf (List.replicate 4096 0)).toArray 35) = w3 at Q0 ⊢; have hgl := Lib.hid B2.out.size; generalize w2.heap.size = gl at Q0 hgl ⊢)
    clear HST
    go_loopw [11] (fun v wr => ∃ n : Nat, n ≤ 64 ∧ v = .int .i64 n ∧ Q2 w d gl s1 n wr) (fun v _ => 64 - (intOf v).toNat)
    case atStart => exact ⟨0, Nat.zero_le _, rfl, Q0.out⟩
    case round =>
      obtain ⟨n, hn, rfl, hQ⟩ := hrel
      have HQ := Lib.hid hQ
      clear hQ
      have hn0 : (0 : Int) ≤ (n : Int) := by omega
      by_cases hlt : n < 64
      · have ltn : (n : Int) < 64 := by omega
        have hsu := sure_all S1.out.1 (n : Int) (by omega)
        have c := Sure_v HQ.out.1 (n : Int)
        rw [hsu] at c
        have TL := Lib.hid (lok_tell S1.out.1.2.2.2.2.2.2.1 (n : Int))
        generalize sureE s1 (n : Int) = e1 at c
        obtain ⟨sb, hsb⟩ : ∃ y, tell s1.laid (n : Int) = y := ⟨_, rfl⟩
        rw [hsb] at c TL
        have HSB := Lib.hid hsb
        clear hsu hsb
        go_wp2_with fail
        refine c.mono ?_
        clear c
        rintro e v1 ⟨rfl, hb⟩
        have Q1' := Lib.hid (show Q2 w d gl s1 n v1 from by
          obtain ⟨h1, h2, cur, h3, h4⟩ := HQ.out
          exact ⟨h1.below hb, h2.trans (hb.mono h2.size), cur, h3.below hb h3.lt, h4⟩)
        clear hb HQ
        obtain ⟨h1, h2, cur, h3, h4⟩ := Q1'.out
        have CU := Lib.hid h3
        have FI := Lib.hid h4
        have QD := Lib.hid h1
        have QB := Lib.hid h2
        clear h1 h2 h3 h4 Q1'
        go_wp2_with (refine wpList_store_agg rfl 30 _ _ rfl gl (n * 64) rfl (cellsOf sb) rfl 35 cur CU.out (by rw [cellsOf_length, TL.out, FI.out.1]; omega) (cellsOf_one _) (info30' _ TL.out) ?_; go_frame)
        go_roundw
        case rel =>
          refine ⟨n + 1, by omega, by go_num, QD.out.turn (Turn.of_grown (grown_row _ _ _)) (fun i hi e => hi.2 (by injection e with e; exact e.symm)), QB.out.grown (grown_row _ _ _) QB.out.size (fun i e => by injection e with e; subst e; exact hgl.out), _, CU.out.row _, ?_⟩
          rw [← HSB.out]
          exact filled_step FI.out hlt S1.out.1.2.2.2.2.2.2.1
        case measure => simp [intOf]; omega
      · obtain rfl : n = 64 := by omega
        rw [show ((64 : Nat) : Int) = (64 : Int) from rfl]
        have HQ3 := Lib.hid (show Q3 w d gl s1.laid l1 0 s1 wr from by
          obtain ⟨h1, h2, h3⟩ := HQ.out
          exact ⟨h1, h2, h3, S1.out.1.up (Nat.le_refl _) (by omega), S1.out.2, rfl⟩)
        have QL := Lib.hid (show LOK s1.laid from S1.out.1.2.2.2.2.2.2.1)
        clear HQ Q0
        obtain ⟨wo, rfl⟩ : ∃ wo : World, wo = wr := ⟨_, rfl⟩
        generalize s1.laid = L at HQ3 QL
        go_upto_block 4 with fail
        go_cut [12] (fun s12 wx => ∃ (k : Nat) (s : DS), k ≤ 40 ∧ Q3 w d gl L l1 k s wx)
        case first =>
          go_wp2_with fail
          go_loopw [12] (fun i wr => ∃ (k : Nat) (s : DS), k ≤ l1.length ∧ k ≤ 40 ∧ i = .int .i64 k ∧ Q3 w d gl L l1 k s wr) (fun i _ => 40 - (intOf i).toNat)
          case atStart => exact ⟨0, s1, Nat.zero_le _, Nat.zero_le _, rfl, HQ3.out⟩
          case round =>
            obtain ⟨k, s, hk, hk40, rfl, hI⟩ := hrel
            have HI := Lib.hid hI
            have HS := Lib.hid hI.2.2.2.1
            clear hI
            have hk0 : (0 : Int) ≤ (k : Int) := by omega
            have hk1 : (k : Int) ≤ 40 := by omega
            by_cases hlt : k < l1.length ∧ k < 40
            · have lt1 : (k : Int) < (l1.length : Int) := by omega
              have lt2 : (k : Int) < 40 := by omega
              obtain ⟨lb, lf, hA, hcn, hcb⟩ := deeds_at RD1.out k hlt.1
              have hz := Lib.hid (OK1.out _ (List.getElem_mem hlt.1))
              have TK := Lib.hid (show l1.take (k + 1) = l1.take k ++ [l1[k]] from List.take_succ_eq_append_getElem hlt.1)
              obtain ⟨z, hzz⟩ : ∃ z, l1[k] = z := ⟨_, rfl⟩
              rw [hzz] at hz hcn hcb TK
              have CN := Lib.hid hcn
              have CB := Lib.hid hcb
              have WR := Lib.hid (allS_write HS.out (z.n % 64) z.b (by omega) hz.out.1)
              have WO := Lib.hid (writeS_ok HS.out (z.n % 64) z.b (by omega))
              subst hA
              clear hcn hcb hzz
              go_wp2_with fail
              refine wp_region_held (S := fun w9 => Below w.heap.size w w9) hmix ?_
              change wpAnyH _ _ _ _ _ _ _ _ (World.drew wr)
              have S4 := Lib.hid HI.out.2.1.drew
              have D4 := Lib.hid (HI.out.1.below (Below.refl _ _).drew)
              obtain ⟨cur, hcur, hfil⟩ := HI.out.2.2.1
              have CU4 := Lib.hid hcur.drew
              have FI := Lib.hid hfil
              clear hcur hfil
              generalize World.drew wr = w4 at S4 D4 CU4 ⊢
              refine wpAnyH_take (i := 0) (v := .pointer (some ⟨d, 0, none⟩)) rfl (by kernel_rfl) (by kernel_rfl) (by kernel_rfl) (fun _ _ _ h => h) (Or.inl ⟨by rfl, by intro w9 hS; go_simp⟩) S4.out ?_
              try simp only [List.getElem_toArray, List.getElem_cons_succ, List.getElem_cons_zero, Act.put, List.setIfInBounds_toArray, List.set_cons_succ, List.set_cons_zero]
              refine wpAnyH_take (i := 1) (v := .slice (some ⟨lb, lf, none⟩) l1.length c1) rfl (by kernel_rfl) (by kernel_rfl) (by kernel_rfl) (fun _ _ _ h => h) (Or.inl ⟨by rfl, by intro w9 hS; go_simp⟩) S4.out ?_
              try simp only [List.getElem_toArray, List.getElem_cons_succ, List.getElem_cons_zero, Act.put, List.setIfInBounds_toArray, List.set_cons_succ, List.set_cons_zero]
              refine wpAnyH_take (i := 2) (v := .int .i64 (k : Int)) rfl (by kernel_rfl) (by kernel_rfl) (by kernel_rfl) (fun _ _ _ h => h) (Or.inl ⟨by rfl, by intro w9 hS; go_simp⟩) S4.out ?_
              try simp only [List.getElem_toArray, List.getElem_cons_succ, List.getElem_cons_zero, Act.put, List.setIfInBounds_toArray, List.set_cons_succ, List.set_cons_zero]
              refine wpAnyH_take (i := 3) (v := .pointer (some ⟨lb, lf + k * 67, none⟩)) rfl (by kernel_rfl) (by kernel_rfl) (by kernel_rfl) (fun _ _ _ h => h) (Or.inl ⟨by rfl, by intro w9 hS; go_simp⟩) S4.out ?_
              try simp only [List.getElem_toArray, List.getElem_cons_succ, List.getElem_cons_zero, Act.put, List.setIfInBounds_toArray, List.set_cons_succ, List.set_cons_zero]
              refine wpAnyH_take (i := 4) (v := .pointer (some ⟨lb, lf + k * 67 + 1, none⟩)) rfl (by kernel_rfl) (by kernel_rfl) (by kernel_rfl) (fun _ _ _ h => h) (Or.inl ⟨by rfl, by intro w9 hS; go_simp⟩) S4.out ?_
              try simp only [List.getElem_toArray, List.getElem_cons_succ, List.getElem_cons_zero, Act.put, List.setIfInBounds_toArray, List.set_cons_succ, List.set_cons_zero]
              refine wpAnyH_take (i := 5) (v := .int .i64 z.n) rfl (by kernel_rfl) (by kernel_rfl) (by kernel_rfl) (fun _ _ _ h => h) (Or.inl ⟨by rfl, by intro w9 hS; have cc := CN.out w9 hS; go_simp⟩) S4.out ?_
              try simp only [List.getElem_toArray, List.getElem_cons_succ, List.getElem_cons_zero, Act.put, List.setIfInBounds_toArray, List.set_cons_succ, List.set_cons_zero]
              refine wpAnyH_take (i := 6) (v := .int .i64 (z.n % 64)) rfl (by kernel_rfl) (by kernel_rfl) (by kernel_rfl) (fun _ _ _ h => h) (Or.inl ⟨by rfl, by intro w9 hS; have cc := i64_and63 z.n; go_simp⟩) S4.out ?_
              try simp only [List.getElem_toArray, List.getElem_cons_succ, List.getElem_cons_zero, Act.put, List.setIfInBounds_toArray, List.set_cons_succ, List.set_cons_zero]
              refine wpAnyH_take (i := 7) (v := .slice (some ⟨lb, lf, none⟩) l1.length c1) rfl (by kernel_rfl) (by kernel_rfl) (by kernel_rfl) (fun _ _ _ h => h) (Or.inl ⟨by rfl, by intro w9 hS; go_simp⟩) S4.out ?_
              try simp only [List.getElem_toArray, List.getElem_cons_succ, List.getElem_cons_zero, Act.put, List.setIfInBounds_toArray, List.set_cons_succ, List.set_cons_zero]
              refine wpAnyH_take (i := 8) (v := .int .i64 (k : Int)) rfl (by kernel_rfl) (by kernel_rfl) (by kernel_rfl) (fun _ _ _ h => h) (Or.inl ⟨by rfl, by intro w9 hS; go_simp⟩) S4.out ?_
              try simp only [List.getElem_toArray, List.getElem_cons_succ, List.getElem_cons_zero, Act.put, List.setIfInBounds_toArray, List.set_cons_succ, List.set_cons_zero]
              refine wpAnyH_take (i := 9) (v := .pointer (some ⟨lb, lf + k * 67, none⟩)) rfl (by kernel_rfl) (by kernel_rfl) (by kernel_rfl) (fun _ _ _ h => h) (Or.inl ⟨by rfl, by intro w9 hS; go_simp⟩) S4.out ?_
              try simp only [List.getElem_toArray, List.getElem_cons_succ, List.getElem_cons_zero, Act.put, List.setIfInBounds_toArray, List.set_cons_succ, List.set_cons_zero]
              refine wpAnyH_take (i := 10) (v := .pointer (some ⟨lb, lf + k * 67 + 2, none⟩)) rfl (by kernel_rfl) (by kernel_rfl) (by kernel_rfl) (fun _ _ _ h => h) (Or.inl ⟨by rfl, by intro w9 hS; go_simp⟩) S4.out ?_
              try simp only [List.getElem_toArray, List.getElem_cons_succ, List.getElem_cons_zero, Act.put, List.setIfInBounds_toArray, List.set_cons_succ, List.set_cons_zero]
              refine wpAnyH_take (i := 11) (v := bv z.b) rfl (by kernel_rfl) (by kernel_rfl) (by kernel_rfl) (fun _ _ _ h => h) (yieldsIf_load_blk rfl (.tmp 91) rfl lb (lf + k * 67 + 2) rfl z.b hz.out.1 CB.out) S4.out ?_
              try simp only [List.getElem_toArray, List.getElem_cons_succ, List.getElem_cons_zero, Act.put, List.setIfInBounds_toArray, List.set_cons_succ, List.set_cons_zero]
              refine wpAnyH_ready (rs := [12]) (by kernel_rfl) (by simp) ?_
              refine AllReadyH.cons rfl (fun K hK => ?_) AllReadyH.nil
              dsimp only [List.getElem_toArray, List.getElem_cons_succ, List.getElem_cons_zero]
              go_simp
              have c := Write_v D4.out (fun i hi => ⟨Nat.le_trans S4.out.size hi, fun e => by have := CU4.out.lt; omega⟩) (z.n % 64) z.b hz.out.1 (by have := HS.out.2.2.2.2.1; omega) (by have := HS.out.2.2.2.1; omega)
              rw [WR.out.1] at c
              refine c.mono ?_
              clear c
              rintro e w5 ⟨rfl, hd5, ht5⟩
              have D5 := Lib.hid hd5
              have S5 := Lib.hid (S4.out.trans (ht5.below S4.out.size fun i hi => hi.1))
              have CU5 := Lib.hid (CU4.out.turn ht5 (fun h => h.2 rfl))
              clear hd5 ht5
              refine hK.out _ _ S5.out (fun _ => ?_)
              clear hK K
              try simp only [List.getElem_toArray, List.getElem_cons_succ, List.getElem_cons_zero, Act.put, List.setIfInBounds_toArray, List.set_cons_succ, List.set_cons_zero]
              refine wpAnyH_take (i := 13) (v := .bool false) rfl (by kernel_rfl) (by kernel_rfl) (by kernel_rfl) (fun _ _ _ h => h) (Or.inl ⟨by rfl, by intro w9 hS; go_simp⟩) S5.out ?_
              try simp only [List.getElem_toArray, List.getElem_cons_succ, List.getElem_cons_zero, Act.put, List.setIfInBounds_toArray, List.set_cons_succ, List.set_cons_zero]
              refine wpAnyH_done (by kernel_rfl) ?_ _
              go_wp2
              go_roundw
              case rel => exact ⟨k + 1, _, by omega, by omega, by go_num, D5.out, S5.out, ⟨cur, CU5.out, FI.out⟩, WR.out.2, by rw [WO.out.1, HI.out.2.2.2.2.1, TK.out, List.map_append]; rfl, by rw [WO.out.2, HI.out.2.2.2.2.2]⟩
              case measure => simp [intOf]; omega
            · have hkk : (decide ((k : Int) < (l1.length : Int)) = false ∧ (l1.length : Int) ≤ (k : Int)) ∨ ((k : Int) < (l1.length : Int) ∧ decide ((k : Int) < 40) = false ∧ (40 : Int) ≤ (k : Int)) := by
                by_cases h : k < l1.length
                · exact .inr ⟨by omega, by simp; omega, by omega⟩
                · exact .inl ⟨by simp; omega, by omega⟩
              clear hlt
              rcases hkk with ⟨hkk, hkk2⟩ | ⟨hkk1, hkk, hkk2⟩
              all_goals
                go_wp2_with fail
                go_meet
                exact ⟨k, s, hk40, HI.out⟩

        case rest =>
          obtain ⟨kc, sc, hkc, hI⟩ := hcut
          have HI := Lib.hid hI
          have HS := Lib.hid hI.2.2.2.1
          have HKC := Lib.hid hkc
          clear hI HQ3 hkc
          go_wp2_with fail
          have c := Crash_v HI.out.1 (fun i hi => ⟨Nat.le_trans HI.out.2.1.size hi, fun e => by obtain ⟨cur, hcur, -⟩ := HI.out.2.2.1; have := hcur.lt; omega⟩) l2 A2 c2 (RD2.out.keepI HI.out.2.1) OK2.out (by have := HS.out.2.2.2.1; have := HKC.out; omega) hlen2
          refine c.mono ?_
          clear c
          rintro e w8 ⟨rfl, hd3, ht3⟩
          have HQ4 := Lib.hid (show Q4 w d gl L (crashed sc l2) w8 from ⟨hd3, HI.out.2.1.trans (ht3.below HI.out.2.1.size fun i hi => hi.1), by obtain ⟨cur, hcur, hf⟩ := HI.out.2.2.1; exact ⟨cur, hcur.turn ht3 (fun h => h.2 rfl), hf⟩⟩)
          clear hd3 ht3
          have QT := Lib.hid (show (crashed sc l2).laid = tear (((l1.take kc).map dq).zip l2) L from by show tear (sc.q.zip l2) sc.laid = _; rw [HI.out.2.2.2.2.1, HI.out.2.2.2.2.2])
          have HTOLD := Lib.hid (show ∀ n : Nat, n < 64 → readV (crashed sc l2) (n : Int) = tell (crashed sc l2).laid (n : Int) ∧ readE (crashed sc l2) (n : Int) = 0 ∧ sureV (crashed sc l2) (n : Int) = tell (crashed sc l2).laid (n : Int) ∧ sureE (crashed sc l2) (n : Int) = 0 from fun n hn => crash_told sc l2 (n : Int) (by omega) HS.out.1)
          generalize crashed sc l2 = S at HQ4 QT HTOLD
          clear HI HS
          go_wp2_with fail
          go_loopw [13] (fun v wr => ∃ n : Nat, n ≤ 64 ∧ v = .int .i64 n ∧ Q4 w d gl L S wr) (fun v _ => 64 - (intOf v).toNat)
          case atStart => exact ⟨0, Nat.zero_le _, rfl, HQ4.out⟩
          case round =>
            obtain ⟨n, hn, rfl, hQ⟩ := hrel
            have HQ := Lib.hid hQ
            clear hQ HQ4
            have hn0 : (0 : Int) ≤ (n : Int) := by omega
            have hn1 : (n : Int) ≤ 64 := by omega
            by_cases hn64 : n < 64
            · have ltn : (n : Int) < 64 := by omega
              obtain ⟨t1, t2, t3, t4⟩ := HTOLD.out n hn64
              have ca := Read_v HQ.out.1 (n : Int)
              have cb := fun W (h : Q4 w d gl L S W) => Sure_v h.1 (n : Int)
              rw [t1, t2] at ca
              rw [t3, t4] at cb
              have hrl : (tell S.laid (n : Int)).length = 64 := by rw [QT.out]; exact lok_tell (lok_tear QL.out (dq_len OK1.out)) _
              have hrb : tell (tear (((l1.take kc).map dq).zip l2) L) (n : Int) = tell S.laid (n : Int) := by rw [QT.out]
              generalize tell S.laid (n : Int) = rb at ca cb hrl hrb
              have HRL := Lib.hid hrl
              have HRB := Lib.hid hrb
              have CBD := Lib.hid cb
              clear t1 t2 t3 t4 hrl hrb cb
              go_wp2_with fail
              refine ca.mono ?_
              clear ca
              rintro e v1 ⟨rfl, hb⟩
              have HQa := Lib.hid (HQ.out.below hb)
              clear hb
              go_wp2_with (first
                | (refine wpList_alloc_blk rfl rfl ?_; intro g14 va1 hk hb hg; go_frame; have KA1 := Lib.hid hk; have BA1 := Lib.hid hb; have GA1 := Lib.hid hg; clear hk hb hg)
                | (refine wpList_fill_blk rfl (.tmp 14) (.tmp 107) rfl g14 rfl rb rfl HRL.out KA1.out ?_; intro vb1 hk hr; go_frame; have K14 := Lib.hid hk; have HQb := Lib.hid (HQa.out.below (keep_own BA1.out hr GA1.out)); clear hk hr))
              refine (CBD.out _ HQb.out).mono ?_
              rintro e v2 ⟨rfl, hb⟩
              have HQc := Lib.hid (HQb.out.below hb)
              have K14b := Lib.hid (K14.out.below hb K14.out.lt)
              clear hb
              go_upto_block 8 with (first
                | (refine wpList_alloc_blk rfl rfl ?_; intro g16 va2 hk hb hg; go_frame; have KA2 := Lib.hid hk; have BA2 := Lib.hid hb; have GA2 := Lib.hid hg; clear hk hb hg)
                | (refine wpList_fill_blk rfl (.tmp 16) (.tmp 113) rfl g16 rfl rb rfl HRL.out KA2.out ?_; intro vb2 hk hr; go_frame; have K16 := Lib.hid hk; have BB2 := Lib.hid (keep_own BA2.out hr GA2.out); have HQ5a := Lib.hid (show Q5 w d gl g14 L S rb vb2 from ⟨HQc.out.below BB2.out, K14b.out.below BB2.out K14b.out.lt⟩); clear hk hr)
                | (refine wpList_load_blk_g rfl (.tmp 14) rfl g14 0 rfl rb HRL.out (At.whole HQ5a.out.2) ?_; go_frame)
                | (refine wpList_load_blk_g rfl (.tmp 16) rfl g16 0 rfl rb HRL.out (At.whole K16.out) ?_; go_frame)
                | (refine wpList_neq_blk rfl (.tmp 115) (.tmp 116) 30 rfl rb rfl rfl HRL.out ?_; go_frame))
              go_wp2_with fail
              clear HQ HQa HQb HQc K14 K14b K16 KA1 KA2 BA1 BA2 GA1 GA2 BB2
              go_loopw [18] (fun v wr => ∃ m : Nat, QI m v ∧ Q5 w d gl g14 L S rb wr) (fun v _ => 64 - (intOf v).toNat)
              case atStart => exact ⟨0, .inl ⟨rfl, rfl⟩, HQ5a.out⟩
              case round =>
                obtain ⟨m, hm, hq5⟩ := hrel
                have HQ5 := Lib.hid hq5
                clear hq5 HQ5a
                rcases hm with ⟨rfl, rfl⟩ | ⟨rfl, rfl⟩ | ⟨rfl, rfl⟩ | ⟨rfl, rfl⟩ | ⟨rfl, rfl⟩
                · go_wp2_with fail
                  refine wp_region_held (S := fun w9 => Below wr.heap.size wr w9) hmix ?_
                  change wpAnyH _ _ _ _ _ _ _ _ (World.drew wr)
                  have S4 := Lib.hid (Below.refl wr.heap.size wr).drew
                  generalize World.drew wr = w4 at S4 ⊢
                  refine wpAnyH_take (i := 0) (v := .int .i64 0) rfl (by kernel_rfl) (by kernel_rfl) (by kernel_rfl) (fun _ _ _ h => h) (Or.inl ⟨by rfl, by intro w9 hS; go_simp⟩) S4.out ?_
                  try simp only [List.getElem_toArray, List.getElem_cons_succ, List.getElem_cons_zero, Act.put, List.setIfInBounds_toArray, List.set_cons_succ, List.set_cons_zero]
                  refine wpAnyH_take (i := 1) (v := .int .i64 0) rfl (by kernel_rfl) (by kernel_rfl) (by kernel_rfl) (fun _ _ _ h => h) (Or.inl ⟨by rfl, by intro w9 hS; go_simp⟩) S4.out ?_
                  try simp only [List.getElem_toArray, List.getElem_cons_succ, List.getElem_cons_zero, Act.put, List.setIfInBounds_toArray, List.set_cons_succ, List.set_cons_zero]
                  refine wpAnyH_take (i := 2) (v := .int .i64 16) rfl (by kernel_rfl) (by kernel_rfl) (by kernel_rfl) (fun _ _ _ h => h) (Or.inl ⟨by rfl, by intro w9 hS; go_simp; try (first | rfl | decide)⟩) S4.out ?_
                  try simp only [List.getElem_toArray, List.getElem_cons_succ, List.getElem_cons_zero, Act.put, List.setIfInBounds_toArray, List.set_cons_succ, List.set_cons_zero]
                  refine wpAnyH_take (i := 3) (v := .slice (some ⟨g14, 0, none⟩) 16 64) rfl (by kernel_rfl) (by kernel_rfl) (by kernel_rfl) (fun _ _ _ h => h) (Or.inl ⟨by rfl, by intro w9 hS; go_simp; try (first | rfl | decide)⟩) S4.out ?_
                  try simp only [List.getElem_toArray, List.getElem_cons_succ, List.getElem_cons_zero, Act.put, List.setIfInBounds_toArray, List.set_cons_succ, List.set_cons_zero]
                  refine wpAnyH_take (i := 4) (v := .string ⟨(quarter rb 0).toArray⟩) rfl (by kernel_rfl) (by kernel_rfl) (by kernel_rfl) (fun _ _ _ h => h) (yieldsIf_conv rfl (.tmp 133) rfl (some ⟨g14, 0, none⟩) 64 (quarter rb 0) (quarter_len HRL.out 0 (by decide)) rfl (fun w9 hS => at_quarter (f := 0) (At.whole (HQ5.out.2.below hS HQ5.out.2.lt)) 0 (by rw [HRL.out]; decide))) S4.out ?_
                  try simp only [List.getElem_toArray, List.getElem_cons_succ, List.getElem_cons_zero, Act.put, List.setIfInBounds_toArray, List.set_cons_succ, List.set_cons_zero]
                  refine wpAnyH_take (i := 5) (v := .int .i64 (n : Int)) rfl (by kernel_rfl) (by kernel_rfl) (by kernel_rfl) (fun _ _ _ h => h) (Or.inl ⟨by rfl, by intro w9 hS; go_simp⟩) S4.out ?_
                  try simp only [List.getElem_toArray, List.getElem_cons_succ, List.getElem_cons_zero, Act.put, List.setIfInBounds_toArray, List.set_cons_succ, List.set_cons_zero]
                  refine wpAnyH_take (i := 6) (v := .pointer (some ⟨gl, n * 64, none⟩)) rfl (by kernel_rfl) (by kernel_rfl) (by kernel_rfl) (fun _ _ _ h => h) (Or.inl ⟨by rfl, by intro w9 hS; go_simp; try (first | rfl | decide)⟩) S4.out ?_
                  try simp only [List.getElem_toArray, List.getElem_cons_succ, List.getElem_cons_zero, Act.put, List.setIfInBounds_toArray, List.set_cons_succ, List.set_cons_zero]
                  refine wpAnyH_take (i := 7) (v := .int .i64 0) rfl (by kernel_rfl) (by kernel_rfl) (by kernel_rfl) (fun _ _ _ h => h) (Or.inl ⟨by rfl, by intro w9 hS; go_simp⟩) S4.out ?_
                  try simp only [List.getElem_toArray, List.getElem_cons_succ, List.getElem_cons_zero, Act.put, List.setIfInBounds_toArray, List.set_cons_succ, List.set_cons_zero]
                  refine wpAnyH_take (i := 8) (v := .int .i64 0) rfl (by kernel_rfl) (by kernel_rfl) (by kernel_rfl) (fun _ _ _ h => h) (Or.inl ⟨by rfl, by intro w9 hS; go_simp⟩) S4.out ?_
                  try simp only [List.getElem_toArray, List.getElem_cons_succ, List.getElem_cons_zero, Act.put, List.setIfInBounds_toArray, List.set_cons_succ, List.set_cons_zero]
                  refine wpAnyH_take (i := 9) (v := .int .i64 16) rfl (by kernel_rfl) (by kernel_rfl) (by kernel_rfl) (fun _ _ _ h => h) (Or.inl ⟨by rfl, by intro w9 hS; go_simp; try (first | rfl | decide)⟩) S4.out ?_
                  try simp only [List.getElem_toArray, List.getElem_cons_succ, List.getElem_cons_zero, Act.put, List.setIfInBounds_toArray, List.set_cons_succ, List.set_cons_zero]
                  refine wpAnyH_take (i := 10) (v := .slice (some ⟨gl, n * 64, none⟩) 16 64) rfl (by kernel_rfl) (by kernel_rfl) (by kernel_rfl) (fun _ _ _ h => h) (Or.inl ⟨by rfl, by intro w9 hS; go_simp; try (first | rfl | decide)⟩) S4.out ?_
                  try simp only [List.getElem_toArray, List.getElem_cons_succ, List.getElem_cons_zero, Act.put, List.setIfInBounds_toArray, List.set_cons_succ, List.set_cons_zero]
                  refine wpAnyH_take (i := 11) (v := .string ⟨(quarter (tell L (n : Int)) 0).toArray⟩) rfl (by kernel_rfl) (by kernel_rfl) (by kernel_rfl) (fun _ _ _ h => h) (yieldsIf_conv rfl (.tmp 140) rfl (some ⟨gl, n * 64, none⟩) 64 (quarter (tell L (n : Int)) 0) (quarter_len (lok_tell QL.out _) 0 (by decide)) rfl (fun w9 hS => at_quarter (laid_at (HQ5.out.below hS) n hn64) 0 (by rw [lok_tell QL.out]; decide))) S4.out ?_
                  try simp only [List.getElem_toArray, List.getElem_cons_succ, List.getElem_cons_zero, Act.put, List.setIfInBounds_toArray, List.set_cons_succ, List.set_cons_zero]
                  refine wpAnyH_take (i := 12) (v := .bool (quarter rb 0 == quarter (tell L (n : Int)) 0)) rfl (by kernel_rfl) (by kernel_rfl) (by kernel_rfl) (fun _ _ _ h => h) (Or.inl ⟨by rfl, by intro w9 hS; go_simp; try (first | rfl | decide)⟩) S4.out ?_
                  try simp only [List.getElem_toArray, List.getElem_cons_succ, List.getElem_cons_zero, Act.put, List.setIfInBounds_toArray, List.set_cons_succ, List.set_cons_zero]
                  refine wpAnyH_take (i := 13) (v := .bool (quarter rb 0 == quarter (tell L (n : Int)) 0)) rfl (by kernel_rfl) (by kernel_rfl) (by kernel_rfl) (fun _ _ _ h => h) (Or.inl ⟨by rfl, by intro w9 hS; go_simp; try (first | rfl | decide)⟩) S4.out ?_
                  try simp only [List.getElem_toArray, List.getElem_cons_succ, List.getElem_cons_zero, Act.put, List.setIfInBounds_toArray, List.set_cons_succ, List.set_cons_zero]
                  refine wpAnyH_done (by kernel_rfl) ?_ _
                  have HQ5b := Lib.hid (HQ5.out.below S4.out)
                  have ALL := Lib.hid (quarters_all l1 kc l2 L QL.out OK1.out (n : Int) 0 (by decide))
                  rw [HRB.out] at ALL
                  go_wp2_with fail
                  go_loopw [19, 20] (fun v i wr => ∃ (k : Nat) (is : Bool), k ≤ l1.length ∧ k ≤ 40 ∧ v = .bool is ∧ i = .int .i64 k ∧ Q5 w d gl g14 L S rb wr ∧ (is = false → quarter rb 0 ≠ quarter (tell L (n : Int)) 0 ∧ ∀ j, j < k → ¬ Hit l1 n rb 0 j)) (fun _ i _ => 40 - (intOf i).toNat)
                  case atStart => exact ⟨0, _, Nat.zero_le _, Nat.zero_le _, rfl, rfl, HQ5b.out, fun hf => ⟨by simpa using hf, fun j hj => by cases hj⟩⟩
                  case round =>
                    obtain ⟨k, is, hk, hk40, rfl, rfl, hq6, hno⟩ := hrel
                    have HQ6 := Lib.hid hq6
                    have HNO := Lib.hid hno
                    clear hq6 hno
                    have hk0 : (0 : Int) ≤ (k : Int) := by omega
                    have hk1 : (k : Int) ≤ 40 := by omega
                    by_cases hlt : k < l1.length
                    · have lt1 : (k : Int) < (l1.length : Int) := by omega
                      by_cases hlt2 : k < 40
                      · have lt2 : (k : Int) < 40 := by omega
                        cases is
                        · obtain ⟨lb, lf, hA, hcn, hcb⟩ := deeds_at RD1.out k hlt
                          have hz := Lib.hid (OK1.out _ (List.getElem_mem hlt))
                          obtain ⟨z, hzz⟩ : ∃ z, l1[k] = z := ⟨_, rfl⟩
                          have HZZ := Lib.hid hzz
                          rw [hzz] at hz hcn hcb
                          have CN := Lib.hid hcn
                          have CB := Lib.hid hcb
                          clear hcn hcb hzz
                          subst hA
                          by_cases hne : z.n % 64 = (n : Int)
                          · have HE := Lib.hid (show ((z.n % 64 : Int) == (n : Int)) = true by simpa using hne)
                            clear hne
                            go_wp2_with fail
                            refine wp_region_held (S := fun w9 => Below wr.heap.size wr w9) hmix ?_
                            change wpAnyH _ _ _ _ _ _ _ _ (World.drew wr)
                            have S6 := Lib.hid (Below.refl wr.heap.size wr).drew
                            generalize World.drew wr = w6 at S6 ⊢
                            refine wpAnyH_take (i := 0) (v := .slice (some ⟨lb, lf, none⟩) l1.length c1) rfl (by kernel_rfl) (by kernel_rfl) (by kernel_rfl) (fun _ _ _ h => h) (Or.inl ⟨by rfl, by intro w9 hS; go_simp⟩) S6.out ?_
                            try simp only [List.getElem_toArray, List.getElem_cons_succ, List.getElem_cons_zero, Act.put, List.setIfInBounds_toArray, List.set_cons_succ, List.set_cons_zero]
                            refine wpAnyH_take (i := 1) (v := .int .i64 (k : Int)) rfl (by kernel_rfl) (by kernel_rfl) (by kernel_rfl) (fun _ _ _ h => h) (Or.inl ⟨by rfl, by intro w9 hS; go_simp⟩) S6.out ?_
                            try simp only [List.getElem_toArray, List.getElem_cons_succ, List.getElem_cons_zero, Act.put, List.setIfInBounds_toArray, List.set_cons_succ, List.set_cons_zero]
                            refine wpAnyH_take (i := 2) (v := .pointer (some ⟨lb, lf + k * 67, none⟩)) rfl (by kernel_rfl) (by kernel_rfl) (by kernel_rfl) (fun _ _ _ h => h) (Or.inl ⟨by rfl, by intro w9 hS; go_simp⟩) S6.out ?_
                            try simp only [List.getElem_toArray, List.getElem_cons_succ, List.getElem_cons_zero, Act.put, List.setIfInBounds_toArray, List.set_cons_succ, List.set_cons_zero]
                            refine wpAnyH_take (i := 3) (v := .pointer (some ⟨lb, lf + k * 67 + 1, none⟩)) rfl (by kernel_rfl) (by kernel_rfl) (by kernel_rfl) (fun _ _ _ h => h) (Or.inl ⟨by rfl, by intro w9 hS; go_simp⟩) S6.out ?_
                            try simp only [List.getElem_toArray, List.getElem_cons_succ, List.getElem_cons_zero, Act.put, List.setIfInBounds_toArray, List.set_cons_succ, List.set_cons_zero]
                            refine wpAnyH_take (i := 4) (v := .int .i64 z.n) rfl (by kernel_rfl) (by kernel_rfl) (by kernel_rfl) (fun _ _ _ h => h) (Or.inl ⟨by rfl, by intro w9 hS; have cc := CN.out w9 (HQ6.out.1.2.1.trans (hS.mono HQ6.out.1.2.1.size)); go_simp⟩) S6.out ?_
                            try simp only [List.getElem_toArray, List.getElem_cons_succ, List.getElem_cons_zero, Act.put, List.setIfInBounds_toArray, List.set_cons_succ, List.set_cons_zero]
                            refine wpAnyH_take (i := 5) (v := .int .i64 (z.n % 64)) rfl (by kernel_rfl) (by kernel_rfl) (by kernel_rfl) (fun _ _ _ h => h) (Or.inl ⟨by rfl, by intro w9 hS; have cc := i64_and63 z.n; go_simp⟩) S6.out ?_
                            try simp only [List.getElem_toArray, List.getElem_cons_succ, List.getElem_cons_zero, Act.put, List.setIfInBounds_toArray, List.set_cons_succ, List.set_cons_zero]
                            refine wpAnyH_take (i := 6) (v := .int .i64 (n : Int)) rfl (by kernel_rfl) (by kernel_rfl) (by kernel_rfl) (fun _ _ _ h => h) (Or.inl ⟨by rfl, by intro w9 hS; go_simp⟩) S6.out ?_
                            try simp only [List.getElem_toArray, List.getElem_cons_succ, List.getElem_cons_zero, Act.put, List.setIfInBounds_toArray, List.set_cons_succ, List.set_cons_zero]
                            refine wpAnyH_take (i := 7) (v := .bool true) rfl (by kernel_rfl) (by kernel_rfl) (by kernel_rfl) (fun _ _ _ h => h) (Or.inl ⟨by rfl, by intro w9 hS; have cc := HE.out; go_simp⟩) S6.out ?_
                            try simp only [List.getElem_toArray, List.getElem_cons_succ, List.getElem_cons_zero, Act.put, List.setIfInBounds_toArray, List.set_cons_succ, List.set_cons_zero]
                            refine wpAnyH_take (i := 8) (v := .bool true) rfl (by kernel_rfl) (by kernel_rfl) (by kernel_rfl) (fun _ _ _ h => h) (Or.inl ⟨by rfl, by intro w9 hS; go_simp⟩) S6.out ?_
                            try simp only [List.getElem_toArray, List.getElem_cons_succ, List.getElem_cons_zero, Act.put, List.setIfInBounds_toArray, List.set_cons_succ, List.set_cons_zero]
                            refine wpAnyH_take (i := 9) (v := .int .i64 0) rfl (by kernel_rfl) (by kernel_rfl) (by kernel_rfl) (fun _ _ _ h => h) (Or.inl ⟨by rfl, by intro w9 hS; go_simp⟩) S6.out ?_
                            try simp only [List.getElem_toArray, List.getElem_cons_succ, List.getElem_cons_zero, Act.put, List.setIfInBounds_toArray, List.set_cons_succ, List.set_cons_zero]
                            refine wpAnyH_take (i := 10) (v := .int .i64 0) rfl (by kernel_rfl) (by kernel_rfl) (by kernel_rfl) (fun _ _ _ h => h) (Or.inl ⟨by rfl, by intro w9 hS; go_simp⟩) S6.out ?_
                            try simp only [List.getElem_toArray, List.getElem_cons_succ, List.getElem_cons_zero, Act.put, List.setIfInBounds_toArray, List.set_cons_succ, List.set_cons_zero]
                            refine wpAnyH_take (i := 11) (v := .int .i64 16) rfl (by kernel_rfl) (by kernel_rfl) (by kernel_rfl) (fun _ _ _ h => h) (Or.inl ⟨by rfl, by intro w9 hS; go_simp; try (first | rfl | decide)⟩) S6.out ?_
                            try simp only [List.getElem_toArray, List.getElem_cons_succ, List.getElem_cons_zero, Act.put, List.setIfInBounds_toArray, List.set_cons_succ, List.set_cons_zero]
                            refine wpAnyH_take (i := 12) (v := .slice (some ⟨g14, 0, none⟩) 16 64) rfl (by kernel_rfl) (by kernel_rfl) (by kernel_rfl) (fun _ _ _ h => h) (Or.inl ⟨by rfl, by intro w9 hS; go_simp; try (first | rfl | decide)⟩) S6.out ?_
                            try simp only [List.getElem_toArray, List.getElem_cons_succ, List.getElem_cons_zero, Act.put, List.setIfInBounds_toArray, List.set_cons_succ, List.set_cons_zero]
                            refine wpAnyH_take (i := 13) (v := .string ⟨(quarter rb 0).toArray⟩) rfl (by kernel_rfl) (by kernel_rfl) (by kernel_rfl) (fun _ _ _ h => h) (yieldsIf_conv rfl (.tmp 169) rfl (some ⟨g14, 0, none⟩) 64 (quarter rb 0) (quarter_len HRL.out 0 (by decide)) rfl (fun w9 hS => at_quarter (f := 0) (At.whole (HQ6.out.2.below hS HQ6.out.2.lt)) 0 (by rw [HRL.out]; decide))) S6.out ?_
                            try simp only [List.getElem_toArray, List.getElem_cons_succ, List.getElem_cons_zero, Act.put, List.setIfInBounds_toArray, List.set_cons_succ, List.set_cons_zero]
                            refine wpAnyH_take (i := 14) (v := .slice (some ⟨lb, lf, none⟩) l1.length c1) rfl (by kernel_rfl) (by kernel_rfl) (by kernel_rfl) (fun _ _ _ h => h) (Or.inl ⟨by rfl, by intro w9 hS; go_simp⟩) S6.out ?_
                            try simp only [List.getElem_toArray, List.getElem_cons_succ, List.getElem_cons_zero, Act.put, List.setIfInBounds_toArray, List.set_cons_succ, List.set_cons_zero]
                            refine wpAnyH_take (i := 15) (v := .int .i64 (k : Int)) rfl (by kernel_rfl) (by kernel_rfl) (by kernel_rfl) (fun _ _ _ h => h) (Or.inl ⟨by rfl, by intro w9 hS; go_simp⟩) S6.out ?_
                            try simp only [List.getElem_toArray, List.getElem_cons_succ, List.getElem_cons_zero, Act.put, List.setIfInBounds_toArray, List.set_cons_succ, List.set_cons_zero]
                            refine wpAnyH_take (i := 16) (v := .pointer (some ⟨lb, lf + k * 67, none⟩)) rfl (by kernel_rfl) (by kernel_rfl) (by kernel_rfl) (fun _ _ _ h => h) (Or.inl ⟨by rfl, by intro w9 hS; go_simp⟩) S6.out ?_
                            try simp only [List.getElem_toArray, List.getElem_cons_succ, List.getElem_cons_zero, Act.put, List.setIfInBounds_toArray, List.set_cons_succ, List.set_cons_zero]
                            refine wpAnyH_take (i := 17) (v := .pointer (some ⟨lb, lf + k * 67 + 2, none⟩)) rfl (by kernel_rfl) (by kernel_rfl) (by kernel_rfl) (fun _ _ _ h => h) (Or.inl ⟨by rfl, by intro w9 hS; go_simp⟩) S6.out ?_
                            try simp only [List.getElem_toArray, List.getElem_cons_succ, List.getElem_cons_zero, Act.put, List.setIfInBounds_toArray, List.set_cons_succ, List.set_cons_zero]
                            refine wpAnyH_take (i := 18) (v := .int .i64 0) rfl (by kernel_rfl) (by kernel_rfl) (by kernel_rfl) (fun _ _ _ h => h) (Or.inl ⟨by rfl, by intro w9 hS; go_simp⟩) S6.out ?_
                            try simp only [List.getElem_toArray, List.getElem_cons_succ, List.getElem_cons_zero, Act.put, List.setIfInBounds_toArray, List.set_cons_succ, List.set_cons_zero]
                            refine wpAnyH_take (i := 19) (v := .int .i64 0) rfl (by kernel_rfl) (by kernel_rfl) (by kernel_rfl) (fun _ _ _ h => h) (Or.inl ⟨by rfl, by intro w9 hS; go_simp⟩) S6.out ?_
                            try simp only [List.getElem_toArray, List.getElem_cons_succ, List.getElem_cons_zero, Act.put, List.setIfInBounds_toArray, List.set_cons_succ, List.set_cons_zero]
                            refine wpAnyH_take (i := 20) (v := .int .i64 16) rfl (by kernel_rfl) (by kernel_rfl) (by kernel_rfl) (fun _ _ _ h => h) (Or.inl ⟨by rfl, by intro w9 hS; go_simp; try (first | rfl | decide)⟩) S6.out ?_
                            try simp only [List.getElem_toArray, List.getElem_cons_succ, List.getElem_cons_zero, Act.put, List.setIfInBounds_toArray, List.set_cons_succ, List.set_cons_zero]
                            refine wpAnyH_take (i := 21) (v := .slice (some ⟨lb, lf + k * 67 + 2, none⟩) 16 64) rfl (by kernel_rfl) (by kernel_rfl) (by kernel_rfl) (fun _ _ _ h => h) (Or.inl ⟨by rfl, by intro w9 hS; go_simp; try (first | rfl | decide)⟩) S6.out ?_
                            try simp only [List.getElem_toArray, List.getElem_cons_succ, List.getElem_cons_zero, Act.put, List.setIfInBounds_toArray, List.set_cons_succ, List.set_cons_zero]
                            refine wpAnyH_take (i := 22) (v := .string ⟨(quarter z.b 0).toArray⟩) rfl (by kernel_rfl) (by kernel_rfl) (by kernel_rfl) (fun _ _ _ h => h) (yieldsIf_conv rfl (.tmp 178) rfl (some ⟨lb, lf + k * 67 + 2, none⟩) 64 (quarter z.b 0) (quarter_len hz.out.1 0 (by decide)) rfl (fun w9 hS => at_quarter (CB.out w9 (HQ6.out.1.2.1.trans (hS.mono HQ6.out.1.2.1.size))) 0 (by rw [hz.out.1]; decide))) S6.out ?_
                            try simp only [List.getElem_toArray, List.getElem_cons_succ, List.getElem_cons_zero, Act.put, List.setIfInBounds_toArray, List.set_cons_succ, List.set_cons_zero]
                            refine wpAnyH_take (i := 23) (v := .bool (quarter rb 0 == quarter z.b 0)) rfl (by kernel_rfl) (by kernel_rfl) (by kernel_rfl) (fun _ _ _ h => h) (Or.inl ⟨by rfl, by intro w9 hS; go_simp; try (first | rfl | decide)⟩) S6.out ?_
                            try simp only [List.getElem_toArray, List.getElem_cons_succ, List.getElem_cons_zero, Act.put, List.setIfInBounds_toArray, List.set_cons_succ, List.set_cons_zero]
                            refine wpAnyH_take (i := 24) (v := .bool (quarter rb 0 == quarter z.b 0)) rfl (by kernel_rfl) (by kernel_rfl) (by kernel_rfl) (fun _ _ _ h => h) (Or.inl ⟨by rfl, by intro w9 hS; go_simp; try (first | rfl | decide)⟩) S6.out ?_
                            try simp only [List.getElem_toArray, List.getElem_cons_succ, List.getElem_cons_zero, Act.put, List.setIfInBounds_toArray, List.set_cons_succ, List.set_cons_zero]
                            refine wpAnyH_take (i := 25) (v := .bool (quarter rb 0 == quarter z.b 0)) rfl (by kernel_rfl) (by kernel_rfl) (by kernel_rfl) (fun _ _ _ h => h) (Or.inl ⟨by rfl, by intro w9 hS; go_simp; try (first | rfl | decide)⟩) S6.out ?_
                            try simp only [List.getElem_toArray, List.getElem_cons_succ, List.getElem_cons_zero, Act.put, List.setIfInBounds_toArray, List.set_cons_succ, List.set_cons_zero]
                            refine wpAnyH_done (by kernel_rfl) ?_ _
                            go_wp2
                            go_roundw
                            case rel =>
                              refine ⟨k + 1, (quarter rb 0 == quarter z.b 0), by omega, by omega, rfl, by go_num, HQ6.out.below S6.out, fun hf => ⟨(HNO.out (by trivial)).1, fun j hj => ?_⟩⟩
                              rcases Nat.lt_or_ge j k with h | h
                              · exact (HNO.out (by trivial)).2 j h
                              · obtain rfl : j = k := by omega
                                rintro ⟨h1, h2, h3⟩
                                rw [HZZ.out] at h2 h3
                                rw [h3] at hf
                                simp at hf
                            case measure => simp [intOf]; omega
                          · have HE := Lib.hid (show ((z.n % 64 : Int) == (n : Int)) = false by simpa using hne)
                            have HNE := Lib.hid hne
                            clear hne
                            go_wp2_with fail
                            refine wp_region_held (S := fun w9 => Below wr.heap.size wr w9) hmix ?_
                            change wpAnyH _ _ _ _ _ _ _ _ (World.drew wr)
                            have S6 := Lib.hid (Below.refl wr.heap.size wr).drew
                            generalize World.drew wr = w6 at S6 ⊢
                            refine wpAnyH_take (i := 0) (v := .slice (some ⟨lb, lf, none⟩) l1.length c1) rfl (by kernel_rfl) (by kernel_rfl) (by kernel_rfl) (fun _ _ _ h => h) (Or.inl ⟨by rfl, by intro w9 hS; go_simp⟩) S6.out ?_
                            try simp only [List.getElem_toArray, List.getElem_cons_succ, List.getElem_cons_zero, Act.put, List.setIfInBounds_toArray, List.set_cons_succ, List.set_cons_zero]
                            refine wpAnyH_take (i := 1) (v := .int .i64 (k : Int)) rfl (by kernel_rfl) (by kernel_rfl) (by kernel_rfl) (fun _ _ _ h => h) (Or.inl ⟨by rfl, by intro w9 hS; go_simp⟩) S6.out ?_
                            try simp only [List.getElem_toArray, List.getElem_cons_succ, List.getElem_cons_zero, Act.put, List.setIfInBounds_toArray, List.set_cons_succ, List.set_cons_zero]
                            refine wpAnyH_take (i := 2) (v := .pointer (some ⟨lb, lf + k * 67, none⟩)) rfl (by kernel_rfl) (by kernel_rfl) (by kernel_rfl) (fun _ _ _ h => h) (Or.inl ⟨by rfl, by intro w9 hS; go_simp⟩) S6.out ?_
                            try simp only [List.getElem_toArray, List.getElem_cons_succ, List.getElem_cons_zero, Act.put, List.setIfInBounds_toArray, List.set_cons_succ, List.set_cons_zero]
                            refine wpAnyH_take (i := 3) (v := .pointer (some ⟨lb, lf + k * 67 + 1, none⟩)) rfl (by kernel_rfl) (by kernel_rfl) (by kernel_rfl) (fun _ _ _ h => h) (Or.inl ⟨by rfl, by intro w9 hS; go_simp⟩) S6.out ?_
                            try simp only [List.getElem_toArray, List.getElem_cons_succ, List.getElem_cons_zero, Act.put, List.setIfInBounds_toArray, List.set_cons_succ, List.set_cons_zero]
                            refine wpAnyH_take (i := 4) (v := .int .i64 z.n) rfl (by kernel_rfl) (by kernel_rfl) (by kernel_rfl) (fun _ _ _ h => h) (Or.inl ⟨by rfl, by intro w9 hS; have cc := CN.out w9 (HQ6.out.1.2.1.trans (hS.mono HQ6.out.1.2.1.size)); go_simp⟩) S6.out ?_
                            try simp only [List.getElem_toArray, List.getElem_cons_succ, List.getElem_cons_zero, Act.put, List.setIfInBounds_toArray, List.set_cons_succ, List.set_cons_zero]
                            refine wpAnyH_take (i := 5) (v := .int .i64 (z.n % 64)) rfl (by kernel_rfl) (by kernel_rfl) (by kernel_rfl) (fun _ _ _ h => h) (Or.inl ⟨by rfl, by intro w9 hS; have cc := i64_and63 z.n; go_simp⟩) S6.out ?_
                            try simp only [List.getElem_toArray, List.getElem_cons_succ, List.getElem_cons_zero, Act.put, List.setIfInBounds_toArray, List.set_cons_succ, List.set_cons_zero]
                            refine wpAnyH_take (i := 6) (v := .int .i64 (n : Int)) rfl (by kernel_rfl) (by kernel_rfl) (by kernel_rfl) (fun _ _ _ h => h) (Or.inl ⟨by rfl, by intro w9 hS; go_simp⟩) S6.out ?_
                            try simp only [List.getElem_toArray, List.getElem_cons_succ, List.getElem_cons_zero, Act.put, List.setIfInBounds_toArray, List.set_cons_succ, List.set_cons_zero]
                            refine wpAnyH_take (i := 7) (v := .bool false) rfl (by kernel_rfl) (by kernel_rfl) (by kernel_rfl) (fun _ _ _ h => h) (Or.inl ⟨by rfl, by intro w9 hS; have cc := HE.out; go_simp⟩) S6.out ?_
                            try simp only [List.getElem_toArray, List.getElem_cons_succ, List.getElem_cons_zero, Act.put, List.setIfInBounds_toArray, List.set_cons_succ, List.set_cons_zero]
                            refine wpAnyH_take (i := 8) (v := .bool false) rfl (by kernel_rfl) (by kernel_rfl) (by kernel_rfl) (fun _ _ _ h => h) (Or.inl ⟨by rfl, by intro w9 hS; go_simp⟩) S6.out ?_
                            try simp only [List.getElem_toArray, List.getElem_cons_succ, List.getElem_cons_zero, Act.put, List.setIfInBounds_toArray, List.set_cons_succ, List.set_cons_zero]
                            refine wpAnyH_take (i := 9) (v := undef) rfl (by kernel_rfl) (by kernel_rfl) (by kernel_rfl) (fun _ _ _ h => h) (Or.inr ⟨by rfl, rfl⟩) S6.out ?_
                            try simp only [List.getElem_toArray, List.getElem_cons_succ, List.getElem_cons_zero, Act.put, List.setIfInBounds_toArray, List.set_cons_succ, List.set_cons_zero]
                            refine wpAnyH_take (i := 10) (v := undef) rfl (by kernel_rfl) (by kernel_rfl) (by kernel_rfl) (fun _ _ _ h => h) (Or.inr ⟨by rfl, rfl⟩) S6.out ?_
                            try simp only [List.getElem_toArray, List.getElem_cons_succ, List.getElem_cons_zero, Act.put, List.setIfInBounds_toArray, List.set_cons_succ, List.set_cons_zero]
                            refine wpAnyH_take (i := 11) (v := undef) rfl (by kernel_rfl) (by kernel_rfl) (by kernel_rfl) (fun _ _ _ h => h) (Or.inr ⟨by rfl, rfl⟩) S6.out ?_
                            try simp only [List.getElem_toArray, List.getElem_cons_succ, List.getElem_cons_zero, Act.put, List.setIfInBounds_toArray, List.set_cons_succ, List.set_cons_zero]
                            refine wpAnyH_take (i := 12) (v := undef) rfl (by kernel_rfl) (by kernel_rfl) (by kernel_rfl) (fun _ _ _ h => h) (Or.inr ⟨by rfl, rfl⟩) S6.out ?_
                            try simp only [List.getElem_toArray, List.getElem_cons_succ, List.getElem_cons_zero, Act.put, List.setIfInBounds_toArray, List.set_cons_succ, List.set_cons_zero]
                            refine wpAnyH_take (i := 13) (v := undef) rfl (by kernel_rfl) (by kernel_rfl) (by kernel_rfl) (fun _ _ _ h => h) (Or.inr ⟨by rfl, rfl⟩) S6.out ?_
                            try simp only [List.getElem_toArray, List.getElem_cons_succ, List.getElem_cons_zero, Act.put, List.setIfInBounds_toArray, List.set_cons_succ, List.set_cons_zero]
                            refine wpAnyH_take (i := 14) (v := undef) rfl (by kernel_rfl) (by kernel_rfl) (by kernel_rfl) (fun _ _ _ h => h) (Or.inr ⟨by rfl, rfl⟩) S6.out ?_
                            try simp only [List.getElem_toArray, List.getElem_cons_succ, List.getElem_cons_zero, Act.put, List.setIfInBounds_toArray, List.set_cons_succ, List.set_cons_zero]
                            refine wpAnyH_take (i := 15) (v := undef) rfl (by kernel_rfl) (by kernel_rfl) (by kernel_rfl) (fun _ _ _ h => h) (Or.inr ⟨by rfl, rfl⟩) S6.out ?_
                            try simp only [List.getElem_toArray, List.getElem_cons_succ, List.getElem_cons_zero, Act.put, List.setIfInBounds_toArray, List.set_cons_succ, List.set_cons_zero]
                            refine wpAnyH_take (i := 16) (v := undef) rfl (by kernel_rfl) (by kernel_rfl) (by kernel_rfl) (fun _ _ _ h => h) (Or.inr ⟨by rfl, rfl⟩) S6.out ?_
                            try simp only [List.getElem_toArray, List.getElem_cons_succ, List.getElem_cons_zero, Act.put, List.setIfInBounds_toArray, List.set_cons_succ, List.set_cons_zero]
                            refine wpAnyH_take (i := 17) (v := undef) rfl (by kernel_rfl) (by kernel_rfl) (by kernel_rfl) (fun _ _ _ h => h) (Or.inr ⟨by rfl, rfl⟩) S6.out ?_
                            try simp only [List.getElem_toArray, List.getElem_cons_succ, List.getElem_cons_zero, Act.put, List.setIfInBounds_toArray, List.set_cons_succ, List.set_cons_zero]
                            refine wpAnyH_take (i := 18) (v := undef) rfl (by kernel_rfl) (by kernel_rfl) (by kernel_rfl) (fun _ _ _ h => h) (Or.inr ⟨by rfl, rfl⟩) S6.out ?_
                            try simp only [List.getElem_toArray, List.getElem_cons_succ, List.getElem_cons_zero, Act.put, List.setIfInBounds_toArray, List.set_cons_succ, List.set_cons_zero]
                            refine wpAnyH_take (i := 19) (v := undef) rfl (by kernel_rfl) (by kernel_rfl) (by kernel_rfl) (fun _ _ _ h => h) (Or.inr ⟨by rfl, rfl⟩) S6.out ?_
                            try simp only [List.getElem_toArray, List.getElem_cons_succ, List.getElem_cons_zero, Act.put, List.setIfInBounds_toArray, List.set_cons_succ, List.set_cons_zero]
                            refine wpAnyH_take (i := 20) (v := undef) rfl (by kernel_rfl) (by kernel_rfl) (by kernel_rfl) (fun _ _ _ h => h) (Or.inr ⟨by rfl, rfl⟩) S6.out ?_
                            try simp only [List.getElem_toArray, List.getElem_cons_succ, List.getElem_cons_zero, Act.put, List.setIfInBounds_toArray, List.set_cons_succ, List.set_cons_zero]
                            refine wpAnyH_take (i := 21) (v := undef) rfl (by kernel_rfl) (by kernel_rfl) (by kernel_rfl) (fun _ _ _ h => h) (Or.inr ⟨by rfl, rfl⟩) S6.out ?_
                            try simp only [List.getElem_toArray, List.getElem_cons_succ, List.getElem_cons_zero, Act.put, List.setIfInBounds_toArray, List.set_cons_succ, List.set_cons_zero]
                            refine wpAnyH_take (i := 22) (v := undef) rfl (by kernel_rfl) (by kernel_rfl) (by kernel_rfl) (fun _ _ _ h => h) (Or.inr ⟨by rfl, rfl⟩) S6.out ?_
                            try simp only [List.getElem_toArray, List.getElem_cons_succ, List.getElem_cons_zero, Act.put, List.setIfInBounds_toArray, List.set_cons_succ, List.set_cons_zero]
                            refine wpAnyH_take (i := 23) (v := undef) rfl (by kernel_rfl) (by kernel_rfl) (by kernel_rfl) (fun _ _ _ h => h) (Or.inr ⟨by rfl, rfl⟩) S6.out ?_
                            try simp only [List.getElem_toArray, List.getElem_cons_succ, List.getElem_cons_zero, Act.put, List.setIfInBounds_toArray, List.set_cons_succ, List.set_cons_zero]
                            refine wpAnyH_take (i := 24) (v := .bool false) rfl (by kernel_rfl) (by kernel_rfl) (by kernel_rfl) (fun _ _ _ h => h) (Or.inl ⟨by rfl, by intro w9 hS; go_simp⟩) S6.out ?_
                            try simp only [List.getElem_toArray, List.getElem_cons_succ, List.getElem_cons_zero, Act.put, List.setIfInBounds_toArray, List.set_cons_succ, List.set_cons_zero]
                            refine wpAnyH_take (i := 25) (v := .bool false) rfl (by kernel_rfl) (by kernel_rfl) (by kernel_rfl) (fun _ _ _ h => h) (Or.inl ⟨by rfl, by intro w9 hS; go_simp⟩) S6.out ?_
                            try simp only [List.getElem_toArray, List.getElem_cons_succ, List.getElem_cons_zero, Act.put, List.setIfInBounds_toArray, List.set_cons_succ, List.set_cons_zero]
                            refine wpAnyH_done (by kernel_rfl) ?_ _
                            go_wp2
                            go_roundw
                            case rel =>
                              refine ⟨k + 1, false, by omega, by omega, rfl, by go_num, HQ6.out.below S6.out, fun hf => ⟨(HNO.out (by trivial)).1, fun j hj => ?_⟩⟩
                              rcases Nat.lt_or_ge j k with h | h
                              · exact (HNO.out (by trivial)).2 j h
                              · obtain rfl : j = k := by omega
                                rintro ⟨h1, h2, h3⟩
                                rw [HZZ.out] at h2 h3
                                exact HNE.out h2
                            case measure => simp [intOf]; omega
                        · go_wp2_with fail
                          go_roundw
                          case rel => exact ⟨1, .inr (.inl ⟨rfl, rfl⟩), HQ6.out⟩
                          case measure => simp [intOf]
                      · have lt2 : decide ((k : Int) < 40) = false := by simp; omega
                        have lt3 : (40 : Int) ≤ (k : Int) := by omega
                        obtain rfl : is = true := by
                          cases is
                          · exfalso
                            obtain ⟨h1, h2⟩ := HNO.out rfl
                            rcases ALL.out with h | ⟨i, hi, hik, h3, h4⟩
                            · exact h1 h
                            · exact h2 i (by have := HKC.out; omega) ⟨hi, h3, h4⟩
                          · rfl
                        go_wp2_with fail
                        go_roundw
                        case rel => exact ⟨1, .inr (.inl ⟨rfl, rfl⟩), HQ6.out⟩
                        case measure => simp [intOf]
                    · have lt1 : decide ((k : Int) < (l1.length : Int)) = false := by simp; omega
                      have lt3 : (l1.length : Int) ≤ (k : Int) := by omega
                      obtain rfl : is = true := by
                        cases is
                        · exfalso
                          obtain ⟨h1, h2⟩ := HNO.out rfl
                          rcases ALL.out with h | ⟨i, hi, hik, h3, h4⟩
                          · exact h1 h
                          · exact h2 i (by omega) ⟨hi, h3, h4⟩
                        · rfl
                      go_wp2_with fail
                      go_roundw
                      case rel => exact ⟨1, .inr (.inl ⟨rfl, rfl⟩), HQ6.out⟩
                      case measure => simp [intOf]
                · go_wp2_with fail
                  refine wp_region_held (S := fun w9 => Below wr.heap.size wr w9) hmix ?_
                  change wpAnyH _ _ _ _ _ _ _ _ (World.drew wr)
                  have S4 := Lib.hid (Below.refl wr.heap.size wr).drew
                  generalize World.drew wr = w4 at S4 ⊢
                  refine wpAnyH_take (i := 0) (v := .int .i64 16) rfl (by kernel_rfl) (by kernel_rfl) (by kernel_rfl) (fun _ _ _ h => h) (Or.inl ⟨by rfl, by intro w9 hS; go_simp⟩) S4.out ?_
                  try simp only [List.getElem_toArray, List.getElem_cons_succ, List.getElem_cons_zero, Act.put, List.setIfInBounds_toArray, List.set_cons_succ, List.set_cons_zero]
                  refine wpAnyH_take (i := 1) (v := .int .i64 16) rfl (by kernel_rfl) (by kernel_rfl) (by kernel_rfl) (fun _ _ _ h => h) (Or.inl ⟨by rfl, by intro w9 hS; go_simp⟩) S4.out ?_
                  try simp only [List.getElem_toArray, List.getElem_cons_succ, List.getElem_cons_zero, Act.put, List.setIfInBounds_toArray, List.set_cons_succ, List.set_cons_zero]
                  refine wpAnyH_take (i := 2) (v := .int .i64 32) rfl (by kernel_rfl) (by kernel_rfl) (by kernel_rfl) (fun _ _ _ h => h) (Or.inl ⟨by rfl, by intro w9 hS; go_simp; try (first | rfl | decide)⟩) S4.out ?_
                  try simp only [List.getElem_toArray, List.getElem_cons_succ, List.getElem_cons_zero, Act.put, List.setIfInBounds_toArray, List.set_cons_succ, List.set_cons_zero]
                  refine wpAnyH_take (i := 3) (v := .slice (some ⟨g14, 16, none⟩) 16 48) rfl (by kernel_rfl) (by kernel_rfl) (by kernel_rfl) (fun _ _ _ h => h) (Or.inl ⟨by rfl, by intro w9 hS; go_simp; try (first | rfl | decide)⟩) S4.out ?_
                  try simp only [List.getElem_toArray, List.getElem_cons_succ, List.getElem_cons_zero, Act.put, List.setIfInBounds_toArray, List.set_cons_succ, List.set_cons_zero]
                  refine wpAnyH_take (i := 4) (v := .string ⟨(quarter rb 16).toArray⟩) rfl (by kernel_rfl) (by kernel_rfl) (by kernel_rfl) (fun _ _ _ h => h) (yieldsIf_conv rfl (.tmp 133) rfl (some ⟨g14, 16, none⟩) 48 (quarter rb 16) (quarter_len HRL.out 1 (by decide)) rfl (fun w9 hS => at_quarter (f := 0) (At.whole (HQ5.out.2.below hS HQ5.out.2.lt)) 16 (by rw [HRL.out]; decide))) S4.out ?_
                  try simp only [List.getElem_toArray, List.getElem_cons_succ, List.getElem_cons_zero, Act.put, List.setIfInBounds_toArray, List.set_cons_succ, List.set_cons_zero]
                  refine wpAnyH_take (i := 5) (v := .int .i64 (n : Int)) rfl (by kernel_rfl) (by kernel_rfl) (by kernel_rfl) (fun _ _ _ h => h) (Or.inl ⟨by rfl, by intro w9 hS; go_simp⟩) S4.out ?_
                  try simp only [List.getElem_toArray, List.getElem_cons_succ, List.getElem_cons_zero, Act.put, List.setIfInBounds_toArray, List.set_cons_succ, List.set_cons_zero]
                  refine wpAnyH_take (i := 6) (v := .pointer (some ⟨gl, n * 64, none⟩)) rfl (by kernel_rfl) (by kernel_rfl) (by kernel_rfl) (fun _ _ _ h => h) (Or.inl ⟨by rfl, by intro w9 hS; go_simp; try (first | rfl | decide)⟩) S4.out ?_
                  try simp only [List.getElem_toArray, List.getElem_cons_succ, List.getElem_cons_zero, Act.put, List.setIfInBounds_toArray, List.set_cons_succ, List.set_cons_zero]
                  refine wpAnyH_take (i := 7) (v := .int .i64 16) rfl (by kernel_rfl) (by kernel_rfl) (by kernel_rfl) (fun _ _ _ h => h) (Or.inl ⟨by rfl, by intro w9 hS; go_simp⟩) S4.out ?_
                  try simp only [List.getElem_toArray, List.getElem_cons_succ, List.getElem_cons_zero, Act.put, List.setIfInBounds_toArray, List.set_cons_succ, List.set_cons_zero]
                  refine wpAnyH_take (i := 8) (v := .int .i64 16) rfl (by kernel_rfl) (by kernel_rfl) (by kernel_rfl) (fun _ _ _ h => h) (Or.inl ⟨by rfl, by intro w9 hS; go_simp⟩) S4.out ?_
                  try simp only [List.getElem_toArray, List.getElem_cons_succ, List.getElem_cons_zero, Act.put, List.setIfInBounds_toArray, List.set_cons_succ, List.set_cons_zero]
                  refine wpAnyH_take (i := 9) (v := .int .i64 32) rfl (by kernel_rfl) (by kernel_rfl) (by kernel_rfl) (fun _ _ _ h => h) (Or.inl ⟨by rfl, by intro w9 hS; go_simp; try (first | rfl | decide)⟩) S4.out ?_
                  try simp only [List.getElem_toArray, List.getElem_cons_succ, List.getElem_cons_zero, Act.put, List.setIfInBounds_toArray, List.set_cons_succ, List.set_cons_zero]
                  refine wpAnyH_take (i := 10) (v := .slice (some ⟨gl, n * 64 + 16, none⟩) 16 48) rfl (by kernel_rfl) (by kernel_rfl) (by kernel_rfl) (fun _ _ _ h => h) (Or.inl ⟨by rfl, by intro w9 hS; go_simp; try (first | rfl | decide)⟩) S4.out ?_
                  try simp only [List.getElem_toArray, List.getElem_cons_succ, List.getElem_cons_zero, Act.put, List.setIfInBounds_toArray, List.set_cons_succ, List.set_cons_zero]
                  refine wpAnyH_take (i := 11) (v := .string ⟨(quarter (tell L (n : Int)) 16).toArray⟩) rfl (by kernel_rfl) (by kernel_rfl) (by kernel_rfl) (fun _ _ _ h => h) (yieldsIf_conv rfl (.tmp 140) rfl (some ⟨gl, n * 64 + 16, none⟩) 48 (quarter (tell L (n : Int)) 16) (quarter_len (lok_tell QL.out _) 1 (by decide)) rfl (fun w9 hS => at_quarter (laid_at (HQ5.out.below hS) n hn64) 16 (by rw [lok_tell QL.out]; decide))) S4.out ?_
                  try simp only [List.getElem_toArray, List.getElem_cons_succ, List.getElem_cons_zero, Act.put, List.setIfInBounds_toArray, List.set_cons_succ, List.set_cons_zero]
                  refine wpAnyH_take (i := 12) (v := .bool (quarter rb 16 == quarter (tell L (n : Int)) 16)) rfl (by kernel_rfl) (by kernel_rfl) (by kernel_rfl) (fun _ _ _ h => h) (Or.inl ⟨by rfl, by intro w9 hS; go_simp; try (first | rfl | decide)⟩) S4.out ?_
                  try simp only [List.getElem_toArray, List.getElem_cons_succ, List.getElem_cons_zero, Act.put, List.setIfInBounds_toArray, List.set_cons_succ, List.set_cons_zero]
                  refine wpAnyH_take (i := 13) (v := .bool (quarter rb 16 == quarter (tell L (n : Int)) 16)) rfl (by kernel_rfl) (by kernel_rfl) (by kernel_rfl) (fun _ _ _ h => h) (Or.inl ⟨by rfl, by intro w9 hS; go_simp; try (first | rfl | decide)⟩) S4.out ?_
                  try simp only [List.getElem_toArray, List.getElem_cons_succ, List.getElem_cons_zero, Act.put, List.setIfInBounds_toArray, List.set_cons_succ, List.set_cons_zero]
                  refine wpAnyH_done (by kernel_rfl) ?_ _
                  have HQ5b := Lib.hid (HQ5.out.below S4.out)
                  have ALL := Lib.hid (quarters_all l1 kc l2 L QL.out OK1.out (n : Int) 1 (by decide))
                  rw [HRB.out] at ALL
                  go_wp2_with fail
                  go_loopw [19, 20] (fun v i wr => ∃ (k : Nat) (is : Bool), k ≤ l1.length ∧ k ≤ 40 ∧ v = .bool is ∧ i = .int .i64 k ∧ Q5 w d gl g14 L S rb wr ∧ (is = false → quarter rb 16 ≠ quarter (tell L (n : Int)) 16 ∧ ∀ j, j < k → ¬ Hit l1 n rb 16 j)) (fun _ i _ => 40 - (intOf i).toNat)
                  case atStart => exact ⟨0, _, Nat.zero_le _, Nat.zero_le _, rfl, rfl, HQ5b.out, fun hf => ⟨by simpa using hf, fun j hj => by cases hj⟩⟩
                  case round =>
                    obtain ⟨k, is, hk, hk40, rfl, rfl, hq6, hno⟩ := hrel
                    have HQ6 := Lib.hid hq6
                    have HNO := Lib.hid hno
                    clear hq6 hno
                    have hk0 : (0 : Int) ≤ (k : Int) := by omega
                    have hk1 : (k : Int) ≤ 40 := by omega
                    by_cases hlt : k < l1.length
                    · have lt1 : (k : Int) < (l1.length : Int) := by omega
                      by_cases hlt2 : k < 40
                      · have lt2 : (k : Int) < 40 := by omega
                        cases is
                        · obtain ⟨lb, lf, hA, hcn, hcb⟩ := deeds_at RD1.out k hlt
                          have hz := Lib.hid (OK1.out _ (List.getElem_mem hlt))
                          obtain ⟨z, hzz⟩ : ∃ z, l1[k] = z := ⟨_, rfl⟩
                          have HZZ := Lib.hid hzz
                          rw [hzz] at hz hcn hcb
                          have CN := Lib.hid hcn
                          have CB := Lib.hid hcb
                          clear hcn hcb hzz
                          subst hA
                          by_cases hne : z.n % 64 = (n : Int)
                          · have HE := Lib.hid (show ((z.n % 64 : Int) == (n : Int)) = true by simpa using hne)
                            clear hne
                            go_wp2_with fail
                            refine wp_region_held (S := fun w9 => Below wr.heap.size wr w9) hmix ?_
                            change wpAnyH _ _ _ _ _ _ _ _ (World.drew wr)
                            have S6 := Lib.hid (Below.refl wr.heap.size wr).drew
                            generalize World.drew wr = w6 at S6 ⊢
                            refine wpAnyH_take (i := 0) (v := .slice (some ⟨lb, lf, none⟩) l1.length c1) rfl (by kernel_rfl) (by kernel_rfl) (by kernel_rfl) (fun _ _ _ h => h) (Or.inl ⟨by rfl, by intro w9 hS; go_simp⟩) S6.out ?_
                            try simp only [List.getElem_toArray, List.getElem_cons_succ, List.getElem_cons_zero, Act.put, List.setIfInBounds_toArray, List.set_cons_succ, List.set_cons_zero]
                            refine wpAnyH_take (i := 1) (v := .int .i64 (k : Int)) rfl (by kernel_rfl) (by kernel_rfl) (by kernel_rfl) (fun _ _ _ h => h) (Or.inl ⟨by rfl, by intro w9 hS; go_simp⟩) S6.out ?_
                            try simp only [List.getElem_toArray, List.getElem_cons_succ, List.getElem_cons_zero, Act.put, List.setIfInBounds_toArray, List.set_cons_succ, List.set_cons_zero]
                            refine wpAnyH_take (i := 2) (v := .pointer (some ⟨lb, lf + k * 67, none⟩)) rfl (by kernel_rfl) (by kernel_rfl) (by kernel_rfl) (fun _ _ _ h => h) (Or.inl ⟨by rfl, by intro w9 hS; go_simp⟩) S6.out ?_
                            try simp only [List.getElem_toArray, List.getElem_cons_succ, List.getElem_cons_zero, Act.put, List.setIfInBounds_toArray, List.set_cons_succ, List.set_cons_zero]
                            refine wpAnyH_take (i := 3) (v := .pointer (some ⟨lb, lf + k * 67 + 1, none⟩)) rfl (by kernel_rfl) (by kernel_rfl) (by kernel_rfl) (fun _ _ _ h => h) (Or.inl ⟨by rfl, by intro w9 hS; go_simp⟩) S6.out ?_
                            try simp only [List.getElem_toArray, List.getElem_cons_succ, List.getElem_cons_zero, Act.put, List.setIfInBounds_toArray, List.set_cons_succ, List.set_cons_zero]
                            refine wpAnyH_take (i := 4) (v := .int .i64 z.n) rfl (by kernel_rfl) (by kernel_rfl) (by kernel_rfl) (fun _ _ _ h => h) (Or.inl ⟨by rfl, by intro w9 hS; have cc := CN.out w9 (HQ6.out.1.2.1.trans (hS.mono HQ6.out.1.2.1.size)); go_simp⟩) S6.out ?_
                            try simp only [List.getElem_toArray, List.getElem_cons_succ, List.getElem_cons_zero, Act.put, List.setIfInBounds_toArray, List.set_cons_succ, List.set_cons_zero]
                            refine wpAnyH_take (i := 5) (v := .int .i64 (z.n % 64)) rfl (by kernel_rfl) (by kernel_rfl) (by kernel_rfl) (fun _ _ _ h => h) (Or.inl ⟨by rfl, by intro w9 hS; have cc := i64_and63 z.n; go_simp⟩) S6.out ?_
                            try simp only [List.getElem_toArray, List.getElem_cons_succ, List.getElem_cons_zero, Act.put, List.setIfInBounds_toArray, List.set_cons_succ, List.set_cons_zero]
                            refine wpAnyH_take (i := 6) (v := .int .i64 (n : Int)) rfl (by kernel_rfl) (by kernel_rfl) (by kernel_rfl) (fun _ _ _ h => h) (Or.inl ⟨by rfl, by intro w9 hS; go_simp⟩) S6.out ?_
                            try simp only [List.getElem_toArray, List.getElem_cons_succ, List.getElem_cons_zero, Act.put, List.setIfInBounds_toArray, List.set_cons_succ, List.set_cons_zero]
                            refine wpAnyH_take (i := 7) (v := .bool true) rfl (by kernel_rfl) (by kernel_rfl) (by kernel_rfl) (fun _ _ _ h => h) (Or.inl ⟨by rfl, by intro w9 hS; have cc := HE.out; go_simp⟩) S6.out ?_
                            try simp only [List.getElem_toArray, List.getElem_cons_succ, List.getElem_cons_zero, Act.put, List.setIfInBounds_toArray, List.set_cons_succ, List.set_cons_zero]
                            refine wpAnyH_take (i := 8) (v := .bool true) rfl (by kernel_rfl) (by kernel_rfl) (by kernel_rfl) (fun _ _ _ h => h) (Or.inl ⟨by rfl, by intro w9 hS; go_simp⟩) S6.out ?_
                            try simp only [List.getElem_toArray, List.getElem_cons_succ, List.getElem_cons_zero, Act.put, List.setIfInBounds_toArray, List.set_cons_succ, List.set_cons_zero]
                            refine wpAnyH_take (i := 9) (v := .int .i64 16) rfl (by kernel_rfl) (by kernel_rfl) (by kernel_rfl) (fun _ _ _ h => h) (Or.inl ⟨by rfl, by intro w9 hS; go_simp⟩) S6.out ?_
                            try simp only [List.getElem_toArray, List.getElem_cons_succ, List.getElem_cons_zero, Act.put, List.setIfInBounds_toArray, List.set_cons_succ, List.set_cons_zero]
                            refine wpAnyH_take (i := 10) (v := .int .i64 16) rfl (by kernel_rfl) (by kernel_rfl) (by kernel_rfl) (fun _ _ _ h => h) (Or.inl ⟨by rfl, by intro w9 hS; go_simp⟩) S6.out ?_
                            try simp only [List.getElem_toArray, List.getElem_cons_succ, List.getElem_cons_zero, Act.put, List.setIfInBounds_toArray, List.set_cons_succ, List.set_cons_zero]
                            refine wpAnyH_take (i := 11) (v := .int .i64 32) rfl (by kernel_rfl) (by kernel_rfl) (by kernel_rfl) (fun _ _ _ h => h) (Or.inl ⟨by rfl, by intro w9 hS; go_simp; try (first | rfl | decide)⟩) S6.out ?_
                            try simp only [List.getElem_toArray, List.getElem_cons_succ, List.getElem_cons_zero, Act.put, List.setIfInBounds_toArray, List.set_cons_succ, List.set_cons_zero]
                            refine wpAnyH_take (i := 12) (v := .slice (some ⟨g14, 16, none⟩) 16 48) rfl (by kernel_rfl) (by kernel_rfl) (by kernel_rfl) (fun _ _ _ h => h) (Or.inl ⟨by rfl, by intro w9 hS; go_simp; try (first | rfl | decide)⟩) S6.out ?_
                            try simp only [List.getElem_toArray, List.getElem_cons_succ, List.getElem_cons_zero, Act.put, List.setIfInBounds_toArray, List.set_cons_succ, List.set_cons_zero]
                            refine wpAnyH_take (i := 13) (v := .string ⟨(quarter rb 16).toArray⟩) rfl (by kernel_rfl) (by kernel_rfl) (by kernel_rfl) (fun _ _ _ h => h) (yieldsIf_conv rfl (.tmp 169) rfl (some ⟨g14, 16, none⟩) 48 (quarter rb 16) (quarter_len HRL.out 1 (by decide)) rfl (fun w9 hS => at_quarter (f := 0) (At.whole (HQ6.out.2.below hS HQ6.out.2.lt)) 16 (by rw [HRL.out]; decide))) S6.out ?_
                            try simp only [List.getElem_toArray, List.getElem_cons_succ, List.getElem_cons_zero, Act.put, List.setIfInBounds_toArray, List.set_cons_succ, List.set_cons_zero]
                            refine wpAnyH_take (i := 14) (v := .slice (some ⟨lb, lf, none⟩) l1.length c1) rfl (by kernel_rfl) (by kernel_rfl) (by kernel_rfl) (fun _ _ _ h => h) (Or.inl ⟨by rfl, by intro w9 hS; go_simp⟩) S6.out ?_
                            try simp only [List.getElem_toArray, List.getElem_cons_succ, List.getElem_cons_zero, Act.put, List.setIfInBounds_toArray, List.set_cons_succ, List.set_cons_zero]
                            refine wpAnyH_take (i := 15) (v := .int .i64 (k : Int)) rfl (by kernel_rfl) (by kernel_rfl) (by kernel_rfl) (fun _ _ _ h => h) (Or.inl ⟨by rfl, by intro w9 hS; go_simp⟩) S6.out ?_
                            try simp only [List.getElem_toArray, List.getElem_cons_succ, List.getElem_cons_zero, Act.put, List.setIfInBounds_toArray, List.set_cons_succ, List.set_cons_zero]
                            refine wpAnyH_take (i := 16) (v := .pointer (some ⟨lb, lf + k * 67, none⟩)) rfl (by kernel_rfl) (by kernel_rfl) (by kernel_rfl) (fun _ _ _ h => h) (Or.inl ⟨by rfl, by intro w9 hS; go_simp⟩) S6.out ?_
                            try simp only [List.getElem_toArray, List.getElem_cons_succ, List.getElem_cons_zero, Act.put, List.setIfInBounds_toArray, List.set_cons_succ, List.set_cons_zero]
                            refine wpAnyH_take (i := 17) (v := .pointer (some ⟨lb, lf + k * 67 + 2, none⟩)) rfl (by kernel_rfl) (by kernel_rfl) (by kernel_rfl) (fun _ _ _ h => h) (Or.inl ⟨by rfl, by intro w9 hS; go_simp⟩) S6.out ?_
                            try simp only [List.getElem_toArray, List.getElem_cons_succ, List.getElem_cons_zero, Act.put, List.setIfInBounds_toArray, List.set_cons_succ, List.set_cons_zero]
                            refine wpAnyH_take (i := 18) (v := .int .i64 16) rfl (by kernel_rfl) (by kernel_rfl) (by kernel_rfl) (fun _ _ _ h => h) (Or.inl ⟨by rfl, by intro w9 hS; go_simp⟩) S6.out ?_
                            try simp only [List.getElem_toArray, List.getElem_cons_succ, List.getElem_cons_zero, Act.put, List.setIfInBounds_toArray, List.set_cons_succ, List.set_cons_zero]
                            refine wpAnyH_take (i := 19) (v := .int .i64 16) rfl (by kernel_rfl) (by kernel_rfl) (by kernel_rfl) (fun _ _ _ h => h) (Or.inl ⟨by rfl, by intro w9 hS; go_simp⟩) S6.out ?_
                            try simp only [List.getElem_toArray, List.getElem_cons_succ, List.getElem_cons_zero, Act.put, List.setIfInBounds_toArray, List.set_cons_succ, List.set_cons_zero]
                            refine wpAnyH_take (i := 20) (v := .int .i64 32) rfl (by kernel_rfl) (by kernel_rfl) (by kernel_rfl) (fun _ _ _ h => h) (Or.inl ⟨by rfl, by intro w9 hS; go_simp; try (first | rfl | decide)⟩) S6.out ?_
                            try simp only [List.getElem_toArray, List.getElem_cons_succ, List.getElem_cons_zero, Act.put, List.setIfInBounds_toArray, List.set_cons_succ, List.set_cons_zero]
                            refine wpAnyH_take (i := 21) (v := .slice (some ⟨lb, lf + k * 67 + 2 + 16, none⟩) 16 48) rfl (by kernel_rfl) (by kernel_rfl) (by kernel_rfl) (fun _ _ _ h => h) (Or.inl ⟨by rfl, by intro w9 hS; go_simp; try (first | rfl | decide)⟩) S6.out ?_
                            try simp only [List.getElem_toArray, List.getElem_cons_succ, List.getElem_cons_zero, Act.put, List.setIfInBounds_toArray, List.set_cons_succ, List.set_cons_zero]
                            refine wpAnyH_take (i := 22) (v := .string ⟨(quarter z.b 16).toArray⟩) rfl (by kernel_rfl) (by kernel_rfl) (by kernel_rfl) (fun _ _ _ h => h) (yieldsIf_conv rfl (.tmp 178) rfl (some ⟨lb, lf + k * 67 + 2 + 16, none⟩) 48 (quarter z.b 16) (quarter_len hz.out.1 1 (by decide)) rfl (fun w9 hS => at_quarter (CB.out w9 (HQ6.out.1.2.1.trans (hS.mono HQ6.out.1.2.1.size))) 16 (by rw [hz.out.1]; decide))) S6.out ?_
                            try simp only [List.getElem_toArray, List.getElem_cons_succ, List.getElem_cons_zero, Act.put, List.setIfInBounds_toArray, List.set_cons_succ, List.set_cons_zero]
                            refine wpAnyH_take (i := 23) (v := .bool (quarter rb 16 == quarter z.b 16)) rfl (by kernel_rfl) (by kernel_rfl) (by kernel_rfl) (fun _ _ _ h => h) (Or.inl ⟨by rfl, by intro w9 hS; go_simp; try (first | rfl | decide)⟩) S6.out ?_
                            try simp only [List.getElem_toArray, List.getElem_cons_succ, List.getElem_cons_zero, Act.put, List.setIfInBounds_toArray, List.set_cons_succ, List.set_cons_zero]
                            refine wpAnyH_take (i := 24) (v := .bool (quarter rb 16 == quarter z.b 16)) rfl (by kernel_rfl) (by kernel_rfl) (by kernel_rfl) (fun _ _ _ h => h) (Or.inl ⟨by rfl, by intro w9 hS; go_simp; try (first | rfl | decide)⟩) S6.out ?_
                            try simp only [List.getElem_toArray, List.getElem_cons_succ, List.getElem_cons_zero, Act.put, List.setIfInBounds_toArray, List.set_cons_succ, List.set_cons_zero]
                            refine wpAnyH_take (i := 25) (v := .bool (quarter rb 16 == quarter z.b 16)) rfl (by kernel_rfl) (by kernel_rfl) (by kernel_rfl) (fun _ _ _ h => h) (Or.inl ⟨by rfl, by intro w9 hS; go_simp; try (first | rfl | decide)⟩) S6.out ?_
                            try simp only [List.getElem_toArray, List.getElem_cons_succ, List.getElem_cons_zero, Act.put, List.setIfInBounds_toArray, List.set_cons_succ, List.set_cons_zero]
                            refine wpAnyH_done (by kernel_rfl) ?_ _
                            go_wp2
                            go_roundw
                            case rel =>
                              refine ⟨k + 1, (quarter rb 16 == quarter z.b 16), by omega, by omega, rfl, by go_num, HQ6.out.below S6.out, fun hf => ⟨(HNO.out (by trivial)).1, fun j hj => ?_⟩⟩
                              rcases Nat.lt_or_ge j k with h | h
                              · exact (HNO.out (by trivial)).2 j h
                              · obtain rfl : j = k := by omega
                                rintro ⟨h1, h2, h3⟩
                                rw [HZZ.out] at h2 h3
                                rw [h3] at hf
                                simp at hf
                            case measure => simp [intOf]; omega
                          · have HE := Lib.hid (show ((z.n % 64 : Int) == (n : Int)) = false by simpa using hne)
                            have HNE := Lib.hid hne
                            clear hne
                            go_wp2_with fail
                            refine wp_region_held (S := fun w9 => Below wr.heap.size wr w9) hmix ?_
                            change wpAnyH _ _ _ _ _ _ _ _ (World.drew wr)
                            have S6 := Lib.hid (Below.refl wr.heap.size wr).drew
                            generalize World.drew wr = w6 at S6 ⊢
                            refine wpAnyH_take (i := 0) (v := .slice (some ⟨lb, lf, none⟩) l1.length c1) rfl (by kernel_rfl) (by kernel_rfl) (by kernel_rfl) (fun _ _ _ h => h) (Or.inl ⟨by rfl, by intro w9 hS; go_simp⟩) S6.out ?_
                            try simp only [List.getElem_toArray, List.getElem_cons_succ, List.getElem_cons_zero, Act.put, List.setIfInBounds_toArray, List.set_cons_succ, List.set_cons_zero]
                            refine wpAnyH_take (i := 1) (v := .int .i64 (k : Int)) rfl (by kernel_rfl) (by kernel_rfl) (by kernel_rfl) (fun _ _ _ h => h) (Or.inl ⟨by rfl, by intro w9 hS; go_simp⟩) S6.out ?_
                            try simp only [List.getElem_toArray, List.getElem_cons_succ, List.getElem_cons_zero, Act.put, List.setIfInBounds_toArray, List.set_cons_succ, List.set_cons_zero]
                            refine wpAnyH_take (i := 2) (v := .pointer (some ⟨lb, lf + k * 67, none⟩)) rfl (by kernel_rfl) (by kernel_rfl) (by kernel_rfl) (fun _ _ _ h => h) (Or.inl ⟨by rfl, by intro w9 hS; go_simp⟩) S6.out ?_
                            try simp only [List.getElem_toArray, List.getElem_cons_succ, List.getElem_cons_zero, Act.put, List.setIfInBounds_toArray, List.set_cons_succ, List.set_cons_zero]
                            refine wpAnyH_take (i := 3) (v := .pointer (some ⟨lb, lf + k * 67 + 1, none⟩)) rfl (by kernel_rfl) (by kernel_rfl) (by kernel_rfl) (fun _ _ _ h => h) (Or.inl ⟨by rfl, by intro w9 hS; go_simp⟩) S6.out ?_
                            try simp only [List.getElem_toArray, List.getElem_cons_succ, List.getElem_cons_zero, Act.put, List.setIfInBounds_toArray, List.set_cons_succ, List.set_cons_zero]
                            refine wpAnyH_take (i := 4) (v := .int .i64 z.n) rfl (by kernel_rfl) (by kernel_rfl) (by kernel_rfl) (fun _ _ _ h => h) (Or.inl ⟨by rfl, by intro w9 hS; have cc := CN.out w9 (HQ6.out.1.2.1.trans (hS.mono HQ6.out.1.2.1.size)); go_simp⟩) S6.out ?_
                            try simp only [List.getElem_toArray, List.getElem_cons_succ, List.getElem_cons_zero, Act.put, List.setIfInBounds_toArray, List.set_cons_succ, List.set_cons_zero]
                            refine wpAnyH_take (i := 5) (v := .int .i64 (z.n % 64)) rfl (by kernel_rfl) (by kernel_rfl) (by kernel_rfl) (fun _ _ _ h => h) (Or.inl ⟨by rfl, by intro w9 hS; have cc := i64_and63 z.n; go_simp⟩) S6.out ?_
                            try simp only [List.getElem_toArray, List.getElem_cons_succ, List.getElem_cons_zero, Act.put, List.setIfInBounds_toArray, List.set_cons_succ, List.set_cons_zero]
                            refine wpAnyH_take (i := 6) (v := .int .i64 (n : Int)) rfl (by kernel_rfl) (by kernel_rfl) (by kernel_rfl) (fun _ _ _ h => h) (Or.inl ⟨by rfl, by intro w9 hS; go_simp⟩) S6.out ?_
                            try simp only [List.getElem_toArray, List.getElem_cons_succ, List.getElem_cons_zero, Act.put, List.setIfInBounds_toArray, List.set_cons_succ, List.set_cons_zero]
                            refine wpAnyH_take (i := 7) (v := .bool false) rfl (by kernel_rfl) (by kernel_rfl) (by kernel_rfl) (fun _ _ _ h => h) (Or.inl ⟨by rfl, by intro w9 hS; have cc := HE.out; go_simp⟩) S6.out ?_
                            try simp only [List.getElem_toArray, List.getElem_cons_succ, List.getElem_cons_zero, Act.put, List.setIfInBounds_toArray, List.set_cons_succ, List.set_cons_zero]
                            refine wpAnyH_take (i := 8) (v := .bool false) rfl (by kernel_rfl) (by kernel_rfl) (by kernel_rfl) (fun _ _ _ h => h) (Or.inl ⟨by rfl, by intro w9 hS; go_simp⟩) S6.out ?_
                            try simp only [List.getElem_toArray, List.getElem_cons_succ, List.getElem_cons_zero, Act.put, List.setIfInBounds_toArray, List.set_cons_succ, List.set_cons_zero]
                            refine wpAnyH_take (i := 9) (v := undef) rfl (by kernel_rfl) (by kernel_rfl) (by kernel_rfl) (fun _ _ _ h => h) (Or.inr ⟨by rfl, rfl⟩) S6.out ?_
                            try simp only [List.getElem_toArray, List.getElem_cons_succ, List.getElem_cons_zero, Act.put, List.setIfInBounds_toArray, List.set_cons_succ, List.set_cons_zero]
                            refine wpAnyH_take (i := 10) (v := undef) rfl (by kernel_rfl) (by kernel_rfl) (by kernel_rfl) (fun _ _ _ h => h) (Or.inr ⟨by rfl, rfl⟩) S6.out ?_
                            try simp only [List.getElem_toArray, List.getElem_cons_succ, List.getElem_cons_zero, Act.put, List.setIfInBounds_toArray, List.set_cons_succ, List.set_cons_zero]
                            refine wpAnyH_take (i := 11) (v := undef) rfl (by kernel_rfl) (by kernel_rfl) (by kernel_rfl) (fun _ _ _ h => h) (Or.inr ⟨by rfl, rfl⟩) S6.out ?_
                            try simp only [List.getElem_toArray, List.getElem_cons_succ, List.getElem_cons_zero, Act.put, List.setIfInBounds_toArray, List.set_cons_succ, List.set_cons_zero]
                            refine wpAnyH_take (i := 12) (v := undef) rfl (by kernel_rfl) (by kernel_rfl) (by kernel_rfl) (fun _ _ _ h => h) (Or.inr ⟨by rfl, rfl⟩) S6.out ?_
                            try simp only [List.getElem_toArray, List.getElem_cons_succ, List.getElem_cons_zero, Act.put, List.setIfInBounds_toArray, List.set_cons_succ, List.set_cons_zero]
                            refine wpAnyH_take (i := 13) (v := undef) rfl (by kernel_rfl) (by kernel_rfl) (by kernel_rfl) (fun _ _ _ h => h) (Or.inr ⟨by rfl, rfl⟩) S6.out ?_
                            try simp only [List.getElem_toArray, List.getElem_cons_succ, List.getElem_cons_zero, Act.put, List.setIfInBounds_toArray, List.set_cons_succ, List.set_cons_zero]
                            refine wpAnyH_take (i := 14) (v := undef) rfl (by kernel_rfl) (by kernel_rfl) (by kernel_rfl) (fun _ _ _ h => h) (Or.inr ⟨by rfl, rfl⟩) S6.out ?_
                            try simp only [List.getElem_toArray, List.getElem_cons_succ, List.getElem_cons_zero, Act.put, List.setIfInBounds_toArray, List.set_cons_succ, List.set_cons_zero]
                            refine wpAnyH_take (i := 15) (v := undef) rfl (by kernel_rfl) (by kernel_rfl) (by kernel_rfl) (fun _ _ _ h => h) (Or.inr ⟨by rfl, rfl⟩) S6.out ?_
                            try simp only [List.getElem_toArray, List.getElem_cons_succ, List.getElem_cons_zero, Act.put, List.setIfInBounds_toArray, List.set_cons_succ, List.set_cons_zero]
                            refine wpAnyH_take (i := 16) (v := undef) rfl (by kernel_rfl) (by kernel_rfl) (by kernel_rfl) (fun _ _ _ h => h) (Or.inr ⟨by rfl, rfl⟩) S6.out ?_
                            try simp only [List.getElem_toArray, List.getElem_cons_succ, List.getElem_cons_zero, Act.put, List.setIfInBounds_toArray, List.set_cons_succ, List.set_cons_zero]
                            refine wpAnyH_take (i := 17) (v := undef) rfl (by kernel_rfl) (by kernel_rfl) (by kernel_rfl) (fun _ _ _ h => h) (Or.inr ⟨by rfl, rfl⟩) S6.out ?_
                            try simp only [List.getElem_toArray, List.getElem_cons_succ, List.getElem_cons_zero, Act.put, List.setIfInBounds_toArray, List.set_cons_succ, List.set_cons_zero]
                            refine wpAnyH_take (i := 18) (v := undef) rfl (by kernel_rfl) (by kernel_rfl) (by kernel_rfl) (fun _ _ _ h => h) (Or.inr ⟨by rfl, rfl⟩) S6.out ?_
                            try simp only [List.getElem_toArray, List.getElem_cons_succ, List.getElem_cons_zero, Act.put, List.setIfInBounds_toArray, List.set_cons_succ, List.set_cons_zero]
                            refine wpAnyH_take (i := 19) (v := undef) rfl (by kernel_rfl) (by kernel_rfl) (by kernel_rfl) (fun _ _ _ h => h) (Or.inr ⟨by rfl, rfl⟩) S6.out ?_
                            try simp only [List.getElem_toArray, List.getElem_cons_succ, List.getElem_cons_zero, Act.put, List.setIfInBounds_toArray, List.set_cons_succ, List.set_cons_zero]
                            refine wpAnyH_take (i := 20) (v := undef) rfl (by kernel_rfl) (by kernel_rfl) (by kernel_rfl) (fun _ _ _ h => h) (Or.inr ⟨by rfl, rfl⟩) S6.out ?_
                            try simp only [List.getElem_toArray, List.getElem_cons_succ, List.getElem_cons_zero, Act.put, List.setIfInBounds_toArray, List.set_cons_succ, List.set_cons_zero]
                            refine wpAnyH_take (i := 21) (v := undef) rfl (by kernel_rfl) (by kernel_rfl) (by kernel_rfl) (fun _ _ _ h => h) (Or.inr ⟨by rfl, rfl⟩) S6.out ?_
                            try simp only [List.getElem_toArray, List.getElem_cons_succ, List.getElem_cons_zero, Act.put, List.setIfInBounds_toArray, List.set_cons_succ, List.set_cons_zero]
                            refine wpAnyH_take (i := 22) (v := undef) rfl (by kernel_rfl) (by kernel_rfl) (by kernel_rfl) (fun _ _ _ h => h) (Or.inr ⟨by rfl, rfl⟩) S6.out ?_
                            try simp only [List.getElem_toArray, List.getElem_cons_succ, List.getElem_cons_zero, Act.put, List.setIfInBounds_toArray, List.set_cons_succ, List.set_cons_zero]
                            refine wpAnyH_take (i := 23) (v := undef) rfl (by kernel_rfl) (by kernel_rfl) (by kernel_rfl) (fun _ _ _ h => h) (Or.inr ⟨by rfl, rfl⟩) S6.out ?_
                            try simp only [List.getElem_toArray, List.getElem_cons_succ, List.getElem_cons_zero, Act.put, List.setIfInBounds_toArray, List.set_cons_succ, List.set_cons_zero]
                            refine wpAnyH_take (i := 24) (v := .bool false) rfl (by kernel_rfl) (by kernel_rfl) (by kernel_rfl) (fun _ _ _ h => h) (Or.inl ⟨by rfl, by intro w9 hS; go_simp⟩) S6.out ?_
                            try simp only [List.getElem_toArray, List.getElem_cons_succ, List.getElem_cons_zero, Act.put, List.setIfInBounds_toArray, List.set_cons_succ, List.set_cons_zero]
                            refine wpAnyH_take (i := 25) (v := .bool false) rfl (by kernel_rfl) (by kernel_rfl) (by kernel_rfl) (fun _ _ _ h => h) (Or.inl ⟨by rfl, by intro w9 hS; go_simp⟩) S6.out ?_
                            try simp only [List.getElem_toArray, List.getElem_cons_succ, List.getElem_cons_zero, Act.put, List.setIfInBounds_toArray, List.set_cons_succ, List.set_cons_zero]
                            refine wpAnyH_done (by kernel_rfl) ?_ _
                            go_wp2
                            go_roundw
                            case rel =>
                              refine ⟨k + 1, false, by omega, by omega, rfl, by go_num, HQ6.out.below S6.out, fun hf => ⟨(HNO.out (by trivial)).1, fun j hj => ?_⟩⟩
                              rcases Nat.lt_or_ge j k with h | h
                              · exact (HNO.out (by trivial)).2 j h
                              · obtain rfl : j = k := by omega
                                rintro ⟨h1, h2, h3⟩
                                rw [HZZ.out] at h2 h3
                                exact HNE.out h2
                            case measure => simp [intOf]; omega
                        · go_wp2_with fail
                          go_roundw
                          case rel => exact ⟨2, .inr (.inr (.inl ⟨rfl, rfl⟩)), HQ6.out⟩
                          case measure => simp [intOf]
                      · have lt2 : decide ((k : Int) < 40) = false := by simp; omega
                        have lt3 : (40 : Int) ≤ (k : Int) := by omega
                        obtain rfl : is = true := by
                          cases is
                          · exfalso
                            obtain ⟨h1, h2⟩ := HNO.out rfl
                            rcases ALL.out with h | ⟨i, hi, hik, h3, h4⟩
                            · exact h1 h
                            · exact h2 i (by have := HKC.out; omega) ⟨hi, h3, h4⟩
                          · rfl
                        go_wp2_with fail
                        go_roundw
                        case rel => exact ⟨2, .inr (.inr (.inl ⟨rfl, rfl⟩)), HQ6.out⟩
                        case measure => simp [intOf]
                    · have lt1 : decide ((k : Int) < (l1.length : Int)) = false := by simp; omega
                      have lt3 : (l1.length : Int) ≤ (k : Int) := by omega
                      obtain rfl : is = true := by
                        cases is
                        · exfalso
                          obtain ⟨h1, h2⟩ := HNO.out rfl
                          rcases ALL.out with h | ⟨i, hi, hik, h3, h4⟩
                          · exact h1 h
                          · exact h2 i (by omega) ⟨hi, h3, h4⟩
                        · rfl
                      go_wp2_with fail
                      go_roundw
                      case rel => exact ⟨2, .inr (.inr (.inl ⟨rfl, rfl⟩)), HQ6.out⟩
                      case measure => simp [intOf]
                · go_wp2_with fail
                  refine wp_region_held (S := fun w9 => Below wr.heap.size wr w9) hmix ?_
                  change wpAnyH _ _ _ _ _ _ _ _ (World.drew wr)
                  have S4 := Lib.hid (Below.refl wr.heap.size wr).drew
                  generalize World.drew wr = w4 at S4 ⊢
                  refine wpAnyH_take (i := 0) (v := .int .i64 32) rfl (by kernel_rfl) (by kernel_rfl) (by kernel_rfl) (fun _ _ _ h => h) (Or.inl ⟨by rfl, by intro w9 hS; go_simp⟩) S4.out ?_
                  try simp only [List.getElem_toArray, List.getElem_cons_succ, List.getElem_cons_zero, Act.put, List.setIfInBounds_toArray, List.set_cons_succ, List.set_cons_zero]
                  refine wpAnyH_take (i := 1) (v := .int .i64 32) rfl (by kernel_rfl) (by kernel_rfl) (by kernel_rfl) (fun _ _ _ h => h) (Or.inl ⟨by rfl, by intro w9 hS; go_simp⟩) S4.out ?_
                  try simp only [List.getElem_toArray, List.getElem_cons_succ, List.getElem_cons_zero, Act.put, List.setIfInBounds_toArray, List.set_cons_succ, List.set_cons_zero]
                  refine wpAnyH_take (i := 2) (v := .int .i64 48) rfl (by kernel_rfl) (by kernel_rfl) (by kernel_rfl) (fun _ _ _ h => h) (Or.inl ⟨by rfl, by intro w9 hS; go_simp; try (first | rfl | decide)⟩) S4.out ?_
                  try simp only [List.getElem_toArray, List.getElem_cons_succ, List.getElem_cons_zero, Act.put, List.setIfInBounds_toArray, List.set_cons_succ, List.set_cons_zero]
                  refine wpAnyH_take (i := 3) (v := .slice (some ⟨g14, 32, none⟩) 16 32) rfl (by kernel_rfl) (by kernel_rfl) (by kernel_rfl) (fun _ _ _ h => h) (Or.inl ⟨by rfl, by intro w9 hS; go_simp; try (first | rfl | decide)⟩) S4.out ?_
                  try simp only [List.getElem_toArray, List.getElem_cons_succ, List.getElem_cons_zero, Act.put, List.setIfInBounds_toArray, List.set_cons_succ, List.set_cons_zero]
                  refine wpAnyH_take (i := 4) (v := .string ⟨(quarter rb 32).toArray⟩) rfl (by kernel_rfl) (by kernel_rfl) (by kernel_rfl) (fun _ _ _ h => h) (yieldsIf_conv rfl (.tmp 133) rfl (some ⟨g14, 32, none⟩) 32 (quarter rb 32) (quarter_len HRL.out 2 (by decide)) rfl (fun w9 hS => at_quarter (f := 0) (At.whole (HQ5.out.2.below hS HQ5.out.2.lt)) 32 (by rw [HRL.out]; decide))) S4.out ?_
                  try simp only [List.getElem_toArray, List.getElem_cons_succ, List.getElem_cons_zero, Act.put, List.setIfInBounds_toArray, List.set_cons_succ, List.set_cons_zero]
                  refine wpAnyH_take (i := 5) (v := .int .i64 (n : Int)) rfl (by kernel_rfl) (by kernel_rfl) (by kernel_rfl) (fun _ _ _ h => h) (Or.inl ⟨by rfl, by intro w9 hS; go_simp⟩) S4.out ?_
                  try simp only [List.getElem_toArray, List.getElem_cons_succ, List.getElem_cons_zero, Act.put, List.setIfInBounds_toArray, List.set_cons_succ, List.set_cons_zero]
                  refine wpAnyH_take (i := 6) (v := .pointer (some ⟨gl, n * 64, none⟩)) rfl (by kernel_rfl) (by kernel_rfl) (by kernel_rfl) (fun _ _ _ h => h) (Or.inl ⟨by rfl, by intro w9 hS; go_simp; try (first | rfl | decide)⟩) S4.out ?_
                  try simp only [List.getElem_toArray, List.getElem_cons_succ, List.getElem_cons_zero, Act.put, List.setIfInBounds_toArray, List.set_cons_succ, List.set_cons_zero]
                  refine wpAnyH_take (i := 7) (v := .int .i64 32) rfl (by kernel_rfl) (by kernel_rfl) (by kernel_rfl) (fun _ _ _ h => h) (Or.inl ⟨by rfl, by intro w9 hS; go_simp⟩) S4.out ?_
                  try simp only [List.getElem_toArray, List.getElem_cons_succ, List.getElem_cons_zero, Act.put, List.setIfInBounds_toArray, List.set_cons_succ, List.set_cons_zero]
                  refine wpAnyH_take (i := 8) (v := .int .i64 32) rfl (by kernel_rfl) (by kernel_rfl) (by kernel_rfl) (fun _ _ _ h => h) (Or.inl ⟨by rfl, by intro w9 hS; go_simp⟩) S4.out ?_
                  try simp only [List.getElem_toArray, List.getElem_cons_succ, List.getElem_cons_zero, Act.put, List.setIfInBounds_toArray, List.set_cons_succ, List.set_cons_zero]
                  refine wpAnyH_take (i := 9) (v := .int .i64 48) rfl (by kernel_rfl) (by kernel_rfl) (by kernel_rfl) (fun _ _ _ h => h) (Or.inl ⟨by rfl, by intro w9 hS; go_simp; try (first | rfl | decide)⟩) S4.out ?_
                  try simp only [List.getElem_toArray, List.getElem_cons_succ, List.getElem_cons_zero, Act.put, List.setIfInBounds_toArray, List.set_cons_succ, List.set_cons_zero]
                  refine wpAnyH_take (i := 10) (v := .slice (some ⟨gl, n * 64 + 32, none⟩) 16 32) rfl (by kernel_rfl) (by kernel_rfl) (by kernel_rfl) (fun _ _ _ h => h) (Or.inl ⟨by rfl, by intro w9 hS; go_simp; try (first | rfl | decide)⟩) S4.out ?_
                  try simp only [List.getElem_toArray, List.getElem_cons_succ, List.getElem_cons_zero, Act.put, List.setIfInBounds_toArray, List.set_cons_succ, List.set_cons_zero]
                  refine wpAnyH_take (i := 11) (v := .string ⟨(quarter (tell L (n : Int)) 32).toArray⟩) rfl (by kernel_rfl) (by kernel_rfl) (by kernel_rfl) (fun _ _ _ h => h) (yieldsIf_conv rfl (.tmp 140) rfl (some ⟨gl, n * 64 + 32, none⟩) 32 (quarter (tell L (n : Int)) 32) (quarter_len (lok_tell QL.out _) 2 (by decide)) rfl (fun w9 hS => at_quarter (laid_at (HQ5.out.below hS) n hn64) 32 (by rw [lok_tell QL.out]; decide))) S4.out ?_
                  try simp only [List.getElem_toArray, List.getElem_cons_succ, List.getElem_cons_zero, Act.put, List.setIfInBounds_toArray, List.set_cons_succ, List.set_cons_zero]
                  refine wpAnyH_take (i := 12) (v := .bool (quarter rb 32 == quarter (tell L (n : Int)) 32)) rfl (by kernel_rfl) (by kernel_rfl) (by kernel_rfl) (fun _ _ _ h => h) (Or.inl ⟨by rfl, by intro w9 hS; go_simp; try (first | rfl | decide)⟩) S4.out ?_
                  try simp only [List.getElem_toArray, List.getElem_cons_succ, List.getElem_cons_zero, Act.put, List.setIfInBounds_toArray, List.set_cons_succ, List.set_cons_zero]
                  refine wpAnyH_take (i := 13) (v := .bool (quarter rb 32 == quarter (tell L (n : Int)) 32)) rfl (by kernel_rfl) (by kernel_rfl) (by kernel_rfl) (fun _ _ _ h => h) (Or.inl ⟨by rfl, by intro w9 hS; go_simp; try (first | rfl | decide)⟩) S4.out ?_
                  try simp only [List.getElem_toArray, List.getElem_cons_succ, List.getElem_cons_zero, Act.put, List.setIfInBounds_toArray, List.set_cons_succ, List.set_cons_zero]
                  refine wpAnyH_done (by kernel_rfl) ?_ _
                  have HQ5b := Lib.hid (HQ5.out.below S4.out)
                  have ALL := Lib.hid (quarters_all l1 kc l2 L QL.out OK1.out (n : Int) 2 (by decide))
                  rw [HRB.out] at ALL
                  go_wp2_with fail
                  go_loopw [19, 20] (fun v i wr => ∃ (k : Nat) (is : Bool), k ≤ l1.length ∧ k ≤ 40 ∧ v = .bool is ∧ i = .int .i64 k ∧ Q5 w d gl g14 L S rb wr ∧ (is = false → quarter rb 32 ≠ quarter (tell L (n : Int)) 32 ∧ ∀ j, j < k → ¬ Hit l1 n rb 32 j)) (fun _ i _ => 40 - (intOf i).toNat)
                  case atStart => exact ⟨0, _, Nat.zero_le _, Nat.zero_le _, rfl, rfl, HQ5b.out, fun hf => ⟨by simpa using hf, fun j hj => by cases hj⟩⟩
                  case round =>
                    obtain ⟨k, is, hk, hk40, rfl, rfl, hq6, hno⟩ := hrel
                    have HQ6 := Lib.hid hq6
                    have HNO := Lib.hid hno
                    clear hq6 hno
                    have hk0 : (0 : Int) ≤ (k : Int) := by omega
                    have hk1 : (k : Int) ≤ 40 := by omega
                    by_cases hlt : k < l1.length
                    · have lt1 : (k : Int) < (l1.length : Int) := by omega
                      by_cases hlt2 : k < 40
                      · have lt2 : (k : Int) < 40 := by omega
                        cases is
                        · obtain ⟨lb, lf, hA, hcn, hcb⟩ := deeds_at RD1.out k hlt
                          have hz := Lib.hid (OK1.out _ (List.getElem_mem hlt))
                          obtain ⟨z, hzz⟩ : ∃ z, l1[k] = z := ⟨_, rfl⟩
                          have HZZ := Lib.hid hzz
                          rw [hzz] at hz hcn hcb
                          have CN := Lib.hid hcn
                          have CB := Lib.hid hcb
                          clear hcn hcb hzz
                          subst hA
                          by_cases hne : z.n % 64 = (n : Int)
                          · have HE := Lib.hid (show ((z.n % 64 : Int) == (n : Int)) = true by simpa using hne)
                            clear hne
                            go_wp2_with fail
                            refine wp_region_held (S := fun w9 => Below wr.heap.size wr w9) hmix ?_
                            change wpAnyH _ _ _ _ _ _ _ _ (World.drew wr)
                            have S6 := Lib.hid (Below.refl wr.heap.size wr).drew
                            generalize World.drew wr = w6 at S6 ⊢
                            refine wpAnyH_take (i := 0) (v := .slice (some ⟨lb, lf, none⟩) l1.length c1) rfl (by kernel_rfl) (by kernel_rfl) (by kernel_rfl) (fun _ _ _ h => h) (Or.inl ⟨by rfl, by intro w9 hS; go_simp⟩) S6.out ?_
                            try simp only [List.getElem_toArray, List.getElem_cons_succ, List.getElem_cons_zero, Act.put, List.setIfInBounds_toArray, List.set_cons_succ, List.set_cons_zero]
                            refine wpAnyH_take (i := 1) (v := .int .i64 (k : Int)) rfl (by kernel_rfl) (by kernel_rfl) (by kernel_rfl) (fun _ _ _ h => h) (Or.inl ⟨by rfl, by intro w9 hS; go_simp⟩) S6.out ?_
                            try simp only [List.getElem_toArray, List.getElem_cons_succ, List.getElem_cons_zero, Act.put, List.setIfInBounds_toArray, List.set_cons_succ, List.set_cons_zero]
                            refine wpAnyH_take (i := 2) (v := .pointer (some ⟨lb, lf + k * 67, none⟩)) rfl (by kernel_rfl) (by kernel_rfl) (by kernel_rfl) (fun _ _ _ h => h) (Or.inl ⟨by rfl, by intro w9 hS; go_simp⟩) S6.out ?_
                            try simp only [List.getElem_toArray, List.getElem_cons_succ, List.getElem_cons_zero, Act.put, List.setIfInBounds_toArray, List.set_cons_succ, List.set_cons_zero]
                            refine wpAnyH_take (i := 3) (v := .pointer (some ⟨lb, lf + k * 67 + 1, none⟩)) rfl (by kernel_rfl) (by kernel_rfl) (by kernel_rfl) (fun _ _ _ h => h) (Or.inl ⟨by rfl, by intro w9 hS; go_simp⟩) S6.out ?_
                            try simp only [List.getElem_toArray, List.getElem_cons_succ, List.getElem_cons_zero, Act.put, List.setIfInBounds_toArray, List.set_cons_succ, List.set_cons_zero]
                            refine wpAnyH_take (i := 4) (v := .int .i64 z.n) rfl (by kernel_rfl) (by kernel_rfl) (by kernel_rfl) (fun _ _ _ h => h) (Or.inl ⟨by rfl, by intro w9 hS; have cc := CN.out w9 (HQ6.out.1.2.1.trans (hS.mono HQ6.out.1.2.1.size)); go_simp⟩) S6.out ?_
                            try simp only [List.getElem_toArray, List.getElem_cons_succ, List.getElem_cons_zero, Act.put, List.setIfInBounds_toArray, List.set_cons_succ, List.set_cons_zero]
                            refine wpAnyH_take (i := 5) (v := .int .i64 (z.n % 64)) rfl (by kernel_rfl) (by kernel_rfl) (by kernel_rfl) (fun _ _ _ h => h) (Or.inl ⟨by rfl, by intro w9 hS; have cc := i64_and63 z.n; go_simp⟩) S6.out ?_
                            try simp only [List.getElem_toArray, List.getElem_cons_succ, List.getElem_cons_zero, Act.put, List.setIfInBounds_toArray, List.set_cons_succ, List.set_cons_zero]
                            refine wpAnyH_take (i := 6) (v := .int .i64 (n : Int)) rfl (by kernel_rfl) (by kernel_rfl) (by kernel_rfl) (fun _ _ _ h => h) (Or.inl ⟨by rfl, by intro w9 hS; go_simp⟩) S6.out ?_
                            try simp only [List.getElem_toArray, List.getElem_cons_succ, List.getElem_cons_zero, Act.put, List.setIfInBounds_toArray, List.set_cons_succ, List.set_cons_zero]
                            refine wpAnyH_take (i := 7) (v := .bool true) rfl (by kernel_rfl) (by kernel_rfl) (by kernel_rfl) (fun _ _ _ h => h) (Or.inl ⟨by rfl, by intro w9 hS; have cc := HE.out; go_simp⟩) S6.out ?_
                            try simp only [List.getElem_toArray, List.getElem_cons_succ, List.getElem_cons_zero, Act.put, List.setIfInBounds_toArray, List.set_cons_succ, List.set_cons_zero]
                            refine wpAnyH_take (i := 8) (v := .bool true) rfl (by kernel_rfl) (by kernel_rfl) (by kernel_rfl) (fun _ _ _ h => h) (Or.inl ⟨by rfl, by intro w9 hS; go_simp⟩) S6.out ?_
                            try simp only [List.getElem_toArray, List.getElem_cons_succ, List.getElem_cons_zero, Act.put, List.setIfInBounds_toArray, List.set_cons_succ, List.set_cons_zero]
                            refine wpAnyH_take (i := 9) (v := .int .i64 32) rfl (by kernel_rfl) (by kernel_rfl) (by kernel_rfl) (fun _ _ _ h => h) (Or.inl ⟨by rfl, by intro w9 hS; go_simp⟩) S6.out ?_
                            try simp only [List.getElem_toArray, List.getElem_cons_succ, List.getElem_cons_zero, Act.put, List.setIfInBounds_toArray, List.set_cons_succ, List.set_cons_zero]
                            refine wpAnyH_take (i := 10) (v := .int .i64 32) rfl (by kernel_rfl) (by kernel_rfl) (by kernel_rfl) (fun _ _ _ h => h) (Or.inl ⟨by rfl, by intro w9 hS; go_simp⟩) S6.out ?_
                            try simp only [List.getElem_toArray, List.getElem_cons_succ, List.getElem_cons_zero, Act.put, List.setIfInBounds_toArray, List.set_cons_succ, List.set_cons_zero]
                            refine wpAnyH_take (i := 11) (v := .int .i64 48) rfl (by kernel_rfl) (by kernel_rfl) (by kernel_rfl) (fun _ _ _ h => h) (Or.inl ⟨by rfl, by intro w9 hS; go_simp; try (first | rfl | decide)⟩) S6.out ?_
                            try simp only [List.getElem_toArray, List.getElem_cons_succ, List.getElem_cons_zero, Act.put, List.setIfInBounds_toArray, List.set_cons_succ, List.set_cons_zero]
                            refine wpAnyH_take (i := 12) (v := .slice (some ⟨g14, 32, none⟩) 16 32) rfl (by kernel_rfl) (by kernel_rfl) (by kernel_rfl) (fun _ _ _ h => h) (Or.inl ⟨by rfl, by intro w9 hS; go_simp; try (first | rfl | decide)⟩) S6.out ?_
                            try simp only [List.getElem_toArray, List.getElem_cons_succ, List.getElem_cons_zero, Act.put, List.setIfInBounds_toArray, List.set_cons_succ, List.set_cons_zero]
                            refine wpAnyH_take (i := 13) (v := .string ⟨(quarter rb 32).toArray⟩) rfl (by kernel_rfl) (by kernel_rfl) (by kernel_rfl) (fun _ _ _ h => h) (yieldsIf_conv rfl (.tmp 169) rfl (some ⟨g14, 32, none⟩) 32 (quarter rb 32) (quarter_len HRL.out 2 (by decide)) rfl (fun w9 hS => at_quarter (f := 0) (At.whole (HQ6.out.2.below hS HQ6.out.2.lt)) 32 (by rw [HRL.out]; decide))) S6.out ?_
                            try simp only [List.getElem_toArray, List.getElem_cons_succ, List.getElem_cons_zero, Act.put, List.setIfInBounds_toArray, List.set_cons_succ, List.set_cons_zero]
                            refine wpAnyH_take (i := 14) (v := .slice (some ⟨lb, lf, none⟩) l1.length c1) rfl (by kernel_rfl) (by kernel_rfl) (by kernel_rfl) (fun _ _ _ h => h) (Or.inl ⟨by rfl, by intro w9 hS; go_simp⟩) S6.out ?_
                            try simp only [List.getElem_toArray, List.getElem_cons_succ, List.getElem_cons_zero, Act.put, List.setIfInBounds_toArray, List.set_cons_succ, List.set_cons_zero]
                            refine wpAnyH_take (i := 15) (v := .int .i64 (k : Int)) rfl (by kernel_rfl) (by kernel_rfl) (by kernel_rfl) (fun _ _ _ h => h) (Or.inl ⟨by rfl, by intro w9 hS; go_simp⟩) S6.out ?_
                            try simp only [List.getElem_toArray, List.getElem_cons_succ, List.getElem_cons_zero, Act.put, List.setIfInBounds_toArray, List.set_cons_succ, List.set_cons_zero]
                            refine wpAnyH_take (i := 16) (v := .pointer (some ⟨lb, lf + k * 67, none⟩)) rfl (by kernel_rfl) (by kernel_rfl) (by kernel_rfl) (fun _ _ _ h => h) (Or.inl ⟨by rfl, by intro w9 hS; go_simp⟩) S6.out ?_
                            try simp only [List.getElem_toArray, List.getElem_cons_succ, List.getElem_cons_zero, Act.put, List.setIfInBounds_toArray, List.set_cons_succ, List.set_cons_zero]
                            refine wpAnyH_take (i := 17) (v := .pointer (some ⟨lb, lf + k * 67 + 2, none⟩)) rfl (by kernel_rfl) (by kernel_rfl) (by kernel_rfl) (fun _ _ _ h => h) (Or.inl ⟨by rfl, by intro w9 hS; go_simp⟩) S6.out ?_
                            try simp only [List.getElem_toArray, List.getElem_cons_succ, List.getElem_cons_zero, Act.put, List.setIfInBounds_toArray, List.set_cons_succ, List.set_cons_zero]
                            refine wpAnyH_take (i := 18) (v := .int .i64 32) rfl (by kernel_rfl) (by kernel_rfl) (by kernel_rfl) (fun _ _ _ h => h) (Or.inl ⟨by rfl, by intro w9 hS; go_simp⟩) S6.out ?_
                            try simp only [List.getElem_toArray, List.getElem_cons_succ, List.getElem_cons_zero, Act.put, List.setIfInBounds_toArray, List.set_cons_succ, List.set_cons_zero]
                            refine wpAnyH_take (i := 19) (v := .int .i64 32) rfl (by kernel_rfl) (by kernel_rfl) (by kernel_rfl) (fun _ _ _ h => h) (Or.inl ⟨by rfl, by intro w9 hS; go_simp⟩) S6.out ?_
                            try simp only [List.getElem_toArray, List.getElem_cons_succ, List.getElem_cons_zero, Act.put, List.setIfInBounds_toArray, List.set_cons_succ, List.set_cons_zero]
                            refine wpAnyH_take (i := 20) (v := .int .i64 48) rfl (by kernel_rfl) (by kernel_rfl) (by kernel_rfl) (fun _ _ _ h => h) (Or.inl ⟨by rfl, by intro w9 hS; go_simp; try (first | rfl | decide)⟩) S6.out ?_
                            try simp only [List.getElem_toArray, List.getElem_cons_succ, List.getElem_cons_zero, Act.put, List.setIfInBounds_toArray, List.set_cons_succ, List.set_cons_zero]
                            refine wpAnyH_take (i := 21) (v := .slice (some ⟨lb, lf + k * 67 + 2 + 32, none⟩) 16 32) rfl (by kernel_rfl) (by kernel_rfl) (by kernel_rfl) (fun _ _ _ h => h) (Or.inl ⟨by rfl, by intro w9 hS; go_simp; try (first | rfl | decide)⟩) S6.out ?_
                            try simp only [List.getElem_toArray, List.getElem_cons_succ, List.getElem_cons_zero, Act.put, List.setIfInBounds_toArray, List.set_cons_succ, List.set_cons_zero]
                            refine wpAnyH_take (i := 22) (v := .string ⟨(quarter z.b 32).toArray⟩) rfl (by kernel_rfl) (by kernel_rfl) (by kernel_rfl) (fun _ _ _ h => h) (yieldsIf_conv rfl (.tmp 178) rfl (some ⟨lb, lf + k * 67 + 2 + 32, none⟩) 32 (quarter z.b 32) (quarter_len hz.out.1 2 (by decide)) rfl (fun w9 hS => at_quarter (CB.out w9 (HQ6.out.1.2.1.trans (hS.mono HQ6.out.1.2.1.size))) 32 (by rw [hz.out.1]; decide))) S6.out ?_
                            try simp only [List.getElem_toArray, List.getElem_cons_succ, List.getElem_cons_zero, Act.put, List.setIfInBounds_toArray, List.set_cons_succ, List.set_cons_zero]
                            refine wpAnyH_take (i := 23) (v := .bool (quarter rb 32 == quarter z.b 32)) rfl (by kernel_rfl) (by kernel_rfl) (by kernel_rfl) (fun _ _ _ h => h) (Or.inl ⟨by rfl, by intro w9 hS; go_simp; try (first | rfl | decide)⟩) S6.out ?_
                            try simp only [List.getElem_toArray, List.getElem_cons_succ, List.getElem_cons_zero, Act.put, List.setIfInBounds_toArray, List.set_cons_succ, List.set_cons_zero]
                            refine wpAnyH_take (i := 24) (v := .bool (quarter rb 32 == quarter z.b 32)) rfl (by kernel_rfl) (by kernel_rfl) (by kernel_rfl) (fun _ _ _ h => h) (Or.inl ⟨by rfl, by intro w9 hS; go_simp; try (first | rfl | decide)⟩) S6.out ?_
                            try simp only [List.getElem_toArray, List.getElem_cons_succ, List.getElem_cons_zero, Act.put, List.setIfInBounds_toArray, List.set_cons_succ, List.set_cons_zero]
                            refine wpAnyH_take (i := 25) (v := .bool (quarter rb 32 == quarter z.b 32)) rfl (by kernel_rfl) (by kernel_rfl) (by kernel_rfl) (fun _ _ _ h => h) (Or.inl ⟨by rfl, by intro w9 hS; go_simp; try (first | rfl | decide)⟩) S6.out ?_
                            try simp only [List.getElem_toArray, List.getElem_cons_succ, List.getElem_cons_zero, Act.put, List.setIfInBounds_toArray, List.set_cons_succ, List.set_cons_zero]
                            refine wpAnyH_done (by kernel_rfl) ?_ _
                            go_wp2
                            go_roundw
                            case rel =>
                              refine ⟨k + 1, (quarter rb 32 == quarter z.b 32), by omega, by omega, rfl, by go_num, HQ6.out.below S6.out, fun hf => ⟨(HNO.out (by trivial)).1, fun j hj => ?_⟩⟩
                              rcases Nat.lt_or_ge j k with h | h
                              · exact (HNO.out (by trivial)).2 j h
                              · obtain rfl : j = k := by omega
                                rintro ⟨h1, h2, h3⟩
                                rw [HZZ.out] at h2 h3
                                rw [h3] at hf
                                simp at hf
                            case measure => simp [intOf]; omega
                          · have HE := Lib.hid (show ((z.n % 64 : Int) == (n : Int)) = false by simpa using hne)
                            have HNE := Lib.hid hne
                            clear hne
                            go_wp2_with fail
                            refine wp_region_held (S := fun w9 => Below wr.heap.size wr w9) hmix ?_
                            change wpAnyH _ _ _ _ _ _ _ _ (World.drew wr)
                            have S6 := Lib.hid (Below.refl wr.heap.size wr).drew
                            generalize World.drew wr = w6 at S6 ⊢
                            refine wpAnyH_take (i := 0) (v := .slice (some ⟨lb, lf, none⟩) l1.length c1) rfl (by kernel_rfl) (by kernel_rfl) (by kernel_rfl) (fun _ _ _ h => h) (Or.inl ⟨by rfl, by intro w9 hS; go_simp⟩) S6.out ?_
                            try simp only [List.getElem_toArray, List.getElem_cons_succ, List.getElem_cons_zero, Act.put, List.setIfInBounds_toArray, List.set_cons_succ, List.set_cons_zero]
                            refine wpAnyH_take (i := 1) (v := .int .i64 (k : Int)) rfl (by kernel_rfl) (by kernel_rfl) (by kernel_rfl) (fun _ _ _ h => h) (Or.inl ⟨by rfl, by intro w9 hS; go_simp⟩) S6.out ?_
                            try simp only [List.getElem_toArray, List.getElem_cons_succ, List.getElem_cons_zero, Act.put, List.setIfInBounds_toArray, List.set_cons_succ, List.set_cons_zero]
                            refine wpAnyH_take (i := 2) (v := .pointer (some ⟨lb, lf + k * 67, none⟩)) rfl (by kernel_rfl) (by kernel_rfl) (by kernel_rfl) (fun _ _ _ h => h) (Or.inl ⟨by rfl, by intro w9 hS; go_simp⟩) S6.out ?_
                            try simp only [List.getElem_toArray, List.getElem_cons_succ, List.getElem_cons_zero, Act.put, List.setIfInBounds_toArray, List.set_cons_succ, List.set_cons_zero]
                            refine wpAnyH_take (i := 3) (v := .pointer (some ⟨lb, lf + k * 67 + 1, none⟩)) rfl (by kernel_rfl) (by kernel_rfl) (by kernel_rfl) (fun _ _ _ h => h) (Or.inl ⟨by rfl, by intro w9 hS; go_simp⟩) S6.out ?_
                            try simp only [List.getElem_toArray, List.getElem_cons_succ, List.getElem_cons_zero, Act.put, List.setIfInBounds_toArray, List.set_cons_succ, List.set_cons_zero]
                            refine wpAnyH_take (i := 4) (v := .int .i64 z.n) rfl (by kernel_rfl) (by kernel_rfl) (by kernel_rfl) (fun _ _ _ h => h) (Or.inl ⟨by rfl, by intro w9 hS; have cc := CN.out w9 (HQ6.out.1.2.1.trans (hS.mono HQ6.out.1.2.1.size)); go_simp⟩) S6.out ?_
                            try simp only [List.getElem_toArray, List.getElem_cons_succ, List.getElem_cons_zero, Act.put, List.setIfInBounds_toArray, List.set_cons_succ, List.set_cons_zero]
                            refine wpAnyH_take (i := 5) (v := .int .i64 (z.n % 64)) rfl (by kernel_rfl) (by kernel_rfl) (by kernel_rfl) (fun _ _ _ h => h) (Or.inl ⟨by rfl, by intro w9 hS; have cc := i64_and63 z.n; go_simp⟩) S6.out ?_
                            try simp only [List.getElem_toArray, List.getElem_cons_succ, List.getElem_cons_zero, Act.put, List.setIfInBounds_toArray, List.set_cons_succ, List.set_cons_zero]
                            refine wpAnyH_take (i := 6) (v := .int .i64 (n : Int)) rfl (by kernel_rfl) (by kernel_rfl) (by kernel_rfl) (fun _ _ _ h => h) (Or.inl ⟨by rfl, by intro w9 hS; go_simp⟩) S6.out ?_
                            try simp only [List.getElem_toArray, List.getElem_cons_succ, List.getElem_cons_zero, Act.put, List.setIfInBounds_toArray, List.set_cons_succ, List.set_cons_zero]
                            refine wpAnyH_take (i := 7) (v := .bool false) rfl (by kernel_rfl) (by kernel_rfl) (by kernel_rfl) (fun _ _ _ h => h) (Or.inl ⟨by rfl, by intro w9 hS; have cc := HE.out; go_simp⟩) S6.out ?_
                            try simp only [List.getElem_toArray, List.getElem_cons_succ, List.getElem_cons_zero, Act.put, List.setIfInBounds_toArray, List.set_cons_succ, List.set_cons_zero]
                            refine wpAnyH_take (i := 8) (v := .bool false) rfl (by kernel_rfl) (by kernel_rfl) (by kernel_rfl) (fun _ _ _ h => h) (Or.inl ⟨by rfl, by intro w9 hS; go_simp⟩) S6.out ?_
                            try simp only [List.getElem_toArray, List.getElem_cons_succ, List.getElem_cons_zero, Act.put, List.setIfInBounds_toArray, List.set_cons_succ, List.set_cons_zero]
                            refine wpAnyH_take (i := 9) (v := undef) rfl (by kernel_rfl) (by kernel_rfl) (by kernel_rfl) (fun _ _ _ h => h) (Or.inr ⟨by rfl, rfl⟩) S6.out ?_
                            try simp only [List.getElem_toArray, List.getElem_cons_succ, List.getElem_cons_zero, Act.put, List.setIfInBounds_toArray, List.set_cons_succ, List.set_cons_zero]
                            refine wpAnyH_take (i := 10) (v := undef) rfl (by kernel_rfl) (by kernel_rfl) (by kernel_rfl) (fun _ _ _ h => h) (Or.inr ⟨by rfl, rfl⟩) S6.out ?_
                            try simp only [List.getElem_toArray, List.getElem_cons_succ, List.getElem_cons_zero, Act.put, List.setIfInBounds_toArray, List.set_cons_succ, List.set_cons_zero]
                            refine wpAnyH_take (i := 11) (v := undef) rfl (by kernel_rfl) (by kernel_rfl) (by kernel_rfl) (fun _ _ _ h => h) (Or.inr ⟨by rfl, rfl⟩) S6.out ?_
                            try simp only [List.getElem_toArray, List.getElem_cons_succ, List.getElem_cons_zero, Act.put, List.setIfInBounds_toArray, List.set_cons_succ, List.set_cons_zero]
                            refine wpAnyH_take (i := 12) (v := undef) rfl (by kernel_rfl) (by kernel_rfl) (by kernel_rfl) (fun _ _ _ h => h) (Or.inr ⟨by rfl, rfl⟩) S6.out ?_
                            try simp only [List.getElem_toArray, List.getElem_cons_succ, List.getElem_cons_zero, Act.put, List.setIfInBounds_toArray, List.set_cons_succ, List.set_cons_zero]
                            refine wpAnyH_take (i := 13) (v := undef) rfl (by kernel_rfl) (by kernel_rfl) (by kernel_rfl) (fun _ _ _ h => h) (Or.inr ⟨by rfl, rfl⟩) S6.out ?_
                            try simp only [List.getElem_toArray, List.getElem_cons_succ, List.getElem_cons_zero, Act.put, List.setIfInBounds_toArray, List.set_cons_succ, List.set_cons_zero]
                            refine wpAnyH_take (i := 14) (v := undef) rfl (by kernel_rfl) (by kernel_rfl) (by kernel_rfl) (fun _ _ _ h => h) (Or.inr ⟨by rfl, rfl⟩) S6.out ?_
                            try simp only [List.getElem_toArray, List.getElem_cons_succ, List.getElem_cons_zero, Act.put, List.setIfInBounds_toArray, List.set_cons_succ, List.set_cons_zero]
                            refine wpAnyH_take (i := 15) (v := undef) rfl (by kernel_rfl) (by kernel_rfl) (by kernel_rfl) (fun _ _ _ h => h) (Or.inr ⟨by rfl, rfl⟩) S6.out ?_
                            try simp only [List.getElem_toArray, List.getElem_cons_succ, List.getElem_cons_zero, Act.put, List.setIfInBounds_toArray, List.set_cons_succ, List.set_cons_zero]
                            refine wpAnyH_take (i := 16) (v := undef) rfl (by kernel_rfl) (by kernel_rfl) (by kernel_rfl) (fun _ _ _ h => h) (Or.inr ⟨by rfl, rfl⟩) S6.out ?_
                            try simp only [List.getElem_toArray, List.getElem_cons_succ, List.getElem_cons_zero, Act.put, List.setIfInBounds_toArray, List.set_cons_succ, List.set_cons_zero]
                            refine wpAnyH_take (i := 17) (v := undef) rfl (by kernel_rfl) (by kernel_rfl) (by kernel_rfl) (fun _ _ _ h => h) (Or.inr ⟨by rfl, rfl⟩) S6.out ?_
                            try simp only [List.getElem_toArray, List.getElem_cons_succ, List.getElem_cons_zero, Act.put, List.setIfInBounds_toArray, List.set_cons_succ, List.set_cons_zero]
                            refine wpAnyH_take (i := 18) (v := undef) rfl (by kernel_rfl) (by kernel_rfl) (by kernel_rfl) (fun _ _ _ h => h) (Or.inr ⟨by rfl, rfl⟩) S6.out ?_
                            try simp only [List.getElem_toArray, List.getElem_cons_succ, List.getElem_cons_zero, Act.put, List.setIfInBounds_toArray, List.set_cons_succ, List.set_cons_zero]
                            refine wpAnyH_take (i := 19) (v := undef) rfl (by kernel_rfl) (by kernel_rfl) (by kernel_rfl) (fun _ _ _ h => h) (Or.inr ⟨by rfl, rfl⟩) S6.out ?_
                            try simp only [List.getElem_toArray, List.getElem_cons_succ, List.getElem_cons_zero, Act.put, List.setIfInBounds_toArray, List.set_cons_succ, List.set_cons_zero]
                            refine wpAnyH_take (i := 20) (v := undef) rfl (by kernel_rfl) (by kernel_rfl) (by kernel_rfl) (fun _ _ _ h => h) (Or.inr ⟨by rfl, rfl⟩) S6.out ?_
                            try simp only [List.getElem_toArray, List.getElem_cons_succ, List.getElem_cons_zero, Act.put, List.setIfInBounds_toArray, List.set_cons_succ, List.set_cons_zero]
                            refine wpAnyH_take (i := 21) (v := undef) rfl (by kernel_rfl) (by kernel_rfl) (by kernel_rfl) (fun _ _ _ h => h) (Or.inr ⟨by rfl, rfl⟩) S6.out ?_
                            try simp only [List.getElem_toArray, List.getElem_cons_succ, List.getElem_cons_zero, Act.put, List.setIfInBounds_toArray, List.set_cons_succ, List.set_cons_zero]
                            refine wpAnyH_take (i := 22) (v := undef) rfl (by kernel_rfl) (by kernel_rfl) (by kernel_rfl) (fun _ _ _ h => h) (Or.inr ⟨by rfl, rfl⟩) S6.out ?_
                            try simp only [List.getElem_toArray, List.getElem_cons_succ, List.getElem_cons_zero, Act.put, List.setIfInBounds_toArray, List.set_cons_succ, List.set_cons_zero]
                            refine wpAnyH_take (i := 23) (v := undef) rfl (by kernel_rfl) (by kernel_rfl) (by kernel_rfl) (fun _ _ _ h => h) (Or.inr ⟨by rfl, rfl⟩) S6.out ?_
                            try simp only [List.getElem_toArray, List.getElem_cons_succ, List.getElem_cons_zero, Act.put, List.setIfInBounds_toArray, List.set_cons_succ, List.set_cons_zero]
                            refine wpAnyH_take (i := 24) (v := .bool false) rfl (by kernel_rfl) (by kernel_rfl) (by kernel_rfl) (fun _ _ _ h => h) (Or.inl ⟨by rfl, by intro w9 hS; go_simp⟩) S6.out ?_
                            try simp only [List.getElem_toArray, List.getElem_cons_succ, List.getElem_cons_zero, Act.put, List.setIfInBounds_toArray, List.set_cons_succ, List.set_cons_zero]
                            refine wpAnyH_take (i := 25) (v := .bool false) rfl (by kernel_rfl) (by kernel_rfl) (by kernel_rfl) (fun _ _ _ h => h) (Or.inl ⟨by rfl, by intro w9 hS; go_simp⟩) S6.out ?_
                            try simp only [List.getElem_toArray, List.getElem_cons_succ, List.getElem_cons_zero, Act.put, List.setIfInBounds_toArray, List.set_cons_succ, List.set_cons_zero]
                            refine wpAnyH_done (by kernel_rfl) ?_ _
                            go_wp2
                            go_roundw
                            case rel =>
                              refine ⟨k + 1, false, by omega, by omega, rfl, by go_num, HQ6.out.below S6.out, fun hf => ⟨(HNO.out (by trivial)).1, fun j hj => ?_⟩⟩
                              rcases Nat.lt_or_ge j k with h | h
                              · exact (HNO.out (by trivial)).2 j h
                              · obtain rfl : j = k := by omega
                                rintro ⟨h1, h2, h3⟩
                                rw [HZZ.out] at h2 h3
                                exact HNE.out h2
                            case measure => simp [intOf]; omega
                        · go_wp2_with fail
                          go_roundw
                          case rel => exact ⟨3, .inr (.inr (.inr (.inl ⟨rfl, rfl⟩))), HQ6.out⟩
                          case measure => simp [intOf]
                      · have lt2 : decide ((k : Int) < 40) = false := by simp; omega
                        have lt3 : (40 : Int) ≤ (k : Int) := by omega
                        obtain rfl : is = true := by
                          cases is
                          · exfalso
                            obtain ⟨h1, h2⟩ := HNO.out rfl
                            rcases ALL.out with h | ⟨i, hi, hik, h3, h4⟩
                            · exact h1 h
                            · exact h2 i (by have := HKC.out; omega) ⟨hi, h3, h4⟩
                          · rfl
                        go_wp2_with fail
                        go_roundw
                        case rel => exact ⟨3, .inr (.inr (.inr (.inl ⟨rfl, rfl⟩))), HQ6.out⟩
                        case measure => simp [intOf]
                    · have lt1 : decide ((k : Int) < (l1.length : Int)) = false := by simp; omega
                      have lt3 : (l1.length : Int) ≤ (k : Int) := by omega
                      obtain rfl : is = true := by
                        cases is
                        · exfalso
                          obtain ⟨h1, h2⟩ := HNO.out rfl
                          rcases ALL.out with h | ⟨i, hi, hik, h3, h4⟩
                          · exact h1 h
                          · exact h2 i (by omega) ⟨hi, h3, h4⟩
                        · rfl
                      go_wp2_with fail
                      go_roundw
                      case rel => exact ⟨3, .inr (.inr (.inr (.inl ⟨rfl, rfl⟩))), HQ6.out⟩
                      case measure => simp [intOf]
                · go_wp2_with fail
                  refine wp_region_held (S := fun w9 => Below wr.heap.size wr w9) hmix ?_
                  change wpAnyH _ _ _ _ _ _ _ _ (World.drew wr)
                  have S4 := Lib.hid (Below.refl wr.heap.size wr).drew
                  generalize World.drew wr = w4 at S4 ⊢
                  refine wpAnyH_take (i := 0) (v := .int .i64 48) rfl (by kernel_rfl) (by kernel_rfl) (by kernel_rfl) (fun _ _ _ h => h) (Or.inl ⟨by rfl, by intro w9 hS; go_simp⟩) S4.out ?_
                  try simp only [List.getElem_toArray, List.getElem_cons_succ, List.getElem_cons_zero, Act.put, List.setIfInBounds_toArray, List.set_cons_succ, List.set_cons_zero]
                  refine wpAnyH_take (i := 1) (v := .int .i64 48) rfl (by kernel_rfl) (by kernel_rfl) (by kernel_rfl) (fun _ _ _ h => h) (Or.inl ⟨by rfl, by intro w9 hS; go_simp⟩) S4.out ?_
                  try simp only [List.getElem_toArray, List.getElem_cons_succ, List.getElem_cons_zero, Act.put, List.setIfInBounds_toArray, List.set_cons_succ, List.set_cons_zero]
                  refine wpAnyH_take (i := 2) (v := .int .i64 64) rfl (by kernel_rfl) (by kernel_rfl) (by kernel_rfl) (fun _ _ _ h => h) (Or.inl ⟨by rfl, by intro w9 hS; go_simp; try (first | rfl | decide)⟩) S4.out ?_
                  try simp only [List.getElem_toArray, List.getElem_cons_succ, List.getElem_cons_zero, Act.put, List.setIfInBounds_toArray, List.set_cons_succ, List.set_cons_zero]
                  refine wpAnyH_take (i := 3) (v := .slice (some ⟨g14, 48, none⟩) 16 16) rfl (by kernel_rfl) (by kernel_rfl) (by kernel_rfl) (fun _ _ _ h => h) (Or.inl ⟨by rfl, by intro w9 hS; go_simp; try (first | rfl | decide)⟩) S4.out ?_
                  try simp only [List.getElem_toArray, List.getElem_cons_succ, List.getElem_cons_zero, Act.put, List.setIfInBounds_toArray, List.set_cons_succ, List.set_cons_zero]
                  refine wpAnyH_take (i := 4) (v := .string ⟨(quarter rb 48).toArray⟩) rfl (by kernel_rfl) (by kernel_rfl) (by kernel_rfl) (fun _ _ _ h => h) (yieldsIf_conv rfl (.tmp 133) rfl (some ⟨g14, 48, none⟩) 16 (quarter rb 48) (quarter_len HRL.out 3 (by decide)) rfl (fun w9 hS => at_quarter (f := 0) (At.whole (HQ5.out.2.below hS HQ5.out.2.lt)) 48 (by rw [HRL.out]; decide))) S4.out ?_
                  try simp only [List.getElem_toArray, List.getElem_cons_succ, List.getElem_cons_zero, Act.put, List.setIfInBounds_toArray, List.set_cons_succ, List.set_cons_zero]
                  refine wpAnyH_take (i := 5) (v := .int .i64 (n : Int)) rfl (by kernel_rfl) (by kernel_rfl) (by kernel_rfl) (fun _ _ _ h => h) (Or.inl ⟨by rfl, by intro w9 hS; go_simp⟩) S4.out ?_
                  try simp only [List.getElem_toArray, List.getElem_cons_succ, List.getElem_cons_zero, Act.put, List.setIfInBounds_toArray, List.set_cons_succ, List.set_cons_zero]
                  refine wpAnyH_take (i := 6) (v := .pointer (some ⟨gl, n * 64, none⟩)) rfl (by kernel_rfl) (by kernel_rfl) (by kernel_rfl) (fun _ _ _ h => h) (Or.inl ⟨by rfl, by intro w9 hS; go_simp; try (first | rfl | decide)⟩) S4.out ?_
                  try simp only [List.getElem_toArray, List.getElem_cons_succ, List.getElem_cons_zero, Act.put, List.setIfInBounds_toArray, List.set_cons_succ, List.set_cons_zero]
                  refine wpAnyH_take (i := 7) (v := .int .i64 48) rfl (by kernel_rfl) (by kernel_rfl) (by kernel_rfl) (fun _ _ _ h => h) (Or.inl ⟨by rfl, by intro w9 hS; go_simp⟩) S4.out ?_
                  try simp only [List.getElem_toArray, List.getElem_cons_succ, List.getElem_cons_zero, Act.put, List.setIfInBounds_toArray, List.set_cons_succ, List.set_cons_zero]
                  refine wpAnyH_take (i := 8) (v := .int .i64 48) rfl (by kernel_rfl) (by kernel_rfl) (by kernel_rfl) (fun _ _ _ h => h) (Or.inl ⟨by rfl, by intro w9 hS; go_simp⟩) S4.out ?_
                  try simp only [List.getElem_toArray, List.getElem_cons_succ, List.getElem_cons_zero, Act.put, List.setIfInBounds_toArray, List.set_cons_succ, List.set_cons_zero]
                  refine wpAnyH_take (i := 9) (v := .int .i64 64) rfl (by kernel_rfl) (by kernel_rfl) (by kernel_rfl) (fun _ _ _ h => h) (Or.inl ⟨by rfl, by intro w9 hS; go_simp; try (first | rfl | decide)⟩) S4.out ?_
                  try simp only [List.getElem_toArray, List.getElem_cons_succ, List.getElem_cons_zero, Act.put, List.setIfInBounds_toArray, List.set_cons_succ, List.set_cons_zero]
                  refine wpAnyH_take (i := 10) (v := .slice (some ⟨gl, n * 64 + 48, none⟩) 16 16) rfl (by kernel_rfl) (by kernel_rfl) (by kernel_rfl) (fun _ _ _ h => h) (Or.inl ⟨by rfl, by intro w9 hS; go_simp; try (first | rfl | decide)⟩) S4.out ?_
                  try simp only [List.getElem_toArray, List.getElem_cons_succ, List.getElem_cons_zero, Act.put, List.setIfInBounds_toArray, List.set_cons_succ, List.set_cons_zero]
                  refine wpAnyH_take (i := 11) (v := .string ⟨(quarter (tell L (n : Int)) 48).toArray⟩) rfl (by kernel_rfl) (by kernel_rfl) (by kernel_rfl) (fun _ _ _ h => h) (yieldsIf_conv rfl (.tmp 140) rfl (some ⟨gl, n * 64 + 48, none⟩) 16 (quarter (tell L (n : Int)) 48) (quarter_len (lok_tell QL.out _) 3 (by decide)) rfl (fun w9 hS => at_quarter (laid_at (HQ5.out.below hS) n hn64) 48 (by rw [lok_tell QL.out]; decide))) S4.out ?_
                  try simp only [List.getElem_toArray, List.getElem_cons_succ, List.getElem_cons_zero, Act.put, List.setIfInBounds_toArray, List.set_cons_succ, List.set_cons_zero]
                  refine wpAnyH_take (i := 12) (v := .bool (quarter rb 48 == quarter (tell L (n : Int)) 48)) rfl (by kernel_rfl) (by kernel_rfl) (by kernel_rfl) (fun _ _ _ h => h) (Or.inl ⟨by rfl, by intro w9 hS; go_simp; try (first | rfl | decide)⟩) S4.out ?_
                  try simp only [List.getElem_toArray, List.getElem_cons_succ, List.getElem_cons_zero, Act.put, List.setIfInBounds_toArray, List.set_cons_succ, List.set_cons_zero]
                  refine wpAnyH_take (i := 13) (v := .bool (quarter rb 48 == quarter (tell L (n : Int)) 48)) rfl (by kernel_rfl) (by kernel_rfl) (by kernel_rfl) (fun _ _ _ h => h) (Or.inl ⟨by rfl, by intro w9 hS; go_simp; try (first | rfl | decide)⟩) S4.out ?_
                  try simp only [List.getElem_toArray, List.getElem_cons_succ, List.getElem_cons_zero, Act.put, List.setIfInBounds_toArray, List.set_cons_succ, List.set_cons_zero]
                  refine wpAnyH_done (by kernel_rfl) ?_ _
                  have HQ5b := Lib.hid (HQ5.out.below S4.out)
                  have ALL := Lib.hid (quarters_all l1 kc l2 L QL.out OK1.out (n : Int) 3 (by decide))
                  rw [HRB.out] at ALL
                  go_wp2_with fail
                  go_loopw [19, 20] (fun v i wr => ∃ (k : Nat) (is : Bool), k ≤ l1.length ∧ k ≤ 40 ∧ v = .bool is ∧ i = .int .i64 k ∧ Q5 w d gl g14 L S rb wr ∧ (is = false → quarter rb 48 ≠ quarter (tell L (n : Int)) 48 ∧ ∀ j, j < k → ¬ Hit l1 n rb 48 j)) (fun _ i _ => 40 - (intOf i).toNat)
                  case atStart => exact ⟨0, _, Nat.zero_le _, Nat.zero_le _, rfl, rfl, HQ5b.out, fun hf => ⟨by simpa using hf, fun j hj => by cases hj⟩⟩
                  case round =>
                    obtain ⟨k, is, hk, hk40, rfl, rfl, hq6, hno⟩ := hrel
                    have HQ6 := Lib.hid hq6
                    have HNO := Lib.hid hno
                    clear hq6 hno
                    have hk0 : (0 : Int) ≤ (k : Int) := by omega
                    have hk1 : (k : Int) ≤ 40 := by omega
                    by_cases hlt : k < l1.length
                    · have lt1 : (k : Int) < (l1.length : Int) := by omega
                      by_cases hlt2 : k < 40
                      · have lt2 : (k : Int) < 40 := by omega
                        cases is
                        · obtain ⟨lb, lf, hA, hcn, hcb⟩ := deeds_at RD1.out k hlt
                          have hz := Lib.hid (OK1.out _ (List.getElem_mem hlt))
                          obtain ⟨z, hzz⟩ : ∃ z, l1[k] = z := ⟨_, rfl⟩
                          have HZZ := Lib.hid hzz
                          rw [hzz] at hz hcn hcb
                          have CN := Lib.hid hcn
                          have CB := Lib.hid hcb
                          clear hcn hcb hzz
                          subst hA
                          by_cases hne : z.n % 64 = (n : Int)
                          · have HE := Lib.hid (show ((z.n % 64 : Int) == (n : Int)) = true by simpa using hne)
                            clear hne
                            go_wp2_with fail
                            refine wp_region_held (S := fun w9 => Below wr.heap.size wr w9) hmix ?_
                            change wpAnyH _ _ _ _ _ _ _ _ (World.drew wr)
                            have S6 := Lib.hid (Below.refl wr.heap.size wr).drew
                            generalize World.drew wr = w6 at S6 ⊢
                            refine wpAnyH_take (i := 0) (v := .slice (some ⟨lb, lf, none⟩) l1.length c1) rfl (by kernel_rfl) (by kernel_rfl) (by kernel_rfl) (fun _ _ _ h => h) (Or.inl ⟨by rfl, by intro w9 hS; go_simp⟩) S6.out ?_
                            try simp only [List.getElem_toArray, List.getElem_cons_succ, List.getElem_cons_zero, Act.put, List.setIfInBounds_toArray, List.set_cons_succ, List.set_cons_zero]
                            refine wpAnyH_take (i := 1) (v := .int .i64 (k : Int)) rfl (by kernel_rfl) (by kernel_rfl) (by kernel_rfl) (fun _ _ _ h => h) (Or.inl ⟨by rfl, by intro w9 hS; go_simp⟩) S6.out ?_
                            try simp only [List.getElem_toArray, List.getElem_cons_succ, List.getElem_cons_zero, Act.put, List.setIfInBounds_toArray, List.set_cons_succ, List.set_cons_zero]
                            refine wpAnyH_take (i := 2) (v := .pointer (some ⟨lb, lf + k * 67, none⟩)) rfl (by kernel_rfl) (by kernel_rfl) (by kernel_rfl) (fun _ _ _ h => h) (Or.inl ⟨by rfl, by intro w9 hS; go_simp⟩) S6.out ?_
                            try simp only [List.getElem_toArray, List.getElem_cons_succ, List.getElem_cons_zero, Act.put, List.setIfInBounds_toArray, List.set_cons_succ, List.set_cons_zero]
                            refine wpAnyH_take (i := 3) (v := .pointer (some ⟨lb, lf + k * 67 + 1, none⟩)) rfl (by kernel_rfl) (by kernel_rfl) (by kernel_rfl) (fun _ _ _ h => h) (Or.inl ⟨by rfl, by intro w9 hS; go_simp⟩) S6.out ?_
                            try simp only [List.getElem_toArray, List.getElem_cons_succ, List.getElem_cons_zero, Act.put, List.setIfInBounds_toArray, List.set_cons_succ, List.set_cons_zero]
                            refine wpAnyH_take (i := 4) (v := .int .i64 z.n) rfl (by kernel_rfl) (by kernel_rfl) (by kernel_rfl) (fun _ _ _ h => h) (Or.inl ⟨by rfl, by intro w9 hS; have cc := CN.out w9 (HQ6.out.1.2.1.trans (hS.mono HQ6.out.1.2.1.size)); go_simp⟩) S6.out ?_
                            try simp only [List.getElem_toArray, List.getElem_cons_succ, List.getElem_cons_zero, Act.put, List.setIfInBounds_toArray, List.set_cons_succ, List.set_cons_zero]
                            refine wpAnyH_take (i := 5) (v := .int .i64 (z.n % 64)) rfl (by kernel_rfl) (by kernel_rfl) (by kernel_rfl) (fun _ _ _ h => h) (Or.inl ⟨by rfl, by intro w9 hS; have cc := i64_and63 z.n; go_simp⟩) S6.out ?_
                            try simp only [List.getElem_toArray, List.getElem_cons_succ, List.getElem_cons_zero, Act.put, List.setIfInBounds_toArray, List.set_cons_succ, List.set_cons_zero]
                            refine wpAnyH_take (i := 6) (v := .int .i64 (n : Int)) rfl (by kernel_rfl) (by kernel_rfl) (by kernel_rfl) (fun _ _ _ h => h) (Or.inl ⟨by rfl, by intro w9 hS; go_simp⟩) S6.out ?_
                            try simp only [List.getElem_toArray, List.getElem_cons_succ, List.getElem_cons_zero, Act.put, List.setIfInBounds_toArray, List.set_cons_succ, List.set_cons_zero]
                            refine wpAnyH_take (i := 7) (v := .bool true) rfl (by kernel_rfl) (by kernel_rfl) (by kernel_rfl) (fun _ _ _ h => h) (Or.inl ⟨by rfl, by intro w9 hS; have cc := HE.out; go_simp⟩) S6.out ?_
                            try simp only [List.getElem_toArray, List.getElem_cons_succ, List.getElem_cons_zero, Act.put, List.setIfInBounds_toArray, List.set_cons_succ, List.set_cons_zero]
                            refine wpAnyH_take (i := 8) (v := .bool true) rfl (by kernel_rfl) (by kernel_rfl) (by kernel_rfl) (fun _ _ _ h => h) (Or.inl ⟨by rfl, by intro w9 hS; go_simp⟩) S6.out ?_
                            try simp only [List.getElem_toArray, List.getElem_cons_succ, List.getElem_cons_zero, Act.put, List.setIfInBounds_toArray, List.set_cons_succ, List.set_cons_zero]
                            refine wpAnyH_take (i := 9) (v := .int .i64 48) rfl (by kernel_rfl) (by kernel_rfl) (by kernel_rfl) (fun _ _ _ h => h) (Or.inl ⟨by rfl, by intro w9 hS; go_simp⟩) S6.out ?_
                            try simp only [List.getElem_toArray, List.getElem_cons_succ, List.getElem_cons_zero, Act.put, List.setIfInBounds_toArray, List.set_cons_succ, List.set_cons_zero]
                            refine wpAnyH_take (i := 10) (v := .int .i64 48) rfl (by kernel_rfl) (by kernel_rfl) (by kernel_rfl) (fun _ _ _ h => h) (Or.inl ⟨by rfl, by intro w9 hS; go_simp⟩) S6.out ?_
                            try simp only [List.getElem_toArray, List.getElem_cons_succ, List.getElem_cons_zero, Act.put, List.setIfInBounds_toArray, List.set_cons_succ, List.set_cons_zero]
                            refine wpAnyH_take (i := 11) (v := .int .i64 64) rfl (by kernel_rfl) (by kernel_rfl) (by kernel_rfl) (fun _ _ _ h => h) (Or.inl ⟨by rfl, by intro w9 hS; go_simp; try (first | rfl | decide)⟩) S6.out ?_
                            try simp only [List.getElem_toArray, List.getElem_cons_succ, List.getElem_cons_zero, Act.put, List.setIfInBounds_toArray, List.set_cons_succ, List.set_cons_zero]
                            refine wpAnyH_take (i := 12) (v := .slice (some ⟨g14, 48, none⟩) 16 16) rfl (by kernel_rfl) (by kernel_rfl) (by kernel_rfl) (fun _ _ _ h => h) (Or.inl ⟨by rfl, by intro w9 hS; go_simp; try (first | rfl | decide)⟩) S6.out ?_
                            try simp only [List.getElem_toArray, List.getElem_cons_succ, List.getElem_cons_zero, Act.put, List.setIfInBounds_toArray, List.set_cons_succ, List.set_cons_zero]
                            refine wpAnyH_take (i := 13) (v := .string ⟨(quarter rb 48).toArray⟩) rfl (by kernel_rfl) (by kernel_rfl) (by kernel_rfl) (fun _ _ _ h => h) (yieldsIf_conv rfl (.tmp 169) rfl (some ⟨g14, 48, none⟩) 16 (quarter rb 48) (quarter_len HRL.out 3 (by decide)) rfl (fun w9 hS => at_quarter (f := 0) (At.whole (HQ6.out.2.below hS HQ6.out.2.lt)) 48 (by rw [HRL.out]; decide))) S6.out ?_
                            try simp only [List.getElem_toArray, List.getElem_cons_succ, List.getElem_cons_zero, Act.put, List.setIfInBounds_toArray, List.set_cons_succ, List.set_cons_zero]
                            refine wpAnyH_take (i := 14) (v := .slice (some ⟨lb, lf, none⟩) l1.length c1) rfl (by kernel_rfl) (by kernel_rfl) (by kernel_rfl) (fun _ _ _ h => h) (Or.inl ⟨by rfl, by intro w9 hS; go_simp⟩) S6.out ?_
                            try simp only [List.getElem_toArray, List.getElem_cons_succ, List.getElem_cons_zero, Act.put, List.setIfInBounds_toArray, List.set_cons_succ, List.set_cons_zero]
                            refine wpAnyH_take (i := 15) (v := .int .i64 (k : Int)) rfl (by kernel_rfl) (by kernel_rfl) (by kernel_rfl) (fun _ _ _ h => h) (Or.inl ⟨by rfl, by intro w9 hS; go_simp⟩) S6.out ?_
                            try simp only [List.getElem_toArray, List.getElem_cons_succ, List.getElem_cons_zero, Act.put, List.setIfInBounds_toArray, List.set_cons_succ, List.set_cons_zero]
                            refine wpAnyH_take (i := 16) (v := .pointer (some ⟨lb, lf + k * 67, none⟩)) rfl (by kernel_rfl) (by kernel_rfl) (by kernel_rfl) (fun _ _ _ h => h) (Or.inl ⟨by rfl, by intro w9 hS; go_simp⟩) S6.out ?_
                            try simp only [List.getElem_toArray, List.getElem_cons_succ, List.getElem_cons_zero, Act.put, List.setIfInBounds_toArray, List.set_cons_succ, List.set_cons_zero]
                            refine wpAnyH_take (i := 17) (v := .pointer (some ⟨lb, lf + k * 67 + 2, none⟩)) rfl (by kernel_rfl) (by kernel_rfl) (by kernel_rfl) (fun _ _ _ h => h) (Or.inl ⟨by rfl, by intro w9 hS; go_simp⟩) S6.out ?_
                            try simp only [List.getElem_toArray, List.getElem_cons_succ, List.getElem_cons_zero, Act.put, List.setIfInBounds_toArray, List.set_cons_succ, List.set_cons_zero]
                            refine wpAnyH_take (i := 18) (v := .int .i64 48) rfl (by kernel_rfl) (by kernel_rfl) (by kernel_rfl) (fun _ _ _ h => h) (Or.inl ⟨by rfl, by intro w9 hS; go_simp⟩) S6.out ?_
                            try simp only [List.getElem_toArray, List.getElem_cons_succ, List.getElem_cons_zero, Act.put, List.setIfInBounds_toArray, List.set_cons_succ, List.set_cons_zero]
                            refine wpAnyH_take (i := 19) (v := .int .i64 48) rfl (by kernel_rfl) (by kernel_rfl) (by kernel_rfl) (fun _ _ _ h => h) (Or.inl ⟨by rfl, by intro w9 hS; go_simp⟩) S6.out ?_
                            try simp only [List.getElem_toArray, List.getElem_cons_succ, List.getElem_cons_zero, Act.put, List.setIfInBounds_toArray, List.set_cons_succ, List.set_cons_zero]
                            refine wpAnyH_take (i := 20) (v := .int .i64 64) rfl (by kernel_rfl) (by kernel_rfl) (by kernel_rfl) (fun _ _ _ h => h) (Or.inl ⟨by rfl, by intro w9 hS; go_simp; try (first | rfl | decide)⟩) S6.out ?_
                            try simp only [List.getElem_toArray, List.getElem_cons_succ, List.getElem_cons_zero, Act.put, List.setIfInBounds_toArray, List.set_cons_succ, List.set_cons_zero]
                            refine wpAnyH_take (i := 21) (v := .slice (some ⟨lb, lf + k * 67 + 2 + 48, none⟩) 16 16) rfl (by kernel_rfl) (by kernel_rfl) (by kernel_rfl) (fun _ _ _ h => h) (Or.inl ⟨by rfl, by intro w9 hS; go_simp; try (first | rfl | decide)⟩) S6.out ?_
                            try simp only [List.getElem_toArray, List.getElem_cons_succ, List.getElem_cons_zero, Act.put, List.setIfInBounds_toArray, List.set_cons_succ, List.set_cons_zero]
                            refine wpAnyH_take (i := 22) (v := .string ⟨(quarter z.b 48).toArray⟩) rfl (by kernel_rfl) (by kernel_rfl) (by kernel_rfl) (fun _ _ _ h => h) (yieldsIf_conv rfl (.tmp 178) rfl (some ⟨lb, lf + k * 67 + 2 + 48, none⟩) 16 (quarter z.b 48) (quarter_len hz.out.1 3 (by decide)) rfl (fun w9 hS => at_quarter (CB.out w9 (HQ6.out.1.2.1.trans (hS.mono HQ6.out.1.2.1.size))) 48 (by rw [hz.out.1]; decide))) S6.out ?_
                            try simp only [List.getElem_toArray, List.getElem_cons_succ, List.getElem_cons_zero, Act.put, List.setIfInBounds_toArray, List.set_cons_succ, List.set_cons_zero]
                            refine wpAnyH_take (i := 23) (v := .bool (quarter rb 48 == quarter z.b 48)) rfl (by kernel_rfl) (by kernel_rfl) (by kernel_rfl) (fun _ _ _ h => h) (Or.inl ⟨by rfl, by intro w9 hS; go_simp; try (first | rfl | decide)⟩) S6.out ?_
                            try simp only [List.getElem_toArray, List.getElem_cons_succ, List.getElem_cons_zero, Act.put, List.setIfInBounds_toArray, List.set_cons_succ, List.set_cons_zero]
                            refine wpAnyH_take (i := 24) (v := .bool (quarter rb 48 == quarter z.b 48)) rfl (by kernel_rfl) (by kernel_rfl) (by kernel_rfl) (fun _ _ _ h => h) (Or.inl ⟨by rfl, by intro w9 hS; go_simp; try (first | rfl | decide)⟩) S6.out ?_
                            try simp only [List.getElem_toArray, List.getElem_cons_succ, List.getElem_cons_zero, Act.put, List.setIfInBounds_toArray, List.set_cons_succ, List.set_cons_zero]
                            refine wpAnyH_take (i := 25) (v := .bool (quarter rb 48 == quarter z.b 48)) rfl (by kernel_rfl) (by kernel_rfl) (by kernel_rfl) (fun _ _ _ h => h) (Or.inl ⟨by rfl, by intro w9 hS; go_simp; try (first | rfl | decide)⟩) S6.out ?_
                            try simp only [List.getElem_toArray, List.getElem_cons_succ, List.getElem_cons_zero, Act.put, List.setIfInBounds_toArray, List.set_cons_succ, List.set_cons_zero]
                            refine wpAnyH_done (by kernel_rfl) ?_ _
                            go_wp2
                            go_roundw
                            case rel =>
                              refine ⟨k + 1, (quarter rb 48 == quarter z.b 48), by omega, by omega, rfl, by go_num, HQ6.out.below S6.out, fun hf => ⟨(HNO.out (by trivial)).1, fun j hj => ?_⟩⟩
                              rcases Nat.lt_or_ge j k with h | h
                              · exact (HNO.out (by trivial)).2 j h
                              · obtain rfl : j = k := by omega
                                rintro ⟨h1, h2, h3⟩
                                rw [HZZ.out] at h2 h3
                                rw [h3] at hf
                                simp at hf
                            case measure => simp [intOf]; omega
                          · have HE := Lib.hid (show ((z.n % 64 : Int) == (n : Int)) = false by simpa using hne)
                            have HNE := Lib.hid hne
                            clear hne
                            go_wp2_with fail
                            refine wp_region_held (S := fun w9 => Below wr.heap.size wr w9) hmix ?_
                            change wpAnyH _ _ _ _ _ _ _ _ (World.drew wr)
                            have S6 := Lib.hid (Below.refl wr.heap.size wr).drew
                            generalize World.drew wr = w6 at S6 ⊢
                            refine wpAnyH_take (i := 0) (v := .slice (some ⟨lb, lf, none⟩) l1.length c1) rfl (by kernel_rfl) (by kernel_rfl) (by kernel_rfl) (fun _ _ _ h => h) (Or.inl ⟨by rfl, by intro w9 hS; go_simp⟩) S6.out ?_
                            try simp only [List.getElem_toArray, List.getElem_cons_succ, List.getElem_cons_zero, Act.put, List.setIfInBounds_toArray, List.set_cons_succ, List.set_cons_zero]
                            refine wpAnyH_take (i := 1) (v := .int .i64 (k : Int)) rfl (by kernel_rfl) (by kernel_rfl) (by kernel_rfl) (fun _ _ _ h => h) (Or.inl ⟨by rfl, by intro w9 hS; go_simp⟩) S6.out ?_
                            try simp only [List.getElem_toArray, List.getElem_cons_succ, List.getElem_cons_zero, Act.put, List.setIfInBounds_toArray, List.set_cons_succ, List.set_cons_zero]
                            refine wpAnyH_take (i := 2) (v := .pointer (some ⟨lb, lf + k * 67, none⟩)) rfl (by kernel_rfl) (by kernel_rfl) (by kernel_rfl) (fun _ _ _ h => h) (Or.inl ⟨by rfl, by intro w9 hS; go_simp⟩) S6.out ?_
                            try simp only [List.getElem_toArray, List.getElem_cons_succ, List.getElem_cons_zero, Act.put, List.setIfInBounds_toArray, List.set_cons_succ, List.set_cons_zero]
                            refine wpAnyH_take (i := 3) (v := .pointer (some ⟨lb, lf + k * 67 + 1, none⟩)) rfl (by kernel_rfl) (by kernel_rfl) (by kernel_rfl) (fun _ _ _ h => h) (Or.inl ⟨by rfl, by intro w9 hS; go_simp⟩) S6.out ?_
                            try simp only [List.getElem_toArray, List.getElem_cons_succ, List.getElem_cons_zero, Act.put, List.setIfInBounds_toArray, List.set_cons_succ, List.set_cons_zero]
                            refine wpAnyH_take (i := 4) (v := .int .i64 z.n) rfl (by kernel_rfl) (by kernel_rfl) (by kernel_rfl) (fun _ _ _ h => h) (Or.inl ⟨by rfl, by intro w9 hS; have cc := CN.out w9 (HQ6.out.1.2.1.trans (hS.mono HQ6.out.1.2.1.size)); go_simp⟩) S6.out ?_
                            try simp only [List.getElem_toArray, List.getElem_cons_succ, List.getElem_cons_zero, Act.put, List.setIfInBounds_toArray, List.set_cons_succ, List.set_cons_zero]
                            refine wpAnyH_take (i := 5) (v := .int .i64 (z.n % 64)) rfl (by kernel_rfl) (by kernel_rfl) (by kernel_rfl) (fun _ _ _ h => h) (Or.inl ⟨by rfl, by intro w9 hS; have cc := i64_and63 z.n; go_simp⟩) S6.out ?_
                            try simp only [List.getElem_toArray, List.getElem_cons_succ, List.getElem_cons_zero, Act.put, List.setIfInBounds_toArray, List.set_cons_succ, List.set_cons_zero]
                            refine wpAnyH_take (i := 6) (v := .int .i64 (n : Int)) rfl (by kernel_rfl) (by kernel_rfl) (by kernel_rfl) (fun _ _ _ h => h) (Or.inl ⟨by rfl, by intro w9 hS; go_simp⟩) S6.out ?_
                            try simp only [List.getElem_toArray, List.getElem_cons_succ, List.getElem_cons_zero, Act.put, List.setIfInBounds_toArray, List.set_cons_succ, List.set_cons_zero]
                            refine wpAnyH_take (i := 7) (v := .bool false) rfl (by kernel_rfl) (by kernel_rfl) (by kernel_rfl) (fun _ _ _ h => h) (Or.inl ⟨by rfl, by intro w9 hS; have cc := HE.out; go_simp⟩) S6.out ?_
                            try simp only [List.getElem_toArray, List.getElem_cons_succ, List.getElem_cons_zero, Act.put, List.setIfInBounds_toArray, List.set_cons_succ, List.set_cons_zero]
                            refine wpAnyH_take (i := 8) (v := .bool false) rfl (by kernel_rfl) (by kernel_rfl) (by kernel_rfl) (fun _ _ _ h => h) (Or.inl ⟨by rfl, by intro w9 hS; go_simp⟩) S6.out ?_
                            try simp only [List.getElem_toArray, List.getElem_cons_succ, List.getElem_cons_zero, Act.put, List.setIfInBounds_toArray, List.set_cons_succ, List.set_cons_zero]
                            refine wpAnyH_take (i := 9) (v := undef) rfl (by kernel_rfl) (by kernel_rfl) (by kernel_rfl) (fun _ _ _ h => h) (Or.inr ⟨by rfl, rfl⟩) S6.out ?_
                            try simp only [List.getElem_toArray, List.getElem_cons_succ, List.getElem_cons_zero, Act.put, List.setIfInBounds_toArray, List.set_cons_succ, List.set_cons_zero]
                            refine wpAnyH_take (i := 10) (v := undef) rfl (by kernel_rfl) (by kernel_rfl) (by kernel_rfl) (fun _ _ _ h => h) (Or.inr ⟨by rfl, rfl⟩) S6.out ?_
                            try simp only [List.getElem_toArray, List.getElem_cons_succ, List.getElem_cons_zero, Act.put, List.setIfInBounds_toArray, List.set_cons_succ, List.set_cons_zero]
                            refine wpAnyH_take (i := 11) (v := undef) rfl (by kernel_rfl) (by kernel_rfl) (by kernel_rfl) (fun _ _ _ h => h) (Or.inr ⟨by rfl, rfl⟩) S6.out ?_
                            try simp only [List.getElem_toArray, List.getElem_cons_succ, List.getElem_cons_zero, Act.put, List.setIfInBounds_toArray, List.set_cons_succ, List.set_cons_zero]
                            refine wpAnyH_take (i := 12) (v := undef) rfl (by kernel_rfl) (by kernel_rfl) (by kernel_rfl) (fun _ _ _ h => h) (Or.inr ⟨by rfl, rfl⟩) S6.out ?_
                            try simp only [List.getElem_toArray, List.getElem_cons_succ, List.getElem_cons_zero, Act.put, List.setIfInBounds_toArray, List.set_cons_succ, List.set_cons_zero]
                            refine wpAnyH_take (i := 13) (v := undef) rfl (by kernel_rfl) (by kernel_rfl) (by kernel_rfl) (fun _ _ _ h => h) (Or.inr ⟨by rfl, rfl⟩) S6.out ?_
                            try simp only [List.getElem_toArray, List.getElem_cons_succ, List.getElem_cons_zero, Act.put, List.setIfInBounds_toArray, List.set_cons_succ, List.set_cons_zero]
                            refine wpAnyH_take (i := 14) (v := undef) rfl (by kernel_rfl) (by kernel_rfl) (by kernel_rfl) (fun _ _ _ h => h) (Or.inr ⟨by rfl, rfl⟩) S6.out ?_
                            try simp only [List.getElem_toArray, List.getElem_cons_succ, List.getElem_cons_zero, Act.put, List.setIfInBounds_toArray, List.set_cons_succ, List.set_cons_zero]
                            refine wpAnyH_take (i := 15) (v := undef) rfl (by kernel_rfl) (by kernel_rfl) (by kernel_rfl) (fun _ _ _ h => h) (Or.inr ⟨by rfl, rfl⟩) S6.out ?_
                            try simp only [List.getElem_toArray, List.getElem_cons_succ, List.getElem_cons_zero, Act.put, List.setIfInBounds_toArray, List.set_cons_succ, List.set_cons_zero]
                            refine wpAnyH_take (i := 16) (v := undef) rfl (by kernel_rfl) (by kernel_rfl) (by kernel_rfl) (fun _ _ _ h => h) (Or.inr ⟨by rfl, rfl⟩) S6.out ?_
                            try simp only [List.getElem_toArray, List.getElem_cons_succ, List.getElem_cons_zero, Act.put, List.setIfInBounds_toArray, List.set_cons_succ, List.set_cons_zero]
                            refine wpAnyH_take (i := 17) (v := undef) rfl (by kernel_rfl) (by kernel_rfl) (by kernel_rfl) (fun _ _ _ h => h) (Or.inr ⟨by rfl, rfl⟩) S6.out ?_
                            try simp only [List.getElem_toArray, List.getElem_cons_succ, List.getElem_cons_zero, Act.put, List.setIfInBounds_toArray, List.set_cons_succ, List.set_cons_zero]
                            refine wpAnyH_take (i := 18) (v := undef) rfl (by kernel_rfl) (by kernel_rfl) (by kernel_rfl) (fun _ _ _ h => h) (Or.inr ⟨by rfl, rfl⟩) S6.out ?_
                            try simp only [List.getElem_toArray, List.getElem_cons_succ, List.getElem_cons_zero, Act.put, List.setIfInBounds_toArray, List.set_cons_succ, List.set_cons_zero]
                            refine wpAnyH_take (i := 19) (v := undef) rfl (by kernel_rfl) (by kernel_rfl) (by kernel_rfl) (fun _ _ _ h => h) (Or.inr ⟨by rfl, rfl⟩) S6.out ?_
                            try simp only [List.getElem_toArray, List.getElem_cons_succ, List.getElem_cons_zero, Act.put, List.setIfInBounds_toArray, List.set_cons_succ, List.set_cons_zero]
                            refine wpAnyH_take (i := 20) (v := undef) rfl (by kernel_rfl) (by kernel_rfl) (by kernel_rfl) (fun _ _ _ h => h) (Or.inr ⟨by rfl, rfl⟩) S6.out ?_
                            try simp only [List.getElem_toArray, List.getElem_cons_succ, List.getElem_cons_zero, Act.put, List.setIfInBounds_toArray, List.set_cons_succ, List.set_cons_zero]
                            refine wpAnyH_take (i := 21) (v := undef) rfl (by kernel_rfl) (by kernel_rfl) (by kernel_rfl) (fun _ _ _ h => h) (Or.inr ⟨by rfl, rfl⟩) S6.out ?_
                            try simp only [List.getElem_toArray, List.getElem_cons_succ, List.getElem_cons_zero, Act.put, List.setIfInBounds_toArray, List.set_cons_succ, List.set_cons_zero]
                            refine wpAnyH_take (i := 22) (v := undef) rfl (by kernel_rfl) (by kernel_rfl) (by kernel_rfl) (fun _ _ _ h => h) (Or.inr ⟨by rfl, rfl⟩) S6.out ?_
                            try simp only [List.getElem_toArray, List.getElem_cons_succ, List.getElem_cons_zero, Act.put, List.setIfInBounds_toArray, List.set_cons_succ, List.set_cons_zero]
                            refine wpAnyH_take (i := 23) (v := undef) rfl (by kernel_rfl) (by kernel_rfl) (by kernel_rfl) (fun _ _ _ h => h) (Or.inr ⟨by rfl, rfl⟩) S6.out ?_
                            try simp only [List.getElem_toArray, List.getElem_cons_succ, List.getElem_cons_zero, Act.put, List.setIfInBounds_toArray, List.set_cons_succ, List.set_cons_zero]
                            refine wpAnyH_take (i := 24) (v := .bool false) rfl (by kernel_rfl) (by kernel_rfl) (by kernel_rfl) (fun _ _ _ h => h) (Or.inl ⟨by rfl, by intro w9 hS; go_simp⟩) S6.out ?_
                            try simp only [List.getElem_toArray, List.getElem_cons_succ, List.getElem_cons_zero, Act.put, List.setIfInBounds_toArray, List.set_cons_succ, List.set_cons_zero]
                            refine wpAnyH_take (i := 25) (v := .bool false) rfl (by kernel_rfl) (by kernel_rfl) (by kernel_rfl) (fun _ _ _ h => h) (Or.inl ⟨by rfl, by intro w9 hS; go_simp⟩) S6.out ?_
                            try simp only [List.getElem_toArray, List.getElem_cons_succ, List.getElem_cons_zero, Act.put, List.setIfInBounds_toArray, List.set_cons_succ, List.set_cons_zero]
                            refine wpAnyH_done (by kernel_rfl) ?_ _
                            go_wp2
                            go_roundw
                            case rel =>
                              refine ⟨k + 1, false, by omega, by omega, rfl, by go_num, HQ6.out.below S6.out, fun hf => ⟨(HNO.out (by trivial)).1, fun j hj => ?_⟩⟩
                              rcases Nat.lt_or_ge j k with h | h
                              · exact (HNO.out (by trivial)).2 j h
                              · obtain rfl : j = k := by omega
                                rintro ⟨h1, h2, h3⟩
                                rw [HZZ.out] at h2 h3
                                exact HNE.out h2
                            case measure => simp [intOf]; omega
                        · go_wp2_with fail
                          go_roundw
                          case rel => exact ⟨4, .inr (.inr (.inr (.inr ⟨rfl, rfl⟩))), HQ6.out⟩
                          case measure => simp [intOf]
                      · have lt2 : decide ((k : Int) < 40) = false := by simp; omega
                        have lt3 : (40 : Int) ≤ (k : Int) := by omega
                        obtain rfl : is = true := by
                          cases is
                          · exfalso
                            obtain ⟨h1, h2⟩ := HNO.out rfl
                            rcases ALL.out with h | ⟨i, hi, hik, h3, h4⟩
                            · exact h1 h
                            · exact h2 i (by have := HKC.out; omega) ⟨hi, h3, h4⟩
                          · rfl
                        go_wp2_with fail
                        go_roundw
                        case rel => exact ⟨4, .inr (.inr (.inr (.inr ⟨rfl, rfl⟩))), HQ6.out⟩
                        case measure => simp [intOf]
                    · have lt1 : decide ((k : Int) < (l1.length : Int)) = false := by simp; omega
                      have lt3 : (l1.length : Int) ≤ (k : Int) := by omega
                      obtain rfl : is = true := by
                        cases is
                        · exfalso
                          obtain ⟨h1, h2⟩ := HNO.out rfl
                          rcases ALL.out with h | ⟨i, hi, hik, h3, h4⟩
                          · exact h1 h
                          · exact h2 i (by omega) ⟨hi, h3, h4⟩
                        · rfl
                      go_wp2_with fail
                      go_roundw
                      case rel => exact ⟨4, .inr (.inr (.inr (.inr ⟨rfl, rfl⟩))), HQ6.out⟩
                      case measure => simp [intOf]
                · go_wp2_with fail
                  go_roundw
                  case rel => exact ⟨n + 1, by omega, by go_num, HQ5.out.1⟩
                  case measure => simp [intOf]; omega
            · obtain rfl : n = 64 := by omega
              go_wp2_with fail
              refine (lives_any _).mono ?_
              rintro e w5 ⟨rfl, hb5⟩
              have B5 := Lib.hid (HQ.out.2.1.trans (hb5.mono HQ.out.2.1.size))
              clear hb5
              go_wp2_with fail
              go_ret
              exact ⟨rfl, B5.out⟩

end Go.Proofs.Ytnhbhfnpcbmjkaa
