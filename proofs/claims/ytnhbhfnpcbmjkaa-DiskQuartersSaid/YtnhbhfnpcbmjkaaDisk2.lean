/- A disk's methods that tell, and those that turn its own cells alone: Arm, Dark, Steps, Loose, Blocks, emptyQueue, New, Sure, Read. -/
import Derived.Test.YtnhbhfnpcbmjkaaDisk1
import Derived.Carry
namespace Go.Proofs.Ytnhbhfnpcbmjkaa
open Go.RowKit Go.Shelf Go.Maps
set_option linter.unusedVariables false

theorem Arm_none (a : Option Addr) (k : Int) (w : World) (h : Calls Try.prog 24 #[.pointer a] w fun e w' => e = .returned (.bool true) ∧ w = w') : Calls Try.prog 16 #[.pointer a, .int .i64 k] w fun e w' => e = .returned (.int .i64 1) ∧ w = w' := by
  have hr := refused_none a w h
  clear h
  go_enter Try.func16, Try.ntmps16
  go_wp2_with fail
  refine hr.mono ?_
  clear hr
  rintro e _ ⟨rfl, rfl⟩
  go_wp2
  go_ret
  exact ⟨rfl, rfl⟩
theorem Dark_none (a : Option Addr) (w : World) (h : Calls Try.prog 24 #[.pointer a] w fun e w' => e = .returned (.bool true) ∧ w = w') : Calls Try.prog 17 #[.pointer a] w fun e w' => e = .returned (.bool false) ∧ w = w' := by
  go_enter Try.func17, Try.ntmps17
  go_wp2_with fail
  refine h.mono ?_
  clear h
  rintro e _ ⟨rfl, rfl⟩
  go_wp2
  go_ret
  exact ⟨rfl, rfl⟩
theorem Steps_none (a : Option Addr) (w : World) (h : Calls Try.prog 24 #[.pointer a] w fun e w' => e = .returned (.bool true) ∧ w = w') : Calls Try.prog 18 #[.pointer a] w fun e w' => e = .returned (.int .i64 0) ∧ w = w' := by
  go_enter Try.func18, Try.ntmps18
  go_wp2_with fail
  refine h.mono ?_
  clear h
  rintro e _ ⟨rfl, rfl⟩
  go_wp2
  go_ret
  exact ⟨rfl, rfl⟩
theorem Loose_none (a : Option Addr) (w : World) (h : Calls Try.prog 24 #[.pointer a] w fun e w' => e = .returned (.bool true) ∧ w = w') : Calls Try.prog 10 #[.pointer a] w fun e w' => e = .returned (.int .i64 0) ∧ w = w' := by
  go_enter Try.func10, Try.ntmps10
  go_wp2_with fail
  refine h.mono ?_
  clear h
  rintro e _ ⟨rfl, rfl⟩
  go_wp2
  go_ret
  exact ⟨rfl, rfl⟩
theorem Blocks_none (a : Option Addr) (w : World) (h : Calls Try.prog 24 #[.pointer a] w fun e w' => e = .returned (.bool true) ∧ w = w') : Calls Try.prog 19 #[.pointer a] w fun e w' => e = .returned (.int .i64 0) ∧ w = w' := by
  go_enter Try.func19, Try.ntmps19
  go_wp2_with fail
  refine h.mono ?_
  clear h
  rintro e _ ⟨rfl, rfl⟩
  go_wp2
  go_ret
  exact ⟨rfl, rfl⟩
theorem Copy_none (a : Option Addr) (w : World) (h : Calls Try.prog 24 #[.pointer a] w fun e w' => e = .returned (.bool true) ∧ w = w') : Calls Try.prog 15 #[.pointer a] w fun e w' => e = .returned (.pointer none) ∧ w = w' := by
  go_enter Try.func15, Try.ntmps15
  go_wp2_with fail
  refine h.mono ?_
  clear h
  rintro e _ ⟨rfl, rfl⟩
  go_wp2
  go_ret
  exact ⟨rfl, rfl⟩
theorem Flush_none (a : Option Addr) (w : World) (h : Calls Try.prog 24 #[.pointer a] w fun e w' => e = .returned (.bool true) ∧ w = w') : Calls Try.prog 9 #[.pointer a] w fun e w' => e = .returned (.int .i64 1) ∧ w = w' := by
  have hr := refused_none a w h
  clear h
  go_enter Try.func9, Try.ntmps9
  go_wp2_with fail
  refine hr.mono ?_
  clear hr
  rintro e _ ⟨rfl, rfl⟩
  go_wp2
  go_ret
  exact ⟨rfl, rfl⟩
theorem Crash_none (a : Option Addr) (A : Option Addr) (n c : Nat) (w : World) (h : Calls Try.prog 24 #[.pointer a] w fun e w' => e = .returned (.bool true) ∧ w = w') : Calls Try.prog 12 #[.pointer a, .slice A n c] w fun e w' => e = .returned (.int .i64 1) ∧ w = w' := by
  go_enter Try.func12, Try.ntmps12
  go_wp2_with fail
  refine h.mono ?_
  clear h
  rintro e _ ⟨rfl, rfl⟩
  go_wp2
  go_ret
  exact ⟨rfl, rfl⟩
theorem Write_none (a : Option Addr) (k : Int) (l : Blk) (w : World) (h : ∀ w', (∃ o, w' = w.alloc o) → Calls Try.prog 24 #[.pointer a] w' fun e w'' => e = .returned (.bool true) ∧ w' = w'') : Calls Try.prog 8 #[.pointer a, .int .i64 k, bv l] w fun e w' => e = .returned (.int .i64 1) ∧ Below w.heap.size w w' := by
  have hr := refused_none a _ (h _ ⟨.cells (cellsOf l).toArray 30, rfl⟩)
  clear h
  go_enter Try.func8, Try.ntmps8
  go_wp2_with (with_reducible refine wpList_box_agg rfl 30 (.tmp 2) rfl (cellsOf l) rfl ?_)
  refine hr.mono ?_
  clear hr
  rintro e _ ⟨rfl, rfl⟩
  go_wp2
  go_ret
  exact ⟨rfl, (Below.refl _ _).alloc (Nat.le_refl _) _⟩
theorem Arm_disk {w : World} {p : DP} {s : DS} (h : DiskAt w p s) (k : Int) (hk : k < 9223372036854775808) :
    Calls Try.prog 16 #[.pointer (some ⟨p.db, 0, none⟩), .int .i64 k] w fun e w' => DPost w p (if s.dark = true ∨ k < 0 then s else armed s k.toNat) (.int .i64 (if s.dark = true then 9 else if k < 0 then 2 else 0)) e w' := by
  have hr := refused_disk h
  have f5 := h.cells.frozen 5
  have c5 := h.at.2.2.2.2.2.1
  have H := Lib.hid h
  clear h
  obtain ⟨b, hb⟩ : ∃ b, s.dark = b := ⟨_, rfl⟩
  rw [hb] at hr ⊢
  cases b
  · by_cases h0 : k < 0
    · rw [if_pos (.inr h0), if_neg (by decide), if_pos h0]
      rw [if_neg (by decide)] at hr
      go_enter Try.func16, Try.ntmps16
      go_wp2_with fail
      refine hr.mono ?_
      clear hr
      rintro e _ ⟨rfl, rfl⟩
      go_wp2
      go_ret
      exact DPost.same H.out _
    · rw [if_neg (by rintro (h | h); cases h; exact h0 h), if_neg (by decide), if_neg h0]
      rw [if_neg (by decide)] at hr
      have h0' : decide (k < 0) = false := by simp; omega
      have HK := Lib.hid h0
      have HT := Lib.hid hk
      clear h0 hk
      go_enter Try.func16, Try.ntmps16
      go_wp2_with fail
      refine hr.mono ?_
      clear hr
      rintro e _ ⟨rfl, rfl⟩
      go_wp2
      go_ret
      refine DPost.set H.out (turn_set _ _ _ _) ?_ rfl rfl rfl rfl H.out.stp ?_
      · rw [show dcells p (armed s k.toNat) = (dcells p s).setIfInBounds 5 (.int .i64 k) from by
          simp [dcells, armed]; have := HK.out; omega]
        exact H.out.cells.set 5 _
      · show k.toNat < _
        have := HK.out; have := HT.out; omega
  · rw [if_pos (.inl rfl), if_pos rfl]
    rw [if_pos rfl] at hr
    go_enter Try.func16, Try.ntmps16
    go_wp2_with fail
    refine hr.mono ?_
    clear hr
    rintro e _ ⟨rfl, rfl⟩
    go_wp2
    go_ret
    exact DPost.same H.out _
theorem Dark_disk {w : World} {p : DP} {s : DS} (h : DiskAt w p s) : Calls Try.prog 17 #[.pointer (some ⟨p.db, 0, none⟩)] w fun e w' => e = .returned (.bool s.dark) ∧ w = w' := by
  have hn := isNone_disk h
  have h6 := h.at.2.2.2.2.2.2
  clear h
  go_enter Try.func17, Try.ntmps17
  go_wp2_with fail
  refine hn.mono ?_
  clear hn
  rintro e _ ⟨rfl, rfl⟩
  go_wp2
  go_ret
  exact ⟨rfl, rfl⟩
theorem Steps_disk {w : World} {p : DP} {s : DS} (h : DiskAt w p s) : Calls Try.prog 18 #[.pointer (some ⟨p.db, 0, none⟩)] w fun e w' => e = .returned (.int .i64 (s.steps : Int)) ∧ w = w' := by
  have hn := isNone_disk h
  have h6 := h.at.2.2.2.2.1
  clear h
  go_enter Try.func18, Try.ntmps18
  go_wp2_with fail
  refine hn.mono ?_
  clear hn
  rintro e _ ⟨rfl, rfl⟩
  go_wp2
  go_ret
  exact ⟨rfl, rfl⟩
theorem Blocks_disk {w : World} {p : DP} {s : DS} (h : DiskAt w p s) : Calls Try.prog 19 #[.pointer (some ⟨p.db, 0, none⟩)] w fun e w' => e = .returned (.int .i64 (s.blocks : Int)) ∧ w = w' := by
  have hn := isNone_disk h
  have h6 := h.at.1
  clear h
  go_enter Try.func19, Try.ntmps19
  go_wp2_with fail
  refine hn.mono ?_
  clear hn
  rintro e _ ⟨rfl, rfl⟩
  go_wp2
  go_ret
  exact ⟨rfl, rfl⟩
theorem Loose_disk {w : World} {p : DP} {s : DS} (h : DiskAt w p s) : Calls Try.prog 10 #[.pointer (some ⟨p.db, 0, none⟩)] w fun e w' => e = .returned (.int .i64 (s.q.length : Int)) ∧ w = w' := by
  have hn := isNone_disk h
  have h6 := h.at.2.2.2.1
  clear h
  go_enter Try.func10, Try.ntmps10
  go_wp2_with fail
  refine hn.mono ?_
  clear hn
  rintro e _ ⟨rfl, rfl⟩
  go_wp2
  go_ret
  exact ⟨rfl, rfl⟩
def emptied (s : DS) : DS := { s with q := [], young := none' }
theorem emptyQueue_disk {w : World} {p : DP} {s : DS} (h : DiskAt w p s) : Calls Try.prog 23 #[.pointer (some ⟨p.db, 0, none⟩)] w fun e w' =>
    e = .returned (.tuple #[]) ∧ DiskAt w' ⟨p.db, p.lb, w.heap.size, none, 0⟩ (emptied s) ∧ Turn w w' (· = p.db) := by
  have hmm := @run_makeMap Try.prog
  have f2 := h.cells.frozen 2
  have f3 := h.cells.frozen 3
  have c2 := h.at.2.2.1
  have c3 := h.at.2.2.2.1
  have hlt := h.cells.lt
  have H := Lib.hid h
  clear h
  go_enter Try.func23, Try.ntmps23
  go_wp2
  go_end0
  have hD := H.out
  generalize hw1 : w.setCell ⟨p.db, 3, none⟩ (.slice none 0 0) = w1
  have hs1 : w1.heap.size = w.heap.size := by rw [← hw1]; simp [World.setCell]
  have t1 : Turn w w1 (· = p.db) := by rw [← hw1]; exact turn_set _ _ _ _
  have k1 : Cs w1 p.db 49 ((dcells p s).setIfInBounds 3 (.slice none 0 0)) := by rw [← hw1]; exact hD.cells.set 3 _
  have k2 := k1.set 2 (.map (some w.heap.size))
  have t2 := turn_set w1 p.db 2 (.map (some w.heap.size))
  have hs2 : (w1.setCell ⟨p.db, 2, none⟩ (.map (some w.heap.size))).heap.size = w1.heap.size := by simp [World.setCell]
  generalize w1.setCell ⟨p.db, 2, none⟩ (.map (some w.heap.size)) = w2 at *
  have t3 := Turn.alloc w2 (.map #[] 0) (· = p.db)
  have m3 := MapIs.new w2 s.blocks
  have k3 := k2.alloc (.map #[] 0)
  rw [hs2, hs1] at m3
  generalize w2.alloc (.map #[] 0) = w3 at *
  have tt : Turn w w3 (· = p.db) := (t1.trans t2 (fun _ _ e => e)).trans t3 (fun _ _ e => e)
  refine ⟨rfl, ⟨?_, hD.laid.turn tt (hD.laid.ne_cs hD.cells), m3, ?_, World.ownsRow_nil _ _ _ _, hD.lo, hD.hi, by simp [emptied], hD.stp, hD.lft⟩, tt⟩
  · rw [show dcells ⟨p.db, p.lb, w.heap.size, none, 0⟩ (emptied s) = ((dcells p s).setIfInBounds 3 (.slice none 0 0)).setIfInBounds 2 (.map (some w.heap.size)) from by simp [dcells, emptied]]
    exact k3
  · have := hD.laid.lt
    show p.lb ≠ w.heap.size
    omega

theorem New_few (n : Int) (w : World) (h : n < 64 ∨ 16384 < n) : Calls Try.prog 7 #[.int .i64 n] w fun e w' => e = .returned (.tuple #[.pointer none, .int .i64 2]) ∧ w = w' := by
  rcases h with h | h
  · go_enter Try.func7, Try.ntmps7
    go_wp2
    go_ret2
    exact ⟨rfl, rfl⟩
  · have h0 : decide (n < 64) = false := by simp; omega
    go_enter Try.func7, Try.ntmps7
    go_wp2
    go_ret2
    exact ⟨rfl, rfl⟩
/-- where New lays a disk -/
def newAt (w : World) : DP := ⟨w.heap.size + 2, w.heap.size, w.heap.size + 1, none, 0⟩
theorem New_disk (n : Nat) (w : World) (h0 : 64 ≤ n) (h1 : n ≤ 16384) : Calls Try.prog 7 #[.int .i64 (n : Int)] w fun e w' => e = .returned (.tuple #[.pointer (some ⟨w.heap.size + 2, 0, none⟩), .int .i64 0]) ∧ DiskAt w' (newAt w) (fresh n) ∧ Below w.heap.size w w' := by
  have hmm := @run_makeMap Try.prog
  have h2 : (64 : Int) ≤ n := by omega
  have h3 : (n : Int) ≤ 16384 := by omega
  have H0 := Lib.hid h0
  have H1 := Lib.hid h1
  clear h0 h1
  go_enter Try.func7, Try.ntmps7
  go_wp2
  go_ret2
  have m1 := MapIs.new w n
  have hb1 := (Below.refl w.heap.size w).alloc (Nat.le_refl _) (.map #[] 0)
  have e1 : (w.alloc (.map #[] 0)).heap.size = w.heap.size + 1 := by simp
  generalize w.alloc (.map #[] 0) = w1 at *
  have m2 := MapIs.new w1 n
  have hb2 := (Below.refl w1.heap.size w1).alloc (Nat.le_refl _) (.map #[] 0)
  have e2 : (w1.alloc (.map #[] 0)).heap.size = w1.heap.size + 1 := by simp
  generalize w1.alloc (.map #[] 0) = w2 at *
  have hb3 := fun cs => (Below.refl w2.heap.size w2).alloc (Nat.le_refl _) (.cells cs 49)
  have k3 := fun cs => Cs.new w2 49 cs
  rw [e1] at m2 e2
  refine ⟨rfl, ⟨?_, (m1.turn (Turn.of_below hb2 fun _ => False) (fun h => h)).turn (Turn.of_below (hb3 _) fun _ => False) (fun h => h), m2.turn (Turn.of_below (hb3 _) fun _ => False) (fun h => h), ?_, World.ownsRow_nil _ _ _ _, H0.out, H1.out, by simp [fresh], by show (0 : Nat) < _; decide, by show (0 : Nat) < _; decide⟩, ?_⟩
  · have := k3 (dcells (newAt w) (fresh n))
    rw [e2] at this
    exact this
  · show w.heap.size ≠ w.heap.size + 1
    omega
  · exact (hb1.trans (hb2.mono (by omega))).trans ((hb3 _).mono (by omega))

/-- what Sure and Read tell -/
def inB (s : DS) (k : Int) : Bool := decide (0 ≤ k ∧ k < (s.blocks : Int))
def sureV (s : DS) (k : Int) : Blk := if inB s k then tell s.laid k else zb
def sureE (s : DS) (k : Int) : Int := if inB s k then 0 else 2
set_option maxHeartbeats 1000000 in
theorem Sure_disk {w : World} {p : DP} {s : DS} (h : DiskAt w p s) (k : Int) : Calls Try.prog 11 #[.pointer (some ⟨p.db, 0, none⟩), .int .i64 k] w fun e w' =>
    e = .returned (.tuple #[bv (sureV s k), .int .i64 (sureE s k)]) ∧ Below w.heap.size w w' := by
  have hb := (Below.refl w.heap.size w).alloc (Nat.le_refl _) (.cells (cellsOf zb).toArray 30)
  have H := Lib.hid (h.below hb)
  have HB := Lib.hid hb
  have hk := Lib.hid (Cs.new w 30 (cellsOf zb).toArray)
  have hn := isNone_disk H.out
  have hi := isBlock_disk H.out k
  have c1 := H.out.at.2.1
  clear h hb
  unfold sureV sureE inB
  by_cases hin : 0 ≤ k ∧ k < (s.blocks : Int)
  · rw [decide_eq_true hin] at hi ⊢
    rw [if_pos rfl, if_pos rfl]
    have HI := Lib.hid hin
    have hl := Lib.hid (tell_len H.out.laid k hin.1 (by have := H.out.hi; omega)).1
    clear hin
    go_enter Try.func11, Try.ntmps11
    go_wp2_with (with_reducible refine wpList_alloc_agg rfl 30 rfl (cellsOf zb) zero30 ?_)
    refine hn.mono ?_
    clear hn
    rintro e _ ⟨rfl, rfl⟩
    go_wp2_with fail
    refine hi.mono ?_
    clear hi
    rintro e _ ⟨rfl, rfl⟩
    go_wp2_with (first | (at_lookup; refine wpList_plain rfl fun K hK => wp_look _ _ rfl rfl k rfl H.out.laid HI.out.1 (by have := H.out.hi; have := HI.out.2; omega) (hK _ _ ?_)) | (with_reducible refine wpList_store_agg rfl 30 _ _ rfl _ 0 rfl (cellsOf (tell s.laid k)) rfl 30 (cellsOf zb).toArray hk.out (by simp [cellsOf_length, hl.out, zb_len]) (cellsOf_one _) (info30' _ hl.out) ?_))
    refine bodyPost_ret (v := .tuple #[bv (tell s.laid k), .int .i64 0]) ?_ rfl ⟨rfl, HB.out.grown (grown_row _ _ _) (by simp) (fun j e => by injection e with e; omega)⟩
    exact end_blk (p := 4) (u := 5) rfl _ _ w.heap.size 0 _ _ rfl rfl (At.whole (cs_fill hk.out _ zb_len hl.out)) hl.out
  · rw [decide_eq_false hin] at hi ⊢
    rw [if_neg (by decide), if_neg (by decide)]
    clear hin
    go_enter Try.func11, Try.ntmps11
    go_wp2_with (with_reducible refine wpList_alloc_agg rfl 30 rfl (cellsOf zb) zero30 ?_)
    refine hn.mono ?_
    clear hn
    rintro e _ ⟨rfl, rfl⟩
    go_wp2_with fail
    refine hi.mono ?_
    clear hi
    rintro e _ ⟨rfl, rfl⟩
    go_wp2_with (first | (with_reducible refine wpList_plain rfl fun K hK => wp_build_zero rfl (hK _ _ ?_)) | (with_reducible refine wpList_store_agg rfl 30 _ _ rfl _ 0 rfl (cellsOf zb) rfl 30 (cellsOf zb).toArray hk.out (fill_fits zb zb zb_len zb_len) (cellsOf_one _) (info30' _ zb_len) ?_))
    refine bodyPost_ret (v := .tuple #[bv zb, .int .i64 2]) ?_ rfl ⟨rfl, HB.out.grown (grown_row _ _ _) (by simp) (fun j e => by injection e with e; omega)⟩
    exact end_blk (p := 4) (u := 5) rfl _ _ w.heap.size 0 _ _ rfl rfl (At.whole (cs_fill hk.out _ zb_len zb_len)) zb_len
theorem Sure_none (a : Option Addr) (k : Int) (w : World) (h : ∀ w', (∃ o, w' = w.alloc o) → Calls Try.prog 24 #[.pointer a] w' fun e w'' => e = .returned (.bool true) ∧ w' = w'') : Calls Try.prog 11 #[.pointer a, .int .i64 k] w fun e w' =>
    e = .returned (.tuple #[bv zb, .int .i64 1]) ∧ Below w.heap.size w w' := by
  have hb := (Below.refl w.heap.size w).alloc (Nat.le_refl _) (.cells (cellsOf zb).toArray 30)
  have HB := Lib.hid hb
  have hk := Lib.hid (Cs.new w 30 (cellsOf zb).toArray)
  have hn := h _ ⟨.cells (cellsOf zb).toArray 30, rfl⟩
  clear h hb
  go_enter Try.func11, Try.ntmps11
  go_wp2_with (with_reducible refine wpList_alloc_agg rfl 30 rfl (cellsOf zb) zero30 ?_)
  refine hn.mono ?_
  clear hn
  rintro e _ ⟨rfl, rfl⟩
  go_wp2_with (first | (with_reducible refine wpList_plain rfl fun K hK => wp_build_zero rfl (hK _ _ ?_)) | (with_reducible refine wpList_store_agg rfl 30 _ _ rfl _ 0 rfl (cellsOf zb) rfl 30 (cellsOf zb).toArray hk.out (fill_fits zb zb zb_len zb_len) (cellsOf_one _) (info30' _ zb_len) ?_))
  refine bodyPost_ret (v := .tuple #[bv zb, .int .i64 1]) ?_ rfl ⟨rfl, HB.out.grown (grown_row _ _ _) (by simp) (fun j e => by injection e with e; omega)⟩
  exact end_blk (p := 4) (u := 5) rfl _ _ w.heap.size 0 _ _ rfl rfl (At.whole (cs_fill hk.out _ zb_len zb_len)) zb_len

theorem keep_own {w W W' : World} {g : Nat} (hb : Below w.heap.size w W) (hg : W.grownBy W' (some g)) (hl : w.heap.size ≤ g) : Below w.heap.size w W' := hb.grown hg hb.size (fun j e => by injection e with e; omega)
def readV (s : DS) (k : Int) : Blk := if s.dark = false ∧ inB s k = true then readN s k else zb
def readE (s : DS) (k : Int) : Int := if s.dark then 9 else if inB s k then 0 else 2
theorem Read_none (a : Option Addr) (k : Int) (w : World) (h : ∀ w', (∃ o, w' = w.alloc o) → Calls Try.prog 24 #[.pointer a] w' fun e w'' => e = .returned (.bool true) ∧ w' = w'') : Calls Try.prog 13 #[.pointer a, .int .i64 k] w fun e w' =>
    e = .returned (.tuple #[bv zb, .int .i64 1]) ∧ Below w.heap.size w w' := by
  have hb := (Below.refl w.heap.size w).alloc (Nat.le_refl _) (.cells (cellsOf zb).toArray 30)
  have HB := Lib.hid hb
  have hk := Lib.hid (Cs.new w 30 (cellsOf zb).toArray)
  have hn := refused_none a _ (h _ ⟨.cells (cellsOf zb).toArray 30, rfl⟩)
  clear h hb
  go_enter Try.func13, Try.ntmps13
  go_wp2_with (with_reducible refine wpList_alloc_agg rfl 30 rfl (cellsOf zb) zero30 ?_)
  refine hn.mono ?_
  clear hn
  rintro e _ ⟨rfl, rfl⟩
  go_wp2_with (first | (with_reducible refine wpList_plain rfl fun K hK => wp_build_zero rfl (hK _ _ ?_)) | (with_reducible refine wpList_store_agg rfl 30 _ _ rfl _ 0 rfl (cellsOf zb) rfl 30 (cellsOf zb).toArray hk.out (fill_fits zb zb zb_len zb_len) (cellsOf_one _) (info30' _ zb_len) ?_))
  refine bodyPost_ret (v := .tuple #[bv zb, .int .i64 1]) ?_ rfl ⟨rfl, HB.out.grown (grown_row _ _ _) (by simp) (fun j e => by injection e with e; omega)⟩
  exact end_blk (p := 4) (u := 5) rfl _ _ w.heap.size 0 _ _ rfl rfl (At.whole (cs_fill hk.out _ zb_len zb_len)) zb_len
set_option maxHeartbeats 1000000 in
theorem Read_disk {w : World} {p : DP} {s : DS} (h : DiskAt w p s) (k : Int) : Calls Try.prog 13 #[.pointer (some ⟨p.db, 0, none⟩), .int .i64 k] w fun e w' =>
    e = .returned (.tuple #[bv (readV s k), .int .i64 (readE s k)]) ∧ Below w.heap.size w w' := by
  have hb := (Below.refl w.heap.size w).alloc (Nat.le_refl _) (.cells (cellsOf zb).toArray 30)
  have H := Lib.hid (h.below hb)
  have HB := Lib.hid hb
  have hk := Lib.hid (Cs.new w 30 (cellsOf zb).toArray)
  have hn := refused_disk H.out
  have hi := isBlock_disk H.out k
  have c1 := H.out.at.2.1
  have c2 := H.out.at.2.2.1
  clear h hb
  cases hd : s.dark
  · rw [hd] at hn
    rw [if_neg (by decide)] at hn
    cases hin : inB s k
    · rw [show decide (0 ≤ k ∧ k < (s.blocks : Int)) = false from hin] at hi
      rw [show readV s k = zb from if_neg (fun h => by rw [hin] at h; cases h.2), show readE s k = 2 from by unfold readE; rw [hd, hin]; rfl]
      clear hin hd
      go_enter Try.func13, Try.ntmps13
      go_wp2_with (with_reducible refine wpList_alloc_agg rfl 30 rfl (cellsOf zb) zero30 ?_)
      refine hn.mono ?_
      clear hn
      rintro e _ ⟨rfl, rfl⟩
      go_wp2_with fail
      refine hi.mono ?_
      clear hi
      rintro e _ ⟨rfl, rfl⟩
      go_wp2_with (first | (with_reducible refine wpList_plain rfl fun K hK => wp_build_zero rfl (hK _ _ ?_)) | (with_reducible refine wpList_store_agg rfl 30 _ _ rfl _ 0 rfl (cellsOf zb) rfl 30 (cellsOf zb).toArray hk.out (fill_fits zb zb zb_len zb_len) (cellsOf_one _) (info30' _ zb_len) ?_))
      refine bodyPost_ret (v := .tuple #[bv zb, .int .i64 2]) ?_ rfl ⟨rfl, HB.out.grown (grown_row _ _ _) (by simp) (fun j e => by injection e with e; omega)⟩
      exact end_blk (p := 4) (u := 5) rfl _ _ w.heap.size 0 _ _ rfl rfl (At.whole (cs_fill hk.out _ zb_len zb_len)) zb_len
    · have hin' : 0 ≤ k ∧ k < (s.blocks : Int) := of_decide_eq_true hin
      rw [show decide (0 ≤ k ∧ k < (s.blocks : Int)) = true from hin] at hi
      rw [show readV s k = readN s k from if_pos ⟨hd, hin⟩, show readE s k = 0 from by unfold readE; rw [hd, hin]; rfl]
      clear hin hd
      have HI := Lib.hid hin'
      have hk16 := Lib.hid (show k < 16384 by have := H.out.hi; have := hin'.2; omega)
      clear hin'
      have hly := Lib.hid (tell_len H.out.young k HI.out.1 hk16.out)
      have hll := Lib.hid (tell_len H.out.laid k HI.out.1 hk16.out).1
      unfold readN
      cases hy : s.young k with
      | none =>
        have hyt := Lib.hid (show tell s.young k = zb by unfold tell; rw [hy]; rfl)
        have hyn := Lib.hid (show (s.young k).isSome = false by rw [hy]; rfl)
        clear hy
        go_enter Try.func13, Try.ntmps13
        go_wp2_with (with_reducible refine wpList_alloc_agg rfl 30 rfl (cellsOf zb) zero30 ?_)
        refine hn.mono ?_
        clear hn
        rintro e _ ⟨rfl, rfl⟩
        go_wp2_with fail
        refine hi.mono ?_
        clear hi
        rintro e _ ⟨rfl, rfl⟩
        go_wp2_with (first
          | (at_lookup; refine wpList_look_ok rfl _ _ rfl rfl k rfl H.out.young HI.out.1 hk16.out zb hyt.out false hyn.out ?_)
          | (at_lookup; refine wpList_look rfl _ _ rfl rfl k rfl H3.out.laid HI.out.1 hk16.out _ rfl ?_)
          | (refine wpList_alloc_blk rfl rfl ?_; intro g1 w2 hk2 hb2 hg2; have HB2 := Lib.hid (HB.out.trans (hb2.mono HB.out.size)); have hkr2 := Lib.hid (hk.out.below hb2 hk.out.lt); have H2 := Lib.hid (H.out.below hb2); clear hb2; go_frame)
          | (refine wpList_fill_blk rfl _ _ rfl g1 rfl zb rfl zb_len hk2 ?_; intro w3 hk3 hr3; have HK2 := Lib.hid hk2; clear hk2; have hkr := Lib.hid (hkr2.out.turn (Turn.of_grown hr3) (fun e => by injection e with e; have := hk.out.lt; omega)); have HB3 := Lib.hid (keep_own HB2.out hr3 (by have := HB.out.size; omega)); have H3 := Lib.hid (H2.out.turn (Turn.of_grown hr3) (fun k hk e => by injection e with e; have := foot_lt H.out k hk; omega)); clear hr3; have c31 := H3.out.at.2.1; go_frame)
          | (refine wpList_fill_blk rfl _ _ rfl w.heap.size rfl _ rfl hll.out hkr.out ?_; intro w4 hk4 hr4; go_frame))
        refine bodyPost_ret (v := .tuple #[bv (tell s.laid k), .int .i64 0]) ?_ rfl ⟨rfl, keep_own HB3.out hr4 (Nat.le_refl _)⟩
        exact end_blk (p := 4) (u := 5) rfl _ _ w.heap.size 0 _ _ rfl rfl (At.whole hk4) hll.out
      | some l =>
        have hl := Lib.hid (hly.out.2 l hy)
        have hyt := Lib.hid (show tell s.young k = l by unfold tell; rw [hy]; rfl)
        have hyn := Lib.hid (show (s.young k).isSome = true by rw [hy]; rfl)
        clear hy
        go_enter Try.func13, Try.ntmps13
        go_wp2_with (with_reducible refine wpList_alloc_agg rfl 30 rfl (cellsOf zb) zero30 ?_)
        refine hn.mono ?_
        clear hn
        rintro e _ ⟨rfl, rfl⟩
        go_wp2_with fail
        refine hi.mono ?_
        clear hi
        rintro e _ ⟨rfl, rfl⟩
        go_wp2_with (first
          | (at_lookup; refine wpList_look_ok rfl _ _ rfl rfl k rfl H.out.young HI.out.1 hk16.out l hyt.out true hyn.out ?_)
          | (refine wpList_alloc_blk rfl rfl ?_; intro g1 w2 hk2 hb2 hg2; have HB2 := Lib.hid (HB.out.trans (hb2.mono HB.out.size)); have hkr2 := Lib.hid (hk.out.below hb2 hk.out.lt); clear hb2; go_frame)
          | (refine wpList_fill_blk rfl _ _ rfl g1 rfl l rfl hl.out hk2 ?_; intro w3 hk3 hr3; have HK2 := Lib.hid hk2; clear hk2; have hkr := Lib.hid (hkr2.out.turn (Turn.of_grown hr3) (fun e => by injection e with e; have := hk.out.lt; omega)); have HB3 := Lib.hid (keep_own HB2.out hr3 (by have := HB.out.size; omega)); clear hr3; go_frame)
          | (refine wpList_load_blk rfl _ rfl g1 0 rfl l hl.out (At.whole hk3) ?_; go_frame)
          | (refine wpList_fill_blk rfl _ _ rfl w.heap.size rfl l rfl hl.out hkr.out ?_; intro w4 hk4 hr4; go_frame))
        refine bodyPost_ret (v := .tuple #[bv l, .int .i64 0]) ?_ rfl ⟨rfl, keep_own HB3.out hr4 (Nat.le_refl _)⟩
        exact end_blk (p := 4) (u := 5) rfl _ _ w.heap.size 0 _ _ rfl rfl (At.whole hk4) hl.out
  · rw [hd] at hn
    rw [if_pos rfl] at hn
    rw [show readV s k = zb from if_neg (fun h => by rw [hd] at h; cases h.1), show readE s k = 9 from by unfold readE; rw [hd]; rfl]
    clear hd hi
    go_enter Try.func13, Try.ntmps13
    go_wp2_with (with_reducible refine wpList_alloc_agg rfl 30 rfl (cellsOf zb) zero30 ?_)
    refine hn.mono ?_
    clear hn
    rintro e _ ⟨rfl, rfl⟩
    go_wp2_with (first | (with_reducible refine wpList_build_zero rfl rfl ?_) | (with_reducible refine wpList_store_agg rfl 30 _ _ rfl _ 0 rfl (cellsOf zb) rfl 30 (cellsOf zb).toArray hk.out (fill_fits zb zb zb_len zb_len) (cellsOf_one _) (info30' _ zb_len) ?_))
    refine bodyPost_ret (v := .tuple #[bv zb, .int .i64 9]) ?_ rfl ⟨rfl, HB.out.grown (grown_row _ _ _) (by simp) (fun j e => by injection e with e; omega)⟩
    exact end_blk (p := 4) (u := 5) rfl _ _ w.heap.size 0 _ _ rfl rfl (At.whole (cs_fill hk.out _ zb_len zb_len)) zb_len

end Go.Proofs.Ytnhbhfnpcbmjkaa
