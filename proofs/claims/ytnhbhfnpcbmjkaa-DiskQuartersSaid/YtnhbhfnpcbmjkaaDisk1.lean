/- A disk in memory, and the methods that look at its cells alone. -/
import Derived.Test.YtnhbhfnpcbmjkaaDiskMap
namespace Go.Proofs.Ytnhbhfnpcbmjkaa
open Go.RowKit Go.Shelf Go.Maps
set_option linter.unusedVariables false

/-- where a disk's parts lie -/
structure DP where
  db : Nat
  lb : Nat
  yb : Nat
  A : Option Addr
  cap : Nat
def qcells (q : List (Int × Blk)) : List Value := q.flatMap fun x => .int .i64 x.1 :: cellsOf x.2
def dcells (p : DP) (s : DS) : Array Value := #[.int .i64 (s.blocks : Int), .map (some p.lb), .map (some p.yb), .slice p.A s.q.length p.cap, .int .i64 (s.steps : Int), .int .i64 (s.left : Int), .bool s.dark]
structure DiskAt (w : World) (p : DP) (s : DS) : Prop where
  cells : Cs w p.db 49 (dcells p s)
  laid : MapIs w p.lb s.blocks s.laid
  young : MapIs w p.yb s.blocks s.young
  ne : p.lb ≠ p.yb
  q : w.ownsRow 0 53 65 (.slice p.A s.q.length p.cap) s.q.length (qcells s.q)
  lo : 64 ≤ s.blocks
  hi : s.blocks ≤ 16384
  wfq : ∀ x ∈ s.q, 0 ≤ x.1 ∧ x.1 < (s.blocks : Int) ∧ x.2.length = 64
  stp : s.steps < 4611686018427387904
  lft : s.left < 9223372036854775808
def foot (p : DP) (k : Nat) : Prop := k = p.db ∨ k = p.lb ∨ k = p.yb ∨ (Value.slice p.A 0 0).ownBlock = some k
/-- what a deed leaves: a disk at the same place, and no other block that was there has turned -/
def DPost (w : World) (p : DP) (s : DS) (v : Value) (e : Ending) (w' : World) : Prop :=
  e = .returned v ∧ ∃ p', DiskAt w' p' s ∧ p'.db = p.db ∧ Turn w w' (foot p) ∧ ∀ k, foot p' k → foot p k ∨ w.heap.size ≤ k
theorem ownBlock_slice (A : Option Addr) (a b c d : Nat) : (Value.slice A a b).ownBlock = (Value.slice A c d).ownBlock := by cases A <;> rfl
theorem MapIs.ne_cs {w : World} {b B g : Nat} {f : Tab} {t : TypeId} {cs : Array Value} (h : MapIs w b B f) (hc : Cs w g t cs) : b ≠ g := by
  obtain ⟨D, ⟨es, clock, hb, _⟩, _⟩ := h
  rintro rfl
  unfold Cs at hc
  rw [hb] at hc
  cases hc
theorem ownsRow_ne {w : World} {base n size g : Nat} {e t : TypeId} {v : Value} {xs : List Value} {cs : Array Value} (h : w.ownsRow base e size v n xs) (hc : Cs w g t cs) (ht : t ≠ e) : v.ownBlock ≠ some g := by
  rcases h.2 with ⟨rfl, _⟩ | ⟨g', cap, cur, rfl, hb, hg, _⟩
  · simp [Value.ownBlock]
  · simp only [Value.ownBlock, ne_eq, Option.some.injEq]
    rintro rfl
    unfold Cs at hc
    rw [hg] at hc
    cases hc
    exact ht rfl
theorem ownsRow_ne_map {w : World} {base n size b B : Nat} {e : TypeId} {v : Value} {xs : List Value} {f : Tab} (h : w.ownsRow base e size v n xs) (hm : MapIs w b B f) : v.ownBlock ≠ some b := by
  rcases h.2 with ⟨rfl, _⟩ | ⟨g', cap, cur, rfl, hb, hg, _⟩
  · simp [Value.ownBlock]
  · simp only [Value.ownBlock, ne_eq, Option.some.injEq]
    rintro rfl
    obtain ⟨D, ⟨es, clock, hbb, _⟩, _⟩ := hm
    rw [hg] at hbb
    cases hbb
theorem foot_lt {w : World} {p : DP} {s : DS} (h : DiskAt w p s) : ∀ k, foot p k → k < w.heap.size := by
  rintro k (rfl | rfl | rfl | hk)
  · exact h.cells.lt
  · exact h.laid.lt
  · exact h.young.lt
  · rw [ownBlock_slice p.A 0 0 s.q.length p.cap] at hk
    rcases h.q.2 with ⟨h0, _⟩ | ⟨g', cap, cur, h0, hb, hg, _⟩
    · rw [h0] at hk; cases hk
    · rw [h0] at hk
      cases hk
      exact (Array.getElem?_eq_some_iff.1 hg).1
/-- a disk stays what it is while no block of its own turns -/
theorem DiskAt.turn {w w' : World} {F : Nat → Prop} {p : DP} {s : DS} (h : DiskAt w p s) (ht : Turn w w' F) (hF : ∀ k, foot p k → ¬ F k) : DiskAt w' p s :=
  ⟨h.cells.turn ht (hF _ (.inl rfl)), h.laid.turn ht (hF _ (.inr (.inl rfl))), h.young.turn ht (hF _ (.inr (.inr (.inl rfl)))), h.ne,
   ownsRow_turn h.q ht (fun k hk => hF k (.inr (.inr (.inr (by rw [← ownBlock_slice p.A s.q.length p.cap]; exact hk))))), h.lo, h.hi, h.wfq, h.stp, h.lft⟩
theorem DiskAt.below {w w' : World} {p : DP} {s : DS} (h : DiskAt w p s) (hb : Below w.heap.size w w') : DiskAt w' p s := h.turn (Turn.of_below hb fun _ => False) fun _ _ h => h
/-- a cell of the disk's own is written, and nothing else -/
theorem DiskAt.set {w w' : World} {p : DP} {s s' : DS} (h : DiskAt w p s) (ht : Turn w w' (· = p.db)) (hc : Cs w' p.db 49 (dcells p s')) (h1 : s'.blocks = s.blocks) (h2 : s'.laid = s.laid) (h3 : s'.young = s.young) (h4 : s'.q = s.q)
    (h5 : s'.steps < 4611686018427387904) (h6 : s'.left < 9223372036854775808) : DiskAt w' p s' := by
  have e1 := h.laid.ne_cs h.cells
  have e2 := h.young.ne_cs h.cells
  have e3 := ownsRow_ne h.q h.cells (by decide)
  refine ⟨hc, ?_, ?_, h.ne, ?_, by rw [h1]; exact h.lo, by rw [h1]; exact h.hi, by rw [h4, h1]; exact h.wfq, h5, h6⟩
  · rw [h1, h2]; exact h.laid.turn ht e1
  · rw [h1, h3]; exact h.young.turn ht e2
  · rw [h4]; exact ownsRow_turn h.q ht (fun k hk e => e3 (by rw [hk, e]))
theorem DPost.set {w w' : World} {p : DP} {s s' : DS} (h : DiskAt w p s) {v : Value} (ht : Turn w w' (· = p.db)) (hc : Cs w' p.db 49 (dcells p s')) (h1 : s'.blocks = s.blocks) (h2 : s'.laid = s.laid) (h3 : s'.young = s.young) (h4 : s'.q = s.q)
    (h5 : s'.steps < 4611686018427387904) (h6 : s'.left < 9223372036854775808) : DPost w p s' v (.returned v) w' :=
  ⟨rfl, p, h.set ht hc h1 h2 h3 h4 h5 h6, rfl, ht.mono fun i _ e => .inl e, fun k hk => .inl hk⟩
theorem DPost.same {w : World} {p : DP} {s : DS} (h : DiskAt w p s) (v : Value) : DPost w p s v (.returned v) w := ⟨rfl, p, h, rfl, Turn.refl _ _, fun k hk => .inl hk⟩
theorem turn_set (w : World) (g i : Nat) (v : Value) : Turn w (w.setCell ⟨g, i, none⟩ v) (· = g) := (Turn.of_grown (grown_set w g i v)).mono fun k _ e => by injection e with e; exact e.symm

/-- the cells of a disk, for the walk -/
theorem DiskAt.at {w : World} {p : DP} {s : DS} (h : DiskAt w p s) : w.cell? ⟨p.db, 0, none⟩ = some (.int .i64 (s.blocks : Int)) ∧ w.cell? ⟨p.db, 1, none⟩ = some (.map (some p.lb)) ∧ w.cell? ⟨p.db, 2, none⟩ = some (.map (some p.yb)) ∧
    w.cell? ⟨p.db, 3, none⟩ = some (.slice p.A s.q.length p.cap) ∧ w.cell? ⟨p.db, 4, none⟩ = some (.int .i64 (s.steps : Int)) ∧ w.cell? ⟨p.db, 5, none⟩ = some (.int .i64 (s.left : Int)) ∧ w.cell? ⟨p.db, 6, none⟩ = some (.bool s.dark) :=
  ⟨h.cells.cell 0 rfl, h.cells.cell 1 rfl, h.cells.cell 2 rfl, h.cells.cell 3 rfl, h.cells.cell 4 rfl, h.cells.cell 5 rfl, h.cells.cell 6 rfl⟩

theorem isNone_nil (w : World) : Calls Try.prog 24 #[.pointer none] w fun e w' => e = .returned (.bool true) ∧ w = w' := by
  go_enter Try.func24, Try.ntmps24
  go_wp2
  go_ret
  exact ⟨rfl, rfl⟩
theorem isNone_zero (db : Nat) (w : World) (h : w.cell? ⟨db, 0, none⟩ = some (.int .i64 0)) : Calls Try.prog 24 #[.pointer (some ⟨db, 0, none⟩)] w fun e w' => e = .returned (.bool true) ∧ w = w' := by
  go_enter Try.func24, Try.ntmps24
  go_wp2
  go_ret
  exact ⟨rfl, rfl⟩
theorem isNone_cell (db : Nat) (n : Nat) (w : World) (h : w.cell? ⟨db, 0, none⟩ = some (.int .i64 (n : Int))) (hn : 64 ≤ n) : Calls Try.prog 24 #[.pointer (some ⟨db, 0, none⟩)] w fun e w' => e = .returned (.bool false) ∧ w = w' := by
  have h0 : ((n : Int) == 0) = false := by simp; omega
  clear hn
  go_enter Try.func24, Try.ntmps24
  go_wp2
  go_ret
  exact ⟨rfl, rfl⟩
theorem isNone_disk {w : World} {p : DP} {s : DS} (h : DiskAt w p s) : Calls Try.prog 24 #[.pointer (some ⟨p.db, 0, none⟩)] w fun e w' => e = .returned (.bool false) ∧ w = w' := isNone_cell _ _ _ h.at.1 h.lo
theorem isBlock_cell (db : Nat) (n : Nat) (k : Int) (w : World) (h : w.cell? ⟨db, 0, none⟩ = some (.int .i64 (n : Int))) : Calls Try.prog 21 #[.pointer (some ⟨db, 0, none⟩), .int .i64 k] w fun e w' => e = .returned (.bool (decide (0 ≤ k ∧ k < (n : Int)))) ∧ w = w' := by
  by_cases h0 : 0 ≤ k
  · by_cases h1 : k < (n : Int)
    · rw [decide_eq_true (by exact ⟨h0, h1⟩)]
      go_enter Try.func21, Try.ntmps21
      go_wp2
      go_ret
      exact ⟨rfl, rfl⟩
    · rw [decide_eq_false (by omega)]
      have h1' : decide (k < (n : Int)) = false := by simp; omega
      clear h1
      go_enter Try.func21, Try.ntmps21
      go_wp2
      go_ret
      exact ⟨rfl, rfl⟩
  · rw [decide_eq_false (by omega)]
    have h0' : k < 0 := by omega
    have h0'' : decide (0 ≤ k) = false := by simp; omega
    clear h0
    go_enter Try.func21, Try.ntmps21
    go_wp2
    go_ret
    exact ⟨rfl, rfl⟩
theorem isBlock_disk {w : World} {p : DP} {s : DS} (h : DiskAt w p s) (k : Int) : Calls Try.prog 21 #[.pointer (some ⟨p.db, 0, none⟩), .int .i64 k] w fun e w' => e = .returned (.bool (decide (0 ≤ k ∧ k < (s.blocks : Int)))) ∧ w = w' := isBlock_cell _ _ _ _ h.at.1
theorem refused_none (a : Option Addr) (w : World) (h : Calls Try.prog 24 #[.pointer a] w fun e w' => e = .returned (.bool true) ∧ w = w') : Calls Try.prog 20 #[.pointer a] w fun e w' => e = .returned (.int .i64 1) ∧ w = w' := by
  go_enter Try.func20, Try.ntmps20
  go_wp2_with fail
  refine h.mono ?_
  clear h
  rintro e _ ⟨rfl, rfl⟩
  go_wp2
  go_ret
  exact ⟨rfl, rfl⟩
theorem refused_disk {w : World} {p : DP} {s : DS} (h : DiskAt w p s) : Calls Try.prog 20 #[.pointer (some ⟨p.db, 0, none⟩)] w fun e w' => e = .returned (.int .i64 (if s.dark then 9 else 0)) ∧ w = w' := by
  have hn := isNone_disk h
  have h6 := h.at.2.2.2.2.2.2
  clear h
  obtain ⟨b, hb⟩ : ∃ b, s.dark = b := ⟨_, rfl⟩
  rw [hb] at h6 ⊢
  clear hb
  cases b
  all_goals
    go_enter Try.func20, Try.ntmps20
    go_wp2_with fail
    refine hn.mono ?_
    clear hn
    rintro e _ ⟨rfl, rfl⟩
    go_wp2
    go_ret
    exact ⟨rfl, rfl⟩
/-- what work makes of a disk, and what it says -/
def workS (s : DS) : DS := if s.left = 1 then gone s else worked s
theorem work_disk {w : World} {p : DP} {s : DS} (h : DiskAt w p s) (hs : s.steps + 1 < 4611686018427387904) :
    Calls Try.prog 22 #[.pointer (some ⟨p.db, 0, none⟩)] w fun e w' => e = .returned (.bool (decide (s.left ≠ 1))) ∧ DiskAt w' p (workS s) ∧ Turn w w' (· = p.db) := by
  obtain ⟨-, -, -, -, c4, c5, c6⟩ := h.at
  have f4 := h.cells.frozen 4
  have f5 := h.cells.frozen 5
  have f6 := h.cells.frozen 6
  have hl := h.lft
  have H := Lib.hid h
  by_cases h1 : s.left = 1
  · rw [decide_eq_false (by omega), show workS s = gone s from if_pos h1]
    rw [h1] at c5
    clear h
    go_enter Try.func22, Try.ntmps22
    go_wp2
    go_ret
    exact ⟨rfl, H.out.set (turn_set _ _ _ _) (H.out.cells.set 6 _) rfl rfl rfl rfl H.out.stp H.out.lft, turn_set _ _ _ _⟩
  · rw [decide_eq_true h1, show workS s = worked s from if_neg h1]
    have e1 : ((s.left : Int) == 1) = false := by simp; omega
    have hs0 : (0 : Int) ≤ s.steps := by omega
    have hs1 : (s.steps : Int) ≤ 4611686018427387904 := by omega
    have hl0 : (0 : Int) ≤ s.left := by omega
    have hl1 : (s.left : Int) ≤ 9223372036854775807 := by omega
    by_cases h2 : 1 < s.left
    · have e2 : (1 : Int) < (s.left : Int) := by omega
      have ht := Lib.hid ((turn_set w p.db 5 (.int .i64 ((s.left : Int) - 1))).trans (turn_set (w.setCell ⟨p.db, 5, none⟩ (.int .i64 ((s.left : Int) - 1))) p.db 4 (.int .i64 ((s.steps : Int) + 1))) (fun _ _ e => e))
      have hc := Lib.hid ((H.out.cells.set 5 (.int .i64 ((s.left : Int) - 1))).set 4 (.int .i64 ((s.steps : Int) + 1)))
      have hst := Lib.hid h2
      clear h h1 h2
      go_enter Try.func22, Try.ntmps22
      go_wp2
      go_ret
      refine ⟨rfl, H.out.set ht.out ?_ rfl rfl rfl rfl ?_ ?_, ht.out⟩
      · have e := hc.out
        rw [show dcells p (worked s) = ((dcells p s).setIfInBounds 5 (.int .i64 ((s.left : Int) - 1))).setIfInBounds 4 (.int .i64 ((s.steps : Int) + 1)) from by
          simp [dcells, worked, if_pos hst.out]; have := hst.out; omega]
        exact e
      · exact hs
      · show (if 1 < s.left then s.left - 1 else s.left) < _
        rw [if_pos hst.out]; omega
    · have e2 : (s.left : Int) ≤ 1 := by omega
      have hc := Lib.hid (H.out.cells.set 4 (.int .i64 ((s.steps : Int) + 1)))
      have hst := Lib.hid h2
      clear h h1 h2
      go_enter Try.func22, Try.ntmps22
      go_wp2
      go_ret
      refine ⟨rfl, H.out.set (turn_set _ _ _ _) ?_ rfl rfl rfl rfl ?_ ?_, turn_set _ _ _ _⟩
      · have e := hc.out
        rw [show dcells p (worked s) = (dcells p s).setIfInBounds 4 (.int .i64 ((s.steps : Int) + 1)) from by
          simp [dcells, worked, if_neg hst.out]]
        exact e
      · exact hs
      · show (if 1 < s.left then s.left - 1 else s.left) < _
        rw [if_neg hst.out]; omega

end Go.Proofs.Ytnhbhfnpcbmjkaa
