/- The methods of a disk at an address, within given blocks: what the laws' walks take. -/
import Derived.Test.YtnhbhfnpcbmjkaaDiskCopy
namespace Go.Proofs.Ytnhbhfnpcbmjkaa
open Go.RowKit Go.Shelf Go.Maps
set_option linter.unusedVariables false
set_option linter.unusedSimpArgs false

/-- the disk at d; all its blocks lie in F -/
def DiskV (w : World) (d : Nat) (s : DS) (F : Nat → Prop) : Prop := ∃ p, p.db = d ∧ DiskAt w p s ∧ ∀ k, foot p k → F k
theorem DPost.v {w w' : World} {p : DP} {s : DS} {v : Value} {e : Ending} {d : Nat} {F : Nat → Prop} (h : DPost w p s v e w') (hd : p.db = d) (hp : ∀ k, foot p k → F k) (hF : ∀ k, w.heap.size ≤ k → F k) : e = .returned v ∧ DiskV w' d s F ∧ Turn w w' F := by
  obtain ⟨he, p', h1, h2, h3, h4⟩ := h
  exact ⟨he, ⟨p', h2.trans hd, h1, fun k hk => (h4 k hk).elim (hp k) (hF k)⟩, h3.mono fun i _ hi => hp i hi⟩
theorem DiskV.turn {w w' : World} {d : Nat} {s : DS} {F G : Nat → Prop} (h : DiskV w d s F) (ht : Turn w w' G) (hG : ∀ k, F k → ¬ G k) : DiskV w' d s F := by
  obtain ⟨p, h1, h2, h3⟩ := h
  exact ⟨p, h1, h2.turn ht (fun k hk => hG k (h3 k hk)), h3⟩
theorem DiskV.below {w w' : World} {d : Nat} {s : DS} {F : Nat → Prop} (h : DiskV w d s F) (hb : Below w.heap.size w w') : DiskV w' d s F := by
  obtain ⟨p, h1, h2, h3⟩ := h
  exact ⟨p, h1, h2.below hb, h3⟩
theorem DiskV.lt {w : World} {d : Nat} {s : DS} {F : Nat → Prop} (h : DiskV w d s F) : d < w.heap.size := by
  obtain ⟨p, h1, h2, h3⟩ := h
  rw [← h1]
  exact h2.cells.lt
/-- one block more that is none of the disk's -/
theorem DiskV.but {w : World} {d : Nat} {s : DS} {F : Nat → Prop} (h : DiskV w d s F) (g : Nat) (hg : w.heap.size ≤ g) : DiskV w d s (fun k => F k ∧ k ≠ g) := by
  obtain ⟨p, h1, h2, h3⟩ := h
  exact ⟨p, h1, h2, fun k hk => ⟨h3 k hk, fun e => by have := foot_lt h2 k hk; omega⟩⟩
theorem Write_v {w : World} {d : Nat} {s : DS} {F : Nat → Prop} (h : DiskV w d s F) (hF : ∀ k, w.heap.size ≤ k → F k) (n : Int) (l : Blk) (hl : l.length = 64) (hs : s.steps + 1 < 4611686018427387904) (hq : s.q.length < 1099511627776) :
    Calls Try.prog 8 #[.pointer (some ⟨d, 0, none⟩), .int .i64 n, bv l] w fun e w' => e = .returned (.int .i64 (writeE s n)) ∧ DiskV w' d (writeS s n l) F ∧ Turn w w' F := by
  obtain ⟨p, rfl, h2, h3⟩ := h
  exact (Write_disk h2 n l hl hs hq).mono fun e w' h => h.v rfl h3 hF
theorem Flush_v {w : World} {d : Nat} {s : DS} {F : Nat → Prop} (h : DiskV w d s F) (hF : ∀ k, w.heap.size ≤ k → F k) (hs : s.steps + 1 < 4611686018427387904) (hq : s.q.length < 1099511627776) :
    Calls Try.prog 9 #[.pointer (some ⟨d, 0, none⟩)] w fun e w' => e = .returned (.int .i64 (flushE s)) ∧ DiskV w' d (flushS s) F ∧ Turn w w' F := by
  obtain ⟨p, rfl, h2, h3⟩ := h
  exact (Flush_disk h2 hs hq).mono fun e w' h => h.v rfl h3 hF
def armS (s : DS) (k : Int) : DS := if s.dark = true ∨ k < 0 then s else armed s k.toNat
def armE (s : DS) (k : Int) : Int := if s.dark = true then 9 else if k < 0 then 2 else 0
theorem Arm_v {w : World} {d : Nat} {s : DS} {F : Nat → Prop} (h : DiskV w d s F) (hF : ∀ k, w.heap.size ≤ k → F k) (k : Int) (hk : k < 9223372036854775808) :
    Calls Try.prog 16 #[.pointer (some ⟨d, 0, none⟩), .int .i64 k] w fun e w' => e = .returned (.int .i64 (armE s k)) ∧ DiskV w' d (armS s k) F ∧ Turn w w' F := by
  obtain ⟨p, rfl, h2, h3⟩ := h
  exact (Arm_disk h2 k hk).mono fun e w' h => h.v rfl h3 hF
theorem Crash_v {w : World} {d : Nat} {s : DS} {F : Nat → Prop} (h : DiskV w d s F) (hF : ∀ k, w.heap.size ≤ k → F k) (picks : List Int) (PA : Option Addr) (pc : Nat) (hr : RdI w PA picks) (hwf : ∀ x ∈ picks, -9223372036854775808 ≤ x ∧ x ≤ 9223372036854775807)
    (hq : s.q.length < 1099511627776) (hpl : picks.length ≤ 9223372036854775807) :
    Calls Try.prog 12 #[.pointer (some ⟨d, 0, none⟩), .slice PA picks.length pc] w fun e w' => e = .returned (.int .i64 0) ∧ DiskV w' d (crashed s picks) F ∧ Turn w w' F := by
  obtain ⟨p, rfl, h2, h3⟩ := h
  exact (Crash_disk h2 picks PA pc hr hwf hq hpl).mono fun e w' h => h.v rfl h3 hF
theorem Read_v {w : World} {d : Nat} {s : DS} {F : Nat → Prop} (h : DiskV w d s F) (k : Int) : Calls Try.prog 13 #[.pointer (some ⟨d, 0, none⟩), .int .i64 k] w fun e w' => e = .returned (.tuple #[bv (readV s k), .int .i64 (readE s k)]) ∧ Below w.heap.size w w' := by
  obtain ⟨p, rfl, h2, h3⟩ := h
  exact Read_disk h2 k
theorem Sure_v {w : World} {d : Nat} {s : DS} {F : Nat → Prop} (h : DiskV w d s F) (k : Int) : Calls Try.prog 11 #[.pointer (some ⟨d, 0, none⟩), .int .i64 k] w fun e w' => e = .returned (.tuple #[bv (sureV s k), .int .i64 (sureE s k)]) ∧ Below w.heap.size w w' := by
  obtain ⟨p, rfl, h2, h3⟩ := h
  exact Sure_disk h2 k
theorem Steps_v {w : World} {d : Nat} {s : DS} {F : Nat → Prop} (h : DiskV w d s F) : Calls Try.prog 18 #[.pointer (some ⟨d, 0, none⟩)] w fun e w' => e = .returned (.int .i64 (s.steps : Int)) ∧ w = w' := by
  obtain ⟨p, rfl, h2, h3⟩ := h
  exact Steps_disk h2
theorem Loose_v {w : World} {d : Nat} {s : DS} {F : Nat → Prop} (h : DiskV w d s F) : Calls Try.prog 10 #[.pointer (some ⟨d, 0, none⟩)] w fun e w' => e = .returned (.int .i64 (s.q.length : Int)) ∧ w = w' := by
  obtain ⟨p, rfl, h2, h3⟩ := h
  exact Loose_disk h2
theorem Dark_v {w : World} {d : Nat} {s : DS} {F : Nat → Prop} (h : DiskV w d s F) : Calls Try.prog 17 #[.pointer (some ⟨d, 0, none⟩)] w fun e w' => e = .returned (.bool s.dark) ∧ w = w' := by
  obtain ⟨p, rfl, h2, h3⟩ := h
  exact Dark_disk h2
theorem New_v (n : Nat) (w : World) (h0 : 64 ≤ n) (h1 : n ≤ 16384) : Calls Try.prog 7 #[.int .i64 (n : Int)] w fun e w' => ∃ d, e = .returned (.tuple #[.pointer (some ⟨d, 0, none⟩), .int .i64 0]) ∧ DiskV w' d (fresh n) (w.heap.size ≤ ·) ∧ Below w.heap.size w w' :=
  (New_disk n w h0 h1).mono fun e w' ⟨he, hd, hb⟩ => ⟨_, he, ⟨newAt w, rfl, hd, by
    rintro k (hk | hk | hk | hk)
    · rw [hk]; show w.heap.size ≤ w.heap.size + 2; omega
    · rw [hk]; exact Nat.le_refl _
    · rw [hk]; show w.heap.size ≤ w.heap.size + 1; omega
    · cases hk⟩, hb⟩
def CopyV (w : World) (s : DS) (e : Ending) (w' : World) : Prop := ∃ x, e = .returned (.pointer (some ⟨x, 0, none⟩)) ∧ DiskV w' x s (w.heap.size ≤ ·) ∧ Below w.heap.size w w'
theorem Copy_v {w : World} {d : Nat} {s : DS} {F : Nat → Prop} (h : DiskV w d s F) (hq : s.q.length < 1099511627776) : Calls Try.prog 15 #[.pointer (some ⟨d, 0, none⟩)] w fun e w' => CopyV w s e w' := by
  obtain ⟨p, rfl, h2, h3⟩ := h
  exact (Copy_disk h2 hq).mono fun e w' ⟨p', he, hd, hf, hb⟩ => ⟨p'.db, he, ⟨p', rfl, hd, hf⟩, hb⟩

end Go.Proofs.Ytnhbhfnpcbmjkaa
