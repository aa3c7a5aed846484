/- The walk of DiskAll: with all bits each block is as it was read, without any as it was laid down. -/
import Derived.Test.YtnhbhfnpcbmjkaaDiskAllP
namespace Go.Proofs.Ytnhbhfnpcbmjkaa
open Go.RowKit Go.Shelf Go.Maps
set_option linter.unusedVariables false
set_option linter.unusedSimpArgs false

/-- what is known of the disk behind k writes -/
def AllS (s : DS) (k m : Nat) : Prop := s.blocks = 64 ∧ s.dark = false ∧ s.left = 0 ∧ s.q.length ≤ k ∧ s.steps ≤ m ∧ YOK s ∧ LOK s.laid ∧ (∀ x ∈ s.q, x.2.length = 64)
theorem allS_fresh : AllS (fresh 64) 0 0 := ⟨rfl, rfl, rfl, Nat.le_refl _, Nat.le_refl _, yok_fresh 64, lok_none, by simp [fresh]⟩
theorem allS_write {s : DS} {k m : Nat} (h : AllS s k m) (n : Int) (l : Blk) (hn : 0 ≤ n ∧ n < 64) (hl : l.length = 64) : writeE s n = 0 ∧ AllS (writeS s n l) (k + 1) (m + 1) := by
  obtain ⟨h1, h2, h3, h4, h5, h6, h7, h8⟩ := h
  have hin : inB s n = true := by unfold inB; rw [h1]; simp; omega
  have hne : ¬ s.left = 1 := by omega
  rw [show writeS s n l = wrote s n l from by simp [writeS, h2, hin, hne], show writeE s n = 0 from by simp [writeE, h2, hin, hne]]
  refine ⟨rfl, h1, h2, ?_, ?_, ?_, yok_wrote h6 n l, h7, ?_⟩
  · show (if 1 < s.left then s.left - 1 else s.left) = 0
    rw [if_neg (by omega)]; exact h3
  · show (s.q ++ [(n, l)]).length ≤ _
    simp; omega
  · show s.steps + 1 ≤ _
    omega
  · intro x hx
    rcases List.mem_append.1 hx with hx | hx
    · exact h8 x hx
    · rw [List.mem_singleton.1 hx]; exact hl
theorem allS_flush {s : DS} {k m : Nat} (h : AllS s k m) : flushE s = 0 ∧ AllS (flushS s) k (m + 1) := by
  obtain ⟨h1, h2, h3, h4, h5, h6, h7, h8⟩ := h
  have hne : ¬ s.left = 1 := by omega
  rw [show flushS s = flushed s from by simp [flushS, h2, hne], show flushE s = 0 from by simp [flushE, h2, hne]]
  refine ⟨rfl, h1, h2, ?_, Nat.zero_le _, ?_, yok_flushed h6, lok_lay h7 s.q h8, by simp [flushed]⟩
  · show (if 1 < s.left then s.left - 1 else s.left) = 0
    rw [if_neg (by omega)]; exact h3
  · show s.steps + 1 ≤ _
    omega
theorem AllS.up {s : DS} {k m k' m' : Nat} (h : AllS s k m) (hk : k ≤ k') (hm : m ≤ m') : AllS s k' m' := ⟨h.1, h.2.1, h.2.2.1, Nat.le_trans h.2.2.2.1 hk, Nat.le_trans h.2.2.2.2.1 hm, h.2.2.2.2.2⟩
theorem allS_read {s : DS} {k m : Nat} (h : AllS s k m) (n : Int) (hn : 0 ≤ n ∧ n < 64) : readV s n = tell (lay s.q s.laid) n ∧ (readV s n).length = 64 ∧ sureV s n = tell s.laid n ∧ (sureV s n).length = 64 := by
  obtain ⟨h1, h2, h3, h4, h5, h6, h7, h8⟩ := h
  have hin : inB s n = true := by unfold inB; rw [h1]; simp; omega
  have e : readV s n = tell (lay s.q s.laid) n := by unfold readV; rw [if_pos ⟨h2, hin⟩]; exact read_lay h6 n
  have e2 : sureV s n = tell s.laid n := by unfold sureV; rw [hin, if_pos rfl]
  exact ⟨e, by rw [e]; exact lok_tell (lok_lay h7 s.q h8) n, e2, by rw [e2]; exact lok_tell h7 n⟩
theorem crash_read (s : DS) (picks : List Int) (n : Int) (hn : 0 ≤ n ∧ n < 64) (hb : s.blocks = 64) : readV (crashed s picks) n = tell (tear (s.q.zip picks) s.laid) n := by
  have hin : inB (crashed s picks) n = true := by show decide (0 ≤ n ∧ n < (s.blocks : Int)) = true; rw [hb]; simp; omega
  unfold readV
  rw [if_pos ⟨rfl, hin⟩]
  rfl
theorem crash_all {s : DS} {k m : Nat} (h : AllS s k m) (n : Int) (hn : 0 ≤ n ∧ n < 64) : readV (crashed s (List.replicate k 15)) n = readV s n := by
  rw [crash_read s _ n hn h.1, tear_all s.q k h.2.2.2.1 s.laid h.2.2.2.2.2.2.1 h.2.2.2.2.2.2.2, (allS_read h n hn).1]
theorem crash_none {s : DS} {k m : Nat} (h : AllS s k m) (n : Int) (hn : 0 ≤ n ∧ n < 64) : readV (crashed s (List.replicate k 0)) n = sureV s n := by
  rw [crash_read s _ n hn h.1, tear_none, (allS_read h n hn).2.2.1]
/-- what stands at the first loop's head -/
def AllI (w : World) (d : Nat) (bs : Int) (k : Nat) (A : Option Addr) (cap : Nat) (s : DS) (wr : World) : Prop :=
  OwnI wr w.heap.size A cap (List.replicate k bs) ∧ DiskV wr d s (fun i => w.heap.size ≤ i ∧ (Value.slice A k cap).ownBlock ≠ some i) ∧ Below w.heap.size w wr ∧ AllS s k (2 * k)
theorem DiskV.any {w : World} {d : Nat} {s : DS} {F : Nat → Prop} (h : DiskV w d s F) : DiskV w d s (fun _ => True) := by
  obtain ⟨p, h1, h2, h3⟩ := h
  exact ⟨p, h1, h2, fun _ _ => trivial⟩
/-- two disks -/
def Two (w : World) (d x : Nat) (s s' : DS) (w9 : World) : Prop := DiskV w9 d s (fun _ => True) ∧ DiskV w9 x s' (fun _ => True) ∧ Below w.heap.size w w9
theorem Two.below {w w9 w' : World} {d x : Nat} {s s' : DS} (h : Two w d x s s' w9) (hb : Below w9.heap.size w9 w') : Two w d x s s' w' := ⟨h.1.below hb, h.2.1.below hb, h.2.2.trans (hb.mono h.2.2.size)⟩
/-- .. and behind the append -/
theorem allI_grown {w wr w3 : World} {d k cap cap' : Nat} {bs : Int} {A A' : Option Addr} {s : DS} (h : AllI w d bs k A cap s wr) (hb : Below wr.heap.size wr (wr.alloc (.cells #[.int .i64 bs] 3))) (hg : (wr.alloc (.cells #[.int .i64 bs] 3)).grownBy w3 (Value.slice A k cap).ownBlock)
    (hl : (Value.slice A' (k + 1) cap').ownBlock = (Value.slice A k cap).ownBlock ∨ (Value.slice A' (k + 1) cap').ownBlock = some (wr.alloc (.cells #[.int .i64 bs] 3)).heap.size) :
    DiskV w3 d s (fun i => w.heap.size ≤ i ∧ (Value.slice A' (k + 1) cap').ownBlock ≠ some i) ∧ Below w.heap.size w w3 := by
  obtain ⟨h1, h2, h3, h4⟩ := h
  have hbl := h1.block
  rw [List.length_replicate] at hbl
  obtain ⟨p, e, hd, hf⟩ := h2.below hb
  refine ⟨⟨p, e, hd.turn (Turn.of_grown hg) (fun i hi e2 => (hf i hi).2 e2), fun i hi => ⟨(hf i hi).1, ?_⟩⟩, (h3.trans (hb.mono h3.size)).grown hg (Nat.le_trans h3.size hb.size) (fun i hi => (hbl i hi).1)⟩
  rcases hl with hl | hl
  · rw [hl]; exact (hf i hi).2
  · rw [hl]
    intro e3
    injection e3 with e3
    have := foot_lt hd i hi
    omega
set_option maxHeartbeats 8000000 in
theorem diskAll_true (l : List Dd) (A0 : Option Addr) (c0 : Nat) (w : World) (hr : Ds w A0 l) (hok : ∀ x ∈ l, DdOk x) (hlen : l.length ≤ maxLen) : Calls Try.prog 4 #[.slice A0 l.length c0, .bool true] w fun e w' => e = .returned (.bool true) ∧ Below w.heap.size w w' := by
  have hmix : Try.prog.follows .mixedOrders = true := by kernel_rfl
  have RD := Lib.hid hr
  have OK := Lib.hid hok
  unfold maxLen at hlen
  have hl0 : (0 : Int) ≤ (l.length : Int) := by omega
  have hl1 : (l.length : Int) ≤ 9223372036854775807 := by omega
  clear hr hok hlen
  go_enter Try.func4, Try.ntmps4
  go_wp2_with fail
  refine (new64 _).mono ?_
  rintro e w1 ⟨d, rfl, hd, hb⟩
  have H0 := Lib.hid (show AllI w d 15 0 none 0 (fresh 64) w1 from ⟨OwnI.nil _ _, by obtain ⟨p, h1, h2, h3⟩ := hd; exact ⟨p, h1, h2, fun k hk => ⟨h3 k hk, fun e => by cases e⟩⟩, hb, allS_fresh⟩)
  clear hd hb
  go_wp2_with fail
  go_loopw [8, 9] (fun v i wr => ∃ (k : Nat) (A : Option Addr) (cap : Nat) (s : DS), k ≤ l.length ∧ k ≤ 40 ∧ i = .int .i64 k ∧ v = .slice A k cap ∧ AllI w d 15 k A cap s wr) (fun _ i _ => 40 - (intOf i).toNat)
  case atStart => exact ⟨0, none, 0, fresh 64, Nat.zero_le _, Nat.zero_le _, rfl, rfl, H0.out⟩
  case round =>
    obtain ⟨k, A, cap, s, hk, hk40, rfl, rfl, hI⟩ := hrel
    have HI := Lib.hid hI
    have HS := Lib.hid hI.2.2.2
    clear hI
    have hk0 : (0 : Int) ≤ (k : Int) := by omega
    have hk1 : (k : Int) ≤ 40 := by omega
    by_cases hlt : k < l.length ∧ k < 40
    · have lt1 : (k : Int) < (l.length : Int) := by omega
      have lt2 : (k : Int) < 40 := by omega
      obtain ⟨lb, lf, hA, hat⟩ : ∃ b f, A0 = some ⟨b, f, none⟩ ∧ ∀ i (h : i < l.length), At w b (f + i * 67) (ddCells l[i]) := by
        rcases RD.out with h | h
        · rw [h] at hlt; cases hlt.1
        · exact h
      have hat' := hat k hlt.1
      have hz := Lib.hid (OK.out _ (List.getElem_mem hlt.1))
      obtain ⟨z, hzz⟩ : ∃ z, l[k] = z := ⟨_, rfl⟩
      rw [hzz] at hz hat'
      clear hat hzz
      have CN := Lib.hid (show ∀ w9, Below w.heap.size w w9 → w9.cell? ⟨lb, lf + k * 67 + 1, none⟩ = some (.int .i64 z.n) from fun w9 h9 => by
        have := hat' 1 (.int .i64 z.n) (by simp [ddCells])
        exact (h9.cell (p := ⟨lb, lf + k * 67 + 1, none⟩) (lt_of_cell this)).trans this)
      have CB := Lib.hid (show ∀ w9, Below w.heap.size w w9 → At w9 lb (lf + k * 67 + 2) (cellsOf z.b) from fun w9 h9 j v hv => by
        have hj : j < (cellsOf z.b).length := (List.getElem?_eq_some_iff.1 hv).1
        have := hat' (2 + j) v (by rw [show 2 + j = j + 2 by omega]; show (cellsOf z.b ++ [.slice z.A z.len z.cap])[j]? = _; rw [List.getElem?_append_left hj]; exact hv)
        rw [← Nat.add_assoc] at this
        exact (h9.cell (p := ⟨lb, lf + k * 67 + 2 + j, none⟩) (lt_of_cell this)).trans this)
      have WR := Lib.hid (allS_write HS.out (z.n % 64) z.b (by omega) hz.out.1)
      subst hA
      clear hat'
      have HOW := Lib.hid HI.out.1
      go_wp2_with (at_builtin; refine wpList_append_int rfl (.tmp 35) (.tmp 37) rfl w.heap.size A cap (List.replicate k 15) k (by simp) rfl (HOW.out.below ((Below.refl _ _).alloc (Nat.le_refl _) _)) 15 wr.heap.size rfl (Cs.new _ _ _) (by simp; omega) (by have := HI.out.2.2.1.size; simp; omega) ?_; intro A' cap' w3 ho3 hg3 hl3; rw [List.length_replicate] at hg3 hl3; have GG := Lib.hid (allI_grown HI.out ((Below.refl _ _).alloc (Nat.le_refl _) _) hg3 hl3); have HO3 := Lib.hid ho3; clear ho3 hg3 hl3; go_frame)
      have HB3 := Lib.hid GG.out.2
      have HD3 := Lib.hid GG.out.1
      clear GG HOW
      by_cases h7 : k % 7 = 6
      · have e7 : ((k : Int) % 7 == 6) = true := by simp; omega
        clear h7
        refine wp_region_held (S := fun w9 => Below w.heap.size w w9) hmix ?_
        change wpAnyH _ _ _ _ _ _ _ _ (World.drew w3)
        have S4 := Lib.hid HB3.out.drew
        have D4 := Lib.hid (HD3.out.below (Below.refl _ _).drew)
        have O4 := Lib.hid (HO3.out.below (Below.refl _ _).drew)
        clear HB3 HD3 HO3
        generalize World.drew w3 = w4 at S4 D4 O4 ⊢
        refine wpAnyH_take (i := 0) (v := .pointer (some ⟨d, 0, none⟩)) rfl (by kernel_rfl) (by kernel_rfl) (by kernel_rfl) (fun _ _ _ h => h) (Or.inl ⟨by rfl, by intro w9 hS; go_simp⟩) S4.out ?_
        try simp only [List.getElem_toArray, List.getElem_cons_succ, List.getElem_cons_zero, Act.put, List.setIfInBounds_toArray, List.set_cons_succ, List.set_cons_zero]
        refine wpAnyH_take (i := 1) (v := .slice (some ⟨lb, lf, none⟩) l.length c0) rfl (by kernel_rfl) (by kernel_rfl) (by kernel_rfl) (fun _ _ _ h => h) (Or.inl ⟨by rfl, by intro w9 hS; go_simp⟩) S4.out ?_
        try simp only [List.getElem_toArray, List.getElem_cons_succ, List.getElem_cons_zero, Act.put, List.setIfInBounds_toArray, List.set_cons_succ, List.set_cons_zero]
        refine wpAnyH_take (i := 2) (v := .int .i64 (k : Int)) rfl (by kernel_rfl) (by kernel_rfl) (by kernel_rfl) (fun _ _ _ h => h) (Or.inl ⟨by rfl, by intro w9 hS; go_simp⟩) S4.out ?_
        try simp only [List.getElem_toArray, List.getElem_cons_succ, List.getElem_cons_zero, Act.put, List.setIfInBounds_toArray, List.set_cons_succ, List.set_cons_zero]
        refine wpAnyH_take (i := 3) (v := .pointer (some ⟨lb, lf + k * 67, none⟩)) rfl (by kernel_rfl) (by kernel_rfl) (by kernel_rfl) (fun _ _ _ h => h) (Or.inl ⟨by rfl, by intro w9 hS; go_simp⟩) S4.out ?_
        try simp only [List.getElem_toArray, List.getElem_cons_succ, List.getElem_cons_zero, Act.put, List.setIfInBounds_toArray, List.set_cons_succ, List.set_cons_zero]
        refine wpAnyH_take (i := 4) (v := .pointer (some ⟨lb, lf + k * 67 + 1, none⟩)) rfl (by kernel_rfl) (by kernel_rfl) (by kernel_rfl) (fun _ _ _ h => h) (Or.inl ⟨by rfl, by intro w9 hS; go_simp⟩) S4.out ?_
        try simp only [List.getElem_toArray, List.getElem_cons_succ, List.getElem_cons_zero, Act.put, List.setIfInBounds_toArray, List.set_cons_succ, List.set_cons_zero]
        refine wpAnyH_take (i := 5) (v := .int .i64 z.n) rfl (by kernel_rfl) (by kernel_rfl) (by kernel_rfl) (fun _ _ _ h => h) (Or.inl ⟨by rfl, by intro w9 hS; have cc := CN.out w9 hS; go_simp⟩) S4.out ?_
        try simp only [List.getElem_toArray, List.getElem_cons_succ, List.getElem_cons_zero, Act.put, List.setIfInBounds_toArray, List.set_cons_succ, List.set_cons_zero]
        refine wpAnyH_take (i := 6) (v := .int .i64 (z.n % 64)) rfl (by kernel_rfl) (by kernel_rfl) (by kernel_rfl) (fun _ _ _ h => h) (Or.inl ⟨by rfl, by intro w9 hS; have cc := i64_and63 z.n; go_simp⟩) S4.out ?_
        try simp only [List.getElem_toArray, List.getElem_cons_succ, List.getElem_cons_zero, Act.put, List.setIfInBounds_toArray, List.set_cons_succ, List.set_cons_zero]
        refine wpAnyH_take (i := 7) (v := .slice (some ⟨lb, lf, none⟩) l.length c0) rfl (by kernel_rfl) (by kernel_rfl) (by kernel_rfl) (fun _ _ _ h => h) (Or.inl ⟨by rfl, by intro w9 hS; go_simp⟩) S4.out ?_
        try simp only [List.getElem_toArray, List.getElem_cons_succ, List.getElem_cons_zero, Act.put, List.setIfInBounds_toArray, List.set_cons_succ, List.set_cons_zero]
        refine wpAnyH_take (i := 8) (v := .int .i64 (k : Int)) rfl (by kernel_rfl) (by kernel_rfl) (by kernel_rfl) (fun _ _ _ h => h) (Or.inl ⟨by rfl, by intro w9 hS; go_simp⟩) S4.out ?_
        try simp only [List.getElem_toArray, List.getElem_cons_succ, List.getElem_cons_zero, Act.put, List.setIfInBounds_toArray, List.set_cons_succ, List.set_cons_zero]
        refine wpAnyH_take (i := 9) (v := .pointer (some ⟨lb, lf + k * 67, none⟩)) rfl (by kernel_rfl) (by kernel_rfl) (by kernel_rfl) (fun _ _ _ h => h) (Or.inl ⟨by rfl, by intro w9 hS; go_simp⟩) S4.out ?_
        try simp only [List.getElem_toArray, List.getElem_cons_succ, List.getElem_cons_zero, Act.put, List.setIfInBounds_toArray, List.set_cons_succ, List.set_cons_zero]
        refine wpAnyH_take (i := 10) (v := .pointer (some ⟨lb, lf + k * 67 + 2, none⟩)) rfl (by kernel_rfl) (by kernel_rfl) (by kernel_rfl) (fun _ _ _ h => h) (Or.inl ⟨by rfl, by intro w9 hS; go_simp⟩) S4.out ?_
        try simp only [List.getElem_toArray, List.getElem_cons_succ, List.getElem_cons_zero, Act.put, List.setIfInBounds_toArray, List.set_cons_succ, List.set_cons_zero]
        refine wpAnyH_take (i := 11) (v := bv z.b) rfl (by kernel_rfl) (by kernel_rfl) (by kernel_rfl) (fun _ _ _ h => h) (yieldsIf_load_blk rfl (.tmp 49) rfl lb (lf + k * 67 + 2) rfl z.b hz.out.1 CB.out) S4.out ?_
        try simp only [List.getElem_toArray, List.getElem_cons_succ, List.getElem_cons_zero, Act.put, List.setIfInBounds_toArray, List.set_cons_succ, List.set_cons_zero]
        refine wpAnyH_ready (rs := [12]) (by kernel_rfl) (by simp) ?_
        refine AllReadyH.cons rfl (fun K hK => ?_) AllReadyH.nil
        dsimp only [List.getElem_toArray, List.getElem_cons_succ, List.getElem_cons_zero]
        go_simp
        have c := Write_v D4.out (fun i hi => ⟨Nat.le_trans S4.out.size hi, fun e => by have := (O4.out.block i (by rw [← e]; exact ownBlock_slice _ _ _ _ _)).2; omega⟩) (z.n % 64) z.b hz.out.1 (by have := HS.out.2.2.2.2.1; omega) (by have := HS.out.2.2.2.1; omega)
        rw [WR.out.1] at c
        refine c.mono ?_
        clear c
        rintro e w5 ⟨rfl, hd5, ht5⟩
        have D5 := Lib.hid hd5
        have S5 := Lib.hid (S4.out.trans (ht5.below S4.out.size fun i hi => hi.1))
        have O5 := Lib.hid (O4.out.turn ht5 (fun i hi hf => hf.2 (by rw [← hi]; exact ownBlock_slice _ _ _ _ _)))
        clear hd5 ht5
        refine hK.out _ _ S5.out (fun _ => ?_)
        clear hK K
        try simp only [List.getElem_toArray, List.getElem_cons_succ, List.getElem_cons_zero, Act.put, List.setIfInBounds_toArray, List.set_cons_succ, List.set_cons_zero]
        refine wpAnyH_take (i := 13) (v := .bool false) rfl (by kernel_rfl) (by kernel_rfl) (by kernel_rfl) (fun _ _ _ h => h) (Or.inl ⟨by rfl, by intro w9 hS; go_simp⟩) S5.out ?_
        try simp only [List.getElem_toArray, List.getElem_cons_succ, List.getElem_cons_zero, Act.put, List.setIfInBounds_toArray, List.set_cons_succ, List.set_cons_zero]
        refine wpAnyH_take (i := 14) (v := .bool false) rfl (by kernel_rfl) (by kernel_rfl) (by kernel_rfl) (fun _ _ _ h => h) (Or.inl ⟨by rfl, by intro w9 hS; go_simp⟩) S5.out ?_
        try simp only [List.getElem_toArray, List.getElem_cons_succ, List.getElem_cons_zero, Act.put, List.setIfInBounds_toArray, List.set_cons_succ, List.set_cons_zero]
        refine wpAnyH_take (i := 15) (v := .int .i64 (k : Int)) rfl (by kernel_rfl) (by kernel_rfl) (by kernel_rfl) (fun _ _ _ h => h) (Or.inl ⟨by rfl, by intro w9 hS; go_simp⟩) S5.out ?_
        try simp only [List.getElem_toArray, List.getElem_cons_succ, List.getElem_cons_zero, Act.put, List.setIfInBounds_toArray, List.set_cons_succ, List.set_cons_zero]
        refine wpAnyH_take (i := 16) (v := .int .i64 ((k : Int) % 7)) rfl (by kernel_rfl) (by kernel_rfl) (by kernel_rfl) (fun _ _ _ h => h) (Or.inl ⟨by rfl, by intro w9 hS; go_simp; exact Int.tmod_eq_emod_of_nonneg hk0⟩) S5.out ?_
        try simp only [List.getElem_toArray, List.getElem_cons_succ, List.getElem_cons_zero, Act.put, List.setIfInBounds_toArray, List.set_cons_succ, List.set_cons_zero]
        refine wpAnyH_take (i := 17) (v := .bool true) rfl (by kernel_rfl) (by kernel_rfl) (by kernel_rfl) (fun _ _ _ h => h) (Or.inl ⟨by rfl, by intro w9 hS; go_simp⟩) S5.out ?_
        try simp only [List.getElem_toArray, List.getElem_cons_succ, List.getElem_cons_zero, Act.put, List.setIfInBounds_toArray, List.set_cons_succ, List.set_cons_zero]
        refine wpAnyH_take (i := 18) (v := .bool true) rfl (by kernel_rfl) (by kernel_rfl) (by kernel_rfl) (fun _ _ _ h => h) (Or.inl ⟨by rfl, by intro w9 hS; go_simp⟩) S5.out ?_
        try simp only [List.getElem_toArray, List.getElem_cons_succ, List.getElem_cons_zero, Act.put, List.setIfInBounds_toArray, List.set_cons_succ, List.set_cons_zero]
        refine wpAnyH_take (i := 19) (v := .pointer (some ⟨d, 0, none⟩)) rfl (by kernel_rfl) (by kernel_rfl) (by kernel_rfl) (fun _ _ _ h => h) (Or.inl ⟨by rfl, by intro w9 hS; go_simp⟩) S5.out ?_
        try simp only [List.getElem_toArray, List.getElem_cons_succ, List.getElem_cons_zero, Act.put, List.setIfInBounds_toArray, List.set_cons_succ, List.set_cons_zero]
        refine wpAnyH_ready (rs := [20]) (by kernel_rfl) (by simp) ?_
        refine AllReadyH.cons rfl (fun K hK => ?_) AllReadyH.nil
        dsimp only [List.getElem_toArray, List.getElem_cons_succ, List.getElem_cons_zero]
        go_simp
        have c := Flush_v D5.out (fun i hi => ⟨Nat.le_trans S5.out.size hi, fun e => by have := (O5.out.block i (by rw [← e]; exact ownBlock_slice _ _ _ _ _)).2; omega⟩) (by have := WR.out.2.2.2.2.2.1; omega) (by have := WR.out.2.2.2.2.1; omega)
        have FL := Lib.hid (allS_flush WR.out.2)
        rw [FL.out.1] at c
        refine c.mono ?_
        clear c
        rintro e w6 ⟨rfl, hd6, ht6⟩
        have D6 := Lib.hid hd6
        have S6 := Lib.hid (S5.out.trans (ht6.below S5.out.size fun i hi => hi.1))
        have O6 := Lib.hid (O5.out.turn ht6 (fun i hi hf => hf.2 (by rw [← hi]; exact ownBlock_slice _ _ _ _ _)))
        clear hd6 ht6
        refine hK.out _ _ S6.out (fun _ => ?_)
        clear hK K
        try simp only [List.getElem_toArray, List.getElem_cons_succ, List.getElem_cons_zero, Act.put, List.setIfInBounds_toArray, List.set_cons_succ, List.set_cons_zero]
        refine wpAnyH_take (i := 21) (v := .bool false) rfl (by kernel_rfl) (by kernel_rfl) (by kernel_rfl) (fun _ _ _ h => h) (Or.inl ⟨by rfl, by intro w9 hS; go_simp⟩) S6.out ?_
        try simp only [List.getElem_toArray, List.getElem_cons_succ, List.getElem_cons_zero, Act.put, List.setIfInBounds_toArray, List.set_cons_succ, List.set_cons_zero]
        refine wpAnyH_take (i := 22) (v := .bool false) rfl (by kernel_rfl) (by kernel_rfl) (by kernel_rfl) (fun _ _ _ h => h) (Or.inl ⟨by rfl, by intro w9 hS; go_simp⟩) S6.out ?_
        try simp only [List.getElem_toArray, List.getElem_cons_succ, List.getElem_cons_zero, Act.put, List.setIfInBounds_toArray, List.set_cons_succ, List.set_cons_zero]
        refine wpAnyH_take (i := 23) (v := .bool false) rfl (by kernel_rfl) (by kernel_rfl) (by kernel_rfl) (fun _ _ _ h => h) (Or.inl ⟨by rfl, by intro w9 hS; go_simp⟩) S6.out ?_
        try simp only [List.getElem_toArray, List.getElem_cons_succ, List.getElem_cons_zero, Act.put, List.setIfInBounds_toArray, List.set_cons_succ, List.set_cons_zero]
        refine wpAnyH_done (by kernel_rfl) ?_ _
        go_wp2
        go_roundw
        case rel => exact ⟨k + 1, A', cap', _, by omega, by omega, by go_num, rfl, by rw [List.replicate_succ']; exact O6.out, D6.out, S6.out, FL.out.2.up (Nat.le_refl _) (by omega)⟩
        case measure => simp [intOf]; omega
      · have e7 : ((k : Int) % 7 == 6) = false := by simp; omega
        clear h7
        refine wp_region_held (S := fun w9 => Below w.heap.size w w9) hmix ?_
        change wpAnyH _ _ _ _ _ _ _ _ (World.drew w3)
        have S4 := Lib.hid HB3.out.drew
        have D4 := Lib.hid (HD3.out.below (Below.refl _ _).drew)
        have O4 := Lib.hid (HO3.out.below (Below.refl _ _).drew)
        clear HB3 HD3 HO3
        generalize World.drew w3 = w4 at S4 D4 O4 ⊢
        refine wpAnyH_take (i := 0) (v := .pointer (some ⟨d, 0, none⟩)) rfl (by kernel_rfl) (by kernel_rfl) (by kernel_rfl) (fun _ _ _ h => h) (Or.inl ⟨by rfl, by intro w9 hS; go_simp⟩) S4.out ?_
        try simp only [List.getElem_toArray, List.getElem_cons_succ, List.getElem_cons_zero, Act.put, List.setIfInBounds_toArray, List.set_cons_succ, List.set_cons_zero]
        refine wpAnyH_take (i := 1) (v := .slice (some ⟨lb, lf, none⟩) l.length c0) rfl (by kernel_rfl) (by kernel_rfl) (by kernel_rfl) (fun _ _ _ h => h) (Or.inl ⟨by rfl, by intro w9 hS; go_simp⟩) S4.out ?_
        try simp only [List.getElem_toArray, List.getElem_cons_succ, List.getElem_cons_zero, Act.put, List.setIfInBounds_toArray, List.set_cons_succ, List.set_cons_zero]
        refine wpAnyH_take (i := 2) (v := .int .i64 (k : Int)) rfl (by kernel_rfl) (by kernel_rfl) (by kernel_rfl) (fun _ _ _ h => h) (Or.inl ⟨by rfl, by intro w9 hS; go_simp⟩) S4.out ?_
        try simp only [List.getElem_toArray, List.getElem_cons_succ, List.getElem_cons_zero, Act.put, List.setIfInBounds_toArray, List.set_cons_succ, List.set_cons_zero]
        refine wpAnyH_take (i := 3) (v := .pointer (some ⟨lb, lf + k * 67, none⟩)) rfl (by kernel_rfl) (by kernel_rfl) (by kernel_rfl) (fun _ _ _ h => h) (Or.inl ⟨by rfl, by intro w9 hS; go_simp⟩) S4.out ?_
        try simp only [List.getElem_toArray, List.getElem_cons_succ, List.getElem_cons_zero, Act.put, List.setIfInBounds_toArray, List.set_cons_succ, List.set_cons_zero]
        refine wpAnyH_take (i := 4) (v := .pointer (some ⟨lb, lf + k * 67 + 1, none⟩)) rfl (by kernel_rfl) (by kernel_rfl) (by kernel_rfl) (fun _ _ _ h => h) (Or.inl ⟨by rfl, by intro w9 hS; go_simp⟩) S4.out ?_
        try simp only [List.getElem_toArray, List.getElem_cons_succ, List.getElem_cons_zero, Act.put, List.setIfInBounds_toArray, List.set_cons_succ, List.set_cons_zero]
        refine wpAnyH_take (i := 5) (v := .int .i64 z.n) rfl (by kernel_rfl) (by kernel_rfl) (by kernel_rfl) (fun _ _ _ h => h) (Or.inl ⟨by rfl, by intro w9 hS; have cc := CN.out w9 hS; go_simp⟩) S4.out ?_
        try simp only [List.getElem_toArray, List.getElem_cons_succ, List.getElem_cons_zero, Act.put, List.setIfInBounds_toArray, List.set_cons_succ, List.set_cons_zero]
        refine wpAnyH_take (i := 6) (v := .int .i64 (z.n % 64)) rfl (by kernel_rfl) (by kernel_rfl) (by kernel_rfl) (fun _ _ _ h => h) (Or.inl ⟨by rfl, by intro w9 hS; have cc := i64_and63 z.n; go_simp⟩) S4.out ?_
        try simp only [List.getElem_toArray, List.getElem_cons_succ, List.getElem_cons_zero, Act.put, List.setIfInBounds_toArray, List.set_cons_succ, List.set_cons_zero]
        refine wpAnyH_take (i := 7) (v := .slice (some ⟨lb, lf, none⟩) l.length c0) rfl (by kernel_rfl) (by kernel_rfl) (by kernel_rfl) (fun _ _ _ h => h) (Or.inl ⟨by rfl, by intro w9 hS; go_simp⟩) S4.out ?_
        try simp only [List.getElem_toArray, List.getElem_cons_succ, List.getElem_cons_zero, Act.put, List.setIfInBounds_toArray, List.set_cons_succ, List.set_cons_zero]
        refine wpAnyH_take (i := 8) (v := .int .i64 (k : Int)) rfl (by kernel_rfl) (by kernel_rfl) (by kernel_rfl) (fun _ _ _ h => h) (Or.inl ⟨by rfl, by intro w9 hS; go_simp⟩) S4.out ?_
        try simp only [List.getElem_toArray, List.getElem_cons_succ, List.getElem_cons_zero, Act.put, List.setIfInBounds_toArray, List.set_cons_succ, List.set_cons_zero]
        refine wpAnyH_take (i := 9) (v := .pointer (some ⟨lb, lf + k * 67, none⟩)) rfl (by kernel_rfl) (by kernel_rfl) (by kernel_rfl) (fun _ _ _ h => h) (Or.inl ⟨by rfl, by intro w9 hS; go_simp⟩) S4.out ?_
        try simp only [List.getElem_toArray, List.getElem_cons_succ, List.getElem_cons_zero, Act.put, List.setIfInBounds_toArray, List.set_cons_succ, List.set_cons_zero]
        refine wpAnyH_take (i := 10) (v := .pointer (some ⟨lb, lf + k * 67 + 2, none⟩)) rfl (by kernel_rfl) (by kernel_rfl) (by kernel_rfl) (fun _ _ _ h => h) (Or.inl ⟨by rfl, by intro w9 hS; go_simp⟩) S4.out ?_
        try simp only [List.getElem_toArray, List.getElem_cons_succ, List.getElem_cons_zero, Act.put, List.setIfInBounds_toArray, List.set_cons_succ, List.set_cons_zero]
        refine wpAnyH_take (i := 11) (v := bv z.b) rfl (by kernel_rfl) (by kernel_rfl) (by kernel_rfl) (fun _ _ _ h => h) (yieldsIf_load_blk rfl (.tmp 49) rfl lb (lf + k * 67 + 2) rfl z.b hz.out.1 CB.out) S4.out ?_
        try simp only [List.getElem_toArray, List.getElem_cons_succ, List.getElem_cons_zero, Act.put, List.setIfInBounds_toArray, List.set_cons_succ, List.set_cons_zero]
        refine wpAnyH_ready (rs := [12]) (by kernel_rfl) (by simp) ?_
        refine AllReadyH.cons rfl (fun K hK => ?_) AllReadyH.nil
        dsimp only [List.getElem_toArray, List.getElem_cons_succ, List.getElem_cons_zero]
        go_simp
        have c := Write_v D4.out (fun i hi => ⟨Nat.le_trans S4.out.size hi, fun e => by have := (O4.out.block i (by rw [← e]; exact ownBlock_slice _ _ _ _ _)).2; omega⟩) (z.n % 64) z.b hz.out.1 (by have := HS.out.2.2.2.2.1; omega) (by have := HS.out.2.2.2.1; omega)
        rw [WR.out.1] at c
        refine c.mono ?_
        clear c
        rintro e w5 ⟨rfl, hd5, ht5⟩
        have D5 := Lib.hid hd5
        have S5 := Lib.hid (S4.out.trans (ht5.below S4.out.size fun i hi => hi.1))
        have O5 := Lib.hid (O4.out.turn ht5 (fun i hi hf => hf.2 (by rw [← hi]; exact ownBlock_slice _ _ _ _ _)))
        clear hd5 ht5
        refine hK.out _ _ S5.out (fun _ => ?_)
        clear hK K
        try simp only [List.getElem_toArray, List.getElem_cons_succ, List.getElem_cons_zero, Act.put, List.setIfInBounds_toArray, List.set_cons_succ, List.set_cons_zero]
        refine wpAnyH_take (i := 13) (v := .bool false) rfl (by kernel_rfl) (by kernel_rfl) (by kernel_rfl) (fun _ _ _ h => h) (Or.inl ⟨by rfl, by intro w9 hS; go_simp⟩) S5.out ?_
        try simp only [List.getElem_toArray, List.getElem_cons_succ, List.getElem_cons_zero, Act.put, List.setIfInBounds_toArray, List.set_cons_succ, List.set_cons_zero]
        refine wpAnyH_take (i := 14) (v := .bool false) rfl (by kernel_rfl) (by kernel_rfl) (by kernel_rfl) (fun _ _ _ h => h) (Or.inl ⟨by rfl, by intro w9 hS; go_simp⟩) S5.out ?_
        try simp only [List.getElem_toArray, List.getElem_cons_succ, List.getElem_cons_zero, Act.put, List.setIfInBounds_toArray, List.set_cons_succ, List.set_cons_zero]
        refine wpAnyH_take (i := 15) (v := .int .i64 (k : Int)) rfl (by kernel_rfl) (by kernel_rfl) (by kernel_rfl) (fun _ _ _ h => h) (Or.inl ⟨by rfl, by intro w9 hS; go_simp⟩) S5.out ?_
        try simp only [List.getElem_toArray, List.getElem_cons_succ, List.getElem_cons_zero, Act.put, List.setIfInBounds_toArray, List.set_cons_succ, List.set_cons_zero]
        refine wpAnyH_take (i := 16) (v := .int .i64 ((k : Int) % 7)) rfl (by kernel_rfl) (by kernel_rfl) (by kernel_rfl) (fun _ _ _ h => h) (Or.inl ⟨by rfl, by intro w9 hS; go_simp; exact Int.tmod_eq_emod_of_nonneg hk0⟩) S5.out ?_
        try simp only [List.getElem_toArray, List.getElem_cons_succ, List.getElem_cons_zero, Act.put, List.setIfInBounds_toArray, List.set_cons_succ, List.set_cons_zero]
        refine wpAnyH_take (i := 17) (v := .bool false) rfl (by kernel_rfl) (by kernel_rfl) (by kernel_rfl) (fun _ _ _ h => h) (Or.inl ⟨by rfl, by intro w9 hS; go_simp⟩) S5.out ?_
        try simp only [List.getElem_toArray, List.getElem_cons_succ, List.getElem_cons_zero, Act.put, List.setIfInBounds_toArray, List.set_cons_succ, List.set_cons_zero]
        refine wpAnyH_take (i := 18) (v := .bool false) rfl (by kernel_rfl) (by kernel_rfl) (by kernel_rfl) (fun _ _ _ h => h) (Or.inl ⟨by rfl, by intro w9 hS; go_simp⟩) S5.out ?_
        try simp only [List.getElem_toArray, List.getElem_cons_succ, List.getElem_cons_zero, Act.put, List.setIfInBounds_toArray, List.set_cons_succ, List.set_cons_zero]
        refine wpAnyH_take (i := 19) (v := undef) rfl (by kernel_rfl) (by kernel_rfl) (by kernel_rfl) (fun _ _ _ h => h) (Or.inr ⟨by rfl, rfl⟩) S5.out ?_
        try simp only [List.getElem_toArray, List.getElem_cons_succ, List.getElem_cons_zero, Act.put, List.setIfInBounds_toArray, List.set_cons_succ, List.set_cons_zero]
        refine wpAnyH_take (i := 20) (v := undef) rfl (by kernel_rfl) (by kernel_rfl) (by kernel_rfl) (fun _ _ _ h => h) (Or.inr ⟨by rfl, rfl⟩) S5.out ?_
        try simp only [List.getElem_toArray, List.getElem_cons_succ, List.getElem_cons_zero, Act.put, List.setIfInBounds_toArray, List.set_cons_succ, List.set_cons_zero]
        refine wpAnyH_take (i := 21) (v := undef) rfl (by kernel_rfl) (by kernel_rfl) (by kernel_rfl) (fun _ _ _ h => h) (Or.inr ⟨by rfl, rfl⟩) S5.out ?_
        try simp only [List.getElem_toArray, List.getElem_cons_succ, List.getElem_cons_zero, Act.put, List.setIfInBounds_toArray, List.set_cons_succ, List.set_cons_zero]
        refine wpAnyH_take (i := 22) (v := .bool false) rfl (by kernel_rfl) (by kernel_rfl) (by kernel_rfl) (fun _ _ _ h => h) (Or.inl ⟨by rfl, by intro w9 hS; go_simp⟩) S5.out ?_
        try simp only [List.getElem_toArray, List.getElem_cons_succ, List.getElem_cons_zero, Act.put, List.setIfInBounds_toArray, List.set_cons_succ, List.set_cons_zero]
        refine wpAnyH_take (i := 23) (v := .bool false) rfl (by kernel_rfl) (by kernel_rfl) (by kernel_rfl) (fun _ _ _ h => h) (Or.inl ⟨by rfl, by intro w9 hS; go_simp⟩) S5.out ?_
        try simp only [List.getElem_toArray, List.getElem_cons_succ, List.getElem_cons_zero, Act.put, List.setIfInBounds_toArray, List.set_cons_succ, List.set_cons_zero]
        refine wpAnyH_done (by kernel_rfl) ?_ _
        go_wp2
        go_roundw
        case rel => exact ⟨k + 1, A', cap', _, by omega, by omega, by go_num, rfl, by rw [List.replicate_succ']; exact O5.out, D5.out, S5.out, WR.out.2.up (Nat.le_refl _) (by omega)⟩
        case measure => simp [intOf]; omega
    · have hkk : (decide ((k : Int) < (l.length : Int)) = false ∧ (l.length : Int) ≤ (k : Int)) ∨ ((k : Int) < (l.length : Int) ∧ decide ((k : Int) < 40) = false ∧ (40 : Int) ≤ (k : Int)) := by
        by_cases h : k < l.length
        · exact .inr ⟨by omega, by simp; omega, by omega⟩
        · exact .inl ⟨by simp; omega, by omega⟩
      clear hlt
      obtain ⟨wo, rfl⟩ : ∃ wo : World, wo = wr := ⟨_, rfl⟩
      rcases hkk with ⟨hkk, hkk2⟩ | ⟨hkk1, hkk, hkk2⟩
      all_goals
        go_wp2_with fail
        refine (Copy_v HI.out.2.1 (by have := HS.out.2.2.2.1; omega)).mono ?_
        rintro e w2 ⟨x, rfl, hx, hb2⟩
        have X2 := Lib.hid hx
        have B2 := Lib.hid (HI.out.2.2.1.trans (hb2.mono HI.out.2.2.1.size))
        have D2 := Lib.hid (HI.out.2.1.below hb2)
        have O2 := Lib.hid (HI.out.1.below hb2)
        have Z2 := Lib.hid hb2.size
        have HT2 := Lib.hid hb2
        clear hx hb2
        go_wp2_with fail
        have c := Crash_v X2.out (fun i hi => Nat.le_trans Z2.out hi) (List.replicate k 15) A cap O2.out.rd (by intro y hy; rw [List.eq_of_mem_replicate hy]; decide) (by have := HS.out.2.2.2.1; omega) (by simp; omega)
        rw [List.length_replicate] at c
        refine c.mono ?_
        clear c
        rintro e w3 ⟨rfl, hx3, ht3⟩
        have X3 := Lib.hid hx3
        have D3 := Lib.hid (show DiskV w3 d s (fun i => w.heap.size ≤ i ∧ (Value.slice A k cap).ownBlock ≠ some i ∧ i < wo.heap.size) from by
          obtain ⟨p, e, hd, hf⟩ := HI.out.2.1
          obtain ⟨p2, e2, hd2, hf2⟩ := D2.out
          exact ⟨p, e, (hd.turn (F := fun i => wo.heap.size ≤ i) ⟨ht3.os.trans HT2.out.os, ht3.tape.trans HT2.out.tape, ht3.output.trans HT2.out.output, Nat.le_trans HT2.out.size ht3.size, fun i hi hn => (ht3.block i (Nat.lt_of_lt_of_le hi HT2.out.size) hn).trans (HT2.out.block i hi)⟩ (fun i hi h => by have := foot_lt hd i hi; omega)), fun i hi => ⟨(hf i hi).1, (hf i hi).2, foot_lt hd i hi⟩⟩)
        have B3 := Lib.hid (B2.out.trans (ht3.below B2.out.size fun i hi => Nat.le_trans HI.out.2.2.1.size hi))
        clear hx3 ht3
        have T3 := Lib.hid (show Two w d x s (crashed s (List.replicate k 15)) w3 from ⟨D3.out.any, X3.out.any, B3.out⟩)
        clear X2 B2 D2 O2 Z2 HT2 X3 D3 B3 hkk2
        go_wp2_with fail
        go_loopw [11] (fun v w9 => ∃ j : Nat, j ≤ 64 ∧ v = .int .i64 j ∧ Two w d x s (crashed s (List.replicate k 15)) w9) (fun v _ => 64 - (intOf v).toNat)
        case atStart => exact ⟨0, by decide, rfl, T3.out⟩
        case round =>
          obtain ⟨j, hj, rfl, hT⟩ := hrel
          have HT := Lib.hid hT
          clear hT T3
          have hj0 : (0 : Int) ≤ (j : Int) := by omega
          by_cases hj64 : j < 64
          · have ltj : (j : Int) < 64 := by omega
            have RB := allS_read HS.out (j : Int) (by omega)
            have hX : readV (crashed s (List.replicate k 15)) (j : Int) = readV s (j : Int) := crash_all HS.out (j : Int) (by omega)
            have hrl := RB.2.1
            have hsl := RB.2.2.2
            have c1 := Read_v HT.out.1 (j : Int)
            have c2 := fun W (h : Two w d x s (crashed s (List.replicate k 15)) W) => Sure_v h.1 (j : Int)
            have c3 := fun W (h : Two w d x s (crashed s (List.replicate k 15)) W) => Read_v h.2.1 (j : Int)
            rw [hX] at c3
            generalize readV s (j : Int) = rb at c1 c3 hrl
            generalize sureV s (j : Int) = sb at c2 c3 hsl
            generalize readE s (j : Int) = e1 at c1
            generalize sureE s (j : Int) = e2 at c2
            generalize readE (crashed s (List.replicate k 15)) (j : Int) = e3 at c3
            have HRL := Lib.hid hrl
            have HSL := Lib.hid hsl
            have C2 := Lib.hid c2
            have C3 := Lib.hid c3
            clear RB hX hrl hsl c2 c3
            go_wp2_with fail
            refine c1.mono ?_
            clear c1
            rintro e v1 ⟨rfl, hb⟩
            have T1 := Lib.hid (HT.out.below hb)
            clear hb
            go_wp2_with (first
              | (refine wpList_alloc_blk rfl rfl ?_; intro g12 va1 hk hb hg; go_frame; have KA1 := Lib.hid hk; have BA1 := Lib.hid hb; have GA1 := Lib.hid hg; clear hk hb hg)
              | (refine wpList_fill_blk rfl (.tmp 12) (.tmp 81) rfl g12 rfl rb rfl HRL.out KA1.out ?_; intro vb1 hk hr; go_frame; have K12 := Lib.hid hk; have TB1 := Lib.hid (T1.out.below (keep_own BA1.out hr GA1.out)); clear hk hr))
            refine (C2.out _ TB1.out).mono ?_
            rintro e v2 ⟨rfl, hb⟩
            have T2 := Lib.hid (TB1.out.below hb)
            have K12b := Lib.hid (K12.out.below hb K12.out.lt)
            clear hb
            go_wp2_with (first
              | (refine wpList_alloc_blk rfl rfl ?_; intro g14 va2 hk hb hg; go_frame; have KA2 := Lib.hid hk; have BA2 := Lib.hid hb; have GA2 := Lib.hid hg; clear hk hb hg)
              | (refine wpList_fill_blk rfl (.tmp 14) (.tmp 87) rfl g14 rfl sb rfl HSL.out KA2.out ?_; intro vb2 hk hr; go_frame; have K14 := Lib.hid hk; have BB2 := Lib.hid (keep_own BA2.out hr GA2.out); have TB2 := Lib.hid (T2.out.below BB2.out); have K12c := Lib.hid (K12b.out.below BB2.out K12b.out.lt); clear hk hr))
            refine (C3.out _ TB2.out).mono ?_
            rintro e v3 ⟨rfl, hb⟩
            have T3 := Lib.hid (TB2.out.below hb)
            have K12d := Lib.hid (K12c.out.below hb K12c.out.lt)
            have K14d := Lib.hid (K14.out.below hb K14.out.lt)
            clear hb
            go_wp2_with (first
              | (refine wpList_alloc_blk rfl rfl ?_; intro g16 va3 hk hb hg; go_frame; have KA3 := Lib.hid hk; have BA3 := Lib.hid hb; have GA3 := Lib.hid hg; clear hk hb hg)
              | (refine wpList_fill_blk rfl (.tmp 16) (.tmp 93) rfl g16 rfl rb rfl HRL.out KA3.out ?_; intro vb3 hk hr; go_frame; have K16 := Lib.hid hk; have BB3 := Lib.hid (keep_own BA3.out hr GA3.out); have TB3 := Lib.hid (T3.out.below BB3.out); have K2f := Lib.hid (K12d.out.below BB3.out K12d.out.lt); clear hk hr)
              | (refine wpList_load_blk_g rfl (.tmp 16) rfl g16 0 rfl rb HRL.out (At.whole K16.out) ?_; go_frame)
              | (refine wpList_load_blk_g rfl (.tmp 12) rfl g12 0 rfl rb HRL.out (At.whole K2f.out) ?_; go_frame)
              | (refine wpList_neq_blk rfl (.tmp 97) (.tmp 98) 30 rfl rb rfl rfl HRL.out ?_; go_frame))
            go_roundw
            case rel => exact ⟨j + 1, by omega, by go_num, TB3.out⟩
            case measure => simp [intOf]; omega
          · obtain rfl : j = 64 := by omega
            go_wp2_with fail
            refine (lives_any _).mono ?_
            rintro e w5 ⟨rfl, hb5⟩
            have B5 := Lib.hid (HT.out.2.2.trans (hb5.mono HT.out.2.2.size))
            clear hb5
            go_wp2_with fail
            go_ret
            exact ⟨rfl, B5.out⟩


end Go.Proofs.Ytnhbhfnpcbmjkaa
