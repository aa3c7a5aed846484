/- batch: the reader's number and piece. -/
import Derived.Test.YtiemphfikfigdaaBatK3
import Derived.Test.YtiemphfikfigdaaWordsK
import Derived.Test.YtiemphfikfigdaaTblK
namespace Go.Proofs.Ytiemphfikfigdaa
open Go.RowKit Go.Shelf
set_option linter.unusedVariables false
set_option maxRecDepth 100000
set_option linter.unusedSimpArgs false

theorem cutB (b o len cap l h : Nat) (hl : l ≤ h) (hh : h ≤ cap) : ∃ o', (∀ W, (Instr.slice 23 (.slice (some ⟨b, o, none⟩) len cap) (some (.int .i64 (l : Int))) (some (.int .i64 (h : Int))) none).run Try.prog W = .ok (.slice (some ⟨b, o', none⟩) (h - l) (cap - l)) W) ∧ (l < cap → o' = o + l) := by
  have ht' : Try.prog.underlying 23 = some (.slice (Try.prog.elem 23)) := by simp [Program.elem, Try.underlying23]
  have he : Try.prog.elem 23 = 5 := by simp [Program.elem, Try.underlying23]
  have hrun : ∀ W, (Instr.slice 23 (.slice (some ⟨b, o, none⟩) len cap) (some (.int .i64 (l : Int))) (some (.int .i64 (h : Int))) none).run Try.prog W = .ok (sliced (some ⟨b, o, none⟩) l h cap 1) W := fun W => by
    rw [run_slice_lh W 23 _ _ _ ht' .i64 .i64 _ _ (by omega) (by omega) (by omega), he, Try.sizeOf5]
    rfl
  by_cases hne : cap = l
  · obtain rfl : h = l := by omega
    subst hne
    refine ⟨o, fun W => ?_, fun h => absurd h (Nat.lt_irrefl _)⟩
    rw [hrun]
    simp [sliced]
  · refine ⟨o + l, fun W => ?_, fun _ => rfl⟩
    rw [hrun]
    by_cases h0 : l = 0
    · subst h0
      simp [sliced, Addr.add, hne]
    · simp [sliced, Addr.add, hne, h0]
theorem cut_rd {w : World} {b o o' cap a n : Nat} {l : List UInt8} (hr : Rd w (some ⟨b, o, none⟩) l) (ho : a < cap → o' = o + a) (hc : l.length ≤ cap) (ha : a + n ≤ l.length) : Rd w (some ⟨b, o', none⟩) ((l.drop a).take n) := by
  by_cases h : a < cap
  · rw [ho h]
    exact rd_take (rd_off hr a) n
  · left
    rw [List.drop_of_length_le (by omega)]
    simp
/-- a reader's cells -/
def rdrC (A : Option Addr) (n c at' : Nat) (sh : Bool) : List Value := [.slice A n c, .int .i64 (at' : Int), .bool sh]
theorem rdrC_0 {w : World} {g : Nat} {A : Option Addr} {n c a : Nat} {sh : Bool} (h : Cs w g 61 (rdrC A n c a sh).toArray) : w.cell? ⟨g, 0, none⟩ = some (.slice A n c) := h.cell 0 rfl
theorem rdrC_1 {w : World} {g : Nat} {A : Option Addr} {n c a : Nat} {sh : Bool} (h : Cs w g 61 (rdrC A n c a sh).toArray) : w.cell? ⟨g, 1, none⟩ = some (.int .i64 (a : Int)) := h.cell 1 rfl
theorem rdrC_2 {w : World} {g : Nat} {A : Option Addr} {n c a : Nat} {sh : Bool} (h : Cs w g 61 (rdrC A n c a sh).toArray) : w.cell? ⟨g, 2, none⟩ = some (.bool sh) := h.cell 2 rfl
theorem rdrC_at {w : World} {g : Nat} {A : Option Addr} {n c a a' : Nat} {x : Int} {sh : Bool} (h : Cs w g 61 ((rdrC A n c a sh).toArray.setIfInBounds 1 (.int .i64 x))) (e : x = (a' : Int)) : Cs w g 61 (rdrC A n c a' sh).toArray := by
  subst e
  exact h
theorem rdrC_sh {w : World} {g : Nat} {A : Option Addr} {n c a : Nat} {sh : Bool} (h : Cs w g 61 ((rdrC A n c a sh).toArray.setIfInBounds 2 (.bool true))) : Cs w g 61 (rdrC A n c a true).toArray := h
/-- from one state of the reader to another one -/
structure RStep (A : Option Addr) (n c g : Nat) (w w' : World) (a : Nat) (sh : Bool) : Prop where
  turn : Turn w w' (· = g)
  at' : Cs w' g 61 (rdrC A n c a sh).toArray
def NumBRet (l : List UInt8) (A : Option Addr) (c a k : Nat) (sh : Bool) (g : Nat) (w : World) (e : Ending) (w' : World) : Prop :=
  if a + k ≤ l.length then e = .returned (.int .i64 (beSum (seg l a k))) ∧ RStep A l.length c g w w' (a + k) sh else e = .returned (.int .i64 0) ∧ RStep A l.length c g w w' a true
theorem getV_has {l : List UInt8} {a k : Nat} (hs : sizeB k = true) (h : a + k ≤ l.length) : getV l a k = .tuple #[.int .u64 (beSum (seg l a k)), .int .i64 0] := by
  unfold getV
  rw [if_neg (by rw [hs]; simp [placeB]; omega), if_neg (by omega)]
  simp
theorem getV_short {l : List UInt8} {a k : Nat} (hs : sizeB k = true) (ha : a ≤ l.length) (h : ¬ a + k ≤ l.length) : getV l a k = .tuple #[.int .u64 0, .int .i64 4] := by
  unfold getV
  rw [if_neg (by rw [hs]; simp [placeB]; omega), if_pos (by omega)]
set_option maxHeartbeats 2000000 in
theorem bnumber_any (l : List UInt8) (b off c a k : Nat) (sh : Bool) (g : Nat) (w : World) (hl : l.length ≤ 1000000000) (hlc : l.length ≤ c) (hs : sizeB k = true) (hk : k ≤ 8) (hk2 : k ≤ 2) (ha : a ≤ l.length) (hr : Rd w (some ⟨b, off, none⟩) l) (hc : Cs w g 61 (rdrC (some ⟨b, off, none⟩) l.length c a sh).toArray) :
    Calls Try.prog 56 #[.pointer (some ⟨g, 0, none⟩), .int .i64 (k : Int)] w fun e w' => NumBRet l (some ⟨b, off, none⟩) c a k sh g w e w' := by
  have hmix : Try.prog.follows .mixedOrders = true := by kernel_rfl
  unfold NumBRet
  have hget := fun u hu => Get_any l (some ⟨b, off, none⟩) c a k u (by unfold maxLen; omega) hlc hu
  have HC := Lib.hid hc
  have HR := Lib.hid hr
  have Q0 := Lib.hid (rdrC_0 hc)
  have Q1 := Lib.hid (rdrC_1 hc)
  have ha' : (a : Int) ≤ 1000000000 := by omega
  have hk' : (k : Int) ≤ 8 := by omega
  clear hc hr hlc
  by_cases hin : a + k ≤ l.length
  · simp only [if_pos hin]; rw [getV_has hs hin] at hget
    have hx := beSum_bd l a k
    have hx2 : (256 : Int) ^ k ≤ 65536 := by
      have h3 : (256 : Nat) ^ k ≤ 256 ^ 2 := Nat.pow_le_pow_right (by decide) hk2
      have h4 : ((256 ^ k : Nat) : Int) = 256 ^ k := Int.natCast_pow 256 k
      have h5 : (256 : Nat) ^ 2 = 65536 := by decide
      omega
    have hx3 : 0 ≤ beSum (seg l a k) ∧ beSum (seg l a k) ≤ 65536 := ⟨hx.1, by omega⟩
    clear hx hx2
    generalize beSum (seg l a k) = x at *
    have HG := Lib.hid hget
    clear hget
    go_enter Try.func56, Try.ntmps56
    go_wp2_with fail
    refine wp_region_V [] (Below w.heap.size w) hmix ((Below.refl _ _).drew) ?_
    change wpAnyV _ _ _ _ _ _ _ _ _
    refine wpAnyV_take (i := 0) (v := .pointer (some ⟨g, 0, none⟩)) 8 (kept_below w) rfl (by kernel_rfl) (by kernel_rfl) (fun _ _ _ h => h) (fun _ h => h) (DoesV.reads (by rfl) fun w9 hS => by go_simp) ?_
    try simp only [List.getElem_toArray, List.getElem_cons_succ, List.getElem_cons_zero, Act.put, List.setIfInBounds_toArray, List.set_cons_succ, List.set_cons_zero]
    refine wpAnyV_take (i := 1) (v := .pointer (some ⟨g, 0, none⟩)) 8 (kept_below w) rfl (by kernel_rfl) (by kernel_rfl) (fun _ _ _ h => h) (fun _ h => h) (DoesV.reads (by rfl) fun w9 hS => by go_simp) ?_
    try simp only [List.getElem_toArray, List.getElem_cons_succ, List.getElem_cons_zero, Act.put, List.setIfInBounds_toArray, List.set_cons_succ, List.set_cons_zero]
    refine wpAnyV_take (i := 2) (v := .pointer (some ⟨g, 0, none⟩)) 8 (kept_below w) rfl (by kernel_rfl) (by kernel_rfl) (fun _ _ _ h => h) (fun _ h => h) (DoesV.reads (by rfl) fun w9 hS => by go_simp) ?_
    try simp only [List.getElem_toArray, List.getElem_cons_succ, List.getElem_cons_zero, Act.put, List.setIfInBounds_toArray, List.set_cons_succ, List.set_cons_zero]
    refine wpAnyV_take (i := 3) (v := .slice (some ⟨b, off, none⟩) l.length c) 8 (kept_below w) rfl (by kernel_rfl) (by kernel_rfl) (fun _ _ _ h => h) (fun _ h => h) (DoesV.reads (by rfl) fun w9 hS => by have q9 := (hS.cell (lt_of_cell Q0.out)).trans Q0.out; go_simp) ?_
    try simp only [List.getElem_toArray, List.getElem_cons_succ, List.getElem_cons_zero, Act.put, List.setIfInBounds_toArray, List.set_cons_succ, List.set_cons_zero]
    refine wpAnyV_take (i := 4) (v := .pointer (some ⟨g, 0, none⟩)) 8 (kept_below w) rfl (by kernel_rfl) (by kernel_rfl) (fun _ _ _ h => h) (fun _ h => h) (DoesV.reads (by rfl) fun w9 hS => by go_simp) ?_
    try simp only [List.getElem_toArray, List.getElem_cons_succ, List.getElem_cons_zero, Act.put, List.setIfInBounds_toArray, List.set_cons_succ, List.set_cons_zero]
    refine wpAnyV_take (i := 5) (v := .pointer (some ⟨g, 0, none⟩)) 8 (kept_below w) rfl (by kernel_rfl) (by kernel_rfl) (fun _ _ _ h => h) (fun _ h => h) (DoesV.reads (by rfl) fun w9 hS => by go_simp) ?_
    try simp only [List.getElem_toArray, List.getElem_cons_succ, List.getElem_cons_zero, Act.put, List.setIfInBounds_toArray, List.set_cons_succ, List.set_cons_zero]
    refine wpAnyV_take (i := 6) (v := .pointer (some ⟨g, 1, none⟩)) 8 (kept_below w) rfl (by kernel_rfl) (by kernel_rfl) (fun _ _ _ h => h) (fun _ h => h) (DoesV.reads (by rfl) fun w9 hS => by go_simp) ?_
    try simp only [List.getElem_toArray, List.getElem_cons_succ, List.getElem_cons_zero, Act.put, List.setIfInBounds_toArray, List.set_cons_succ, List.set_cons_zero]
    refine wpAnyV_take (i := 7) (v := .int .i64 (a : Int)) 8 (kept_below w) rfl (by kernel_rfl) (by kernel_rfl) (fun _ _ _ h => h) (fun _ h => h) (DoesV.reads (by rfl) fun w9 hS => by have q9 := (hS.cell (lt_of_cell Q1.out)).trans Q1.out; go_simp) ?_
    try simp only [List.getElem_toArray, List.getElem_cons_succ, List.getElem_cons_zero, Act.put, List.setIfInBounds_toArray, List.set_cons_succ, List.set_cons_zero]
    refine wpAnyV_take (i := 8) (v := .int .i64 (k : Int)) 8 (kept_below w) rfl (by kernel_rfl) (by kernel_rfl) (fun _ _ _ h => h) (fun _ h => h) (DoesV.reads (by rfl) fun w9 hS => by go_simp) ?_
    try simp only [List.getElem_toArray, List.getElem_cons_succ, List.getElem_cons_zero, Act.put, List.setIfInBounds_toArray, List.set_cons_succ, List.set_cons_zero]
    refine wpAnyV_take (i := 9) (v := .tuple #[.int .u64 x, .int .i64 0]) 8 (kept_below w) rfl (by kernel_rfl) (by kernel_rfl) (fun _ _ _ h => h) (fun _ h => h) (DoesV.calls 64 #[.slice (some ⟨b, off, none⟩) l.length c, .int .i64 (a : Int), .int .i64 (k : Int)] (by rfl) (fun w9 hS => by go_simp) (fun w9 hS => HG.out w9 (HR.out.below hS))) ?_
    try simp only [List.getElem_toArray, List.getElem_cons_succ, List.getElem_cons_zero, Act.put, List.setIfInBounds_toArray, List.set_cons_succ, List.set_cons_zero]
    refine wpAnyV_take (i := 10) (v := .tuple #[.int .u64 x, .int .i64 0]) 8 (kept_below w) rfl (by kernel_rfl) (by kernel_rfl) (fun _ _ _ h => h) (fun _ h => h) (DoesV.reads (by rfl) fun w9 hS => by go_simp) ?_
    try simp only [List.getElem_toArray, List.getElem_cons_succ, List.getElem_cons_zero, Act.put, List.setIfInBounds_toArray, List.set_cons_succ, List.set_cons_zero]
    refine wpAnyV_take (i := 11) (v := .int .u64 x) 8 (kept_below w) rfl (by kernel_rfl) (by kernel_rfl) (fun _ _ _ h => h) (fun _ h => h) (DoesV.reads (by rfl) fun w9 hS => by go_simp) ?_
    try simp only [List.getElem_toArray, List.getElem_cons_succ, List.getElem_cons_zero, Act.put, List.setIfInBounds_toArray, List.set_cons_succ, List.set_cons_zero]
    refine wpAnyV_take (i := 12) (v := .int .i64 0) 8 (kept_below w) rfl (by kernel_rfl) (by kernel_rfl) (fun _ _ _ h => h) (fun _ h => h) (DoesV.reads (by rfl) fun w9 hS => by go_simp) ?_
    try simp only [List.getElem_toArray, List.getElem_cons_succ, List.getElem_cons_zero, Act.put, List.setIfInBounds_toArray, List.set_cons_succ, List.set_cons_zero]
    refine wpAnyV_take (i := 13) (v := .int .u64 x) 8 (kept_below w) rfl (by kernel_rfl) (by kernel_rfl) (fun _ _ _ h => h) (fun _ h => h) (DoesV.reads (by rfl) fun w9 hS => by go_simp) ?_
    try simp only [List.getElem_toArray, List.getElem_cons_succ, List.getElem_cons_zero, Act.put, List.setIfInBounds_toArray, List.set_cons_succ, List.set_cons_zero]
    refine wpAnyV_take (i := 14) (v := .int .i64 0) 8 (kept_below w) rfl (by kernel_rfl) (by kernel_rfl) (fun _ _ _ h => h) (fun _ h => h) (DoesV.reads (by rfl) fun w9 hS => by go_simp) ?_
    try simp only [List.getElem_toArray, List.getElem_cons_succ, List.getElem_cons_zero, Act.put, List.setIfInBounds_toArray, List.set_cons_succ, List.set_cons_zero]
    refine wpAnyV_done (by kernel_rfl) (fun u hu => ?_) _
    have HU := Lib.hid hu
    have q1 := (hu.cell (lt_of_cell Q1.out)).trans Q1.out
    have HC2 := Lib.hid (HC.out.below hu HC.out.lt)
    clear hu
    go_wp2_with (first | ((with_reducible show wpList _ _ _ _ _ u); refine wpList_store1 rfl 3 _ _ rfl g 1 rfl (.int .i64 ((a : Int) + (k : Int))) rfl rfl (by kernel_rfl) 61 _ HC2.out (by simp [rdrC]) ?_; intro u2 hk ht; go_frame; have HC3 := Lib.hid hk; have T3 := Lib.hid ht; clear hk ht))
    go_ret
    exact ⟨rfl, (Turn.of_below HU.out _).trans T3.out fun _ _ h => h, rdrC_at HC3.out (by omega)⟩
  · simp only [if_neg hin]; rw [getV_short hs ha hin] at hget
    have HG := Lib.hid hget
    clear hget
    go_enter Try.func56, Try.ntmps56
    go_wp2_with fail
    refine wp_region_V [] (Below w.heap.size w) hmix ((Below.refl _ _).drew) ?_
    change wpAnyV _ _ _ _ _ _ _ _ _
    refine wpAnyV_take (i := 0) (v := .pointer (some ⟨g, 0, none⟩)) 8 (kept_below w) rfl (by kernel_rfl) (by kernel_rfl) (fun _ _ _ h => h) (fun _ h => h) (DoesV.reads (by rfl) fun w9 hS => by go_simp) ?_
    try simp only [List.getElem_toArray, List.getElem_cons_succ, List.getElem_cons_zero, Act.put, List.setIfInBounds_toArray, List.set_cons_succ, List.set_cons_zero]
    refine wpAnyV_take (i := 1) (v := .pointer (some ⟨g, 0, none⟩)) 8 (kept_below w) rfl (by kernel_rfl) (by kernel_rfl) (fun _ _ _ h => h) (fun _ h => h) (DoesV.reads (by rfl) fun w9 hS => by go_simp) ?_
    try simp only [List.getElem_toArray, List.getElem_cons_succ, List.getElem_cons_zero, Act.put, List.setIfInBounds_toArray, List.set_cons_succ, List.set_cons_zero]
    refine wpAnyV_take (i := 2) (v := .pointer (some ⟨g, 0, none⟩)) 8 (kept_below w) rfl (by kernel_rfl) (by kernel_rfl) (fun _ _ _ h => h) (fun _ h => h) (DoesV.reads (by rfl) fun w9 hS => by go_simp) ?_
    try simp only [List.getElem_toArray, List.getElem_cons_succ, List.getElem_cons_zero, Act.put, List.setIfInBounds_toArray, List.set_cons_succ, List.set_cons_zero]
    refine wpAnyV_take (i := 3) (v := .slice (some ⟨b, off, none⟩) l.length c) 8 (kept_below w) rfl (by kernel_rfl) (by kernel_rfl) (fun _ _ _ h => h) (fun _ h => h) (DoesV.reads (by rfl) fun w9 hS => by have q9 := (hS.cell (lt_of_cell Q0.out)).trans Q0.out; go_simp) ?_
    try simp only [List.getElem_toArray, List.getElem_cons_succ, List.getElem_cons_zero, Act.put, List.setIfInBounds_toArray, List.set_cons_succ, List.set_cons_zero]
    refine wpAnyV_take (i := 4) (v := .pointer (some ⟨g, 0, none⟩)) 8 (kept_below w) rfl (by kernel_rfl) (by kernel_rfl) (fun _ _ _ h => h) (fun _ h => h) (DoesV.reads (by rfl) fun w9 hS => by go_simp) ?_
    try simp only [List.getElem_toArray, List.getElem_cons_succ, List.getElem_cons_zero, Act.put, List.setIfInBounds_toArray, List.set_cons_succ, List.set_cons_zero]
    refine wpAnyV_take (i := 5) (v := .pointer (some ⟨g, 0, none⟩)) 8 (kept_below w) rfl (by kernel_rfl) (by kernel_rfl) (fun _ _ _ h => h) (fun _ h => h) (DoesV.reads (by rfl) fun w9 hS => by go_simp) ?_
    try simp only [List.getElem_toArray, List.getElem_cons_succ, List.getElem_cons_zero, Act.put, List.setIfInBounds_toArray, List.set_cons_succ, List.set_cons_zero]
    refine wpAnyV_take (i := 6) (v := .pointer (some ⟨g, 1, none⟩)) 8 (kept_below w) rfl (by kernel_rfl) (by kernel_rfl) (fun _ _ _ h => h) (fun _ h => h) (DoesV.reads (by rfl) fun w9 hS => by go_simp) ?_
    try simp only [List.getElem_toArray, List.getElem_cons_succ, List.getElem_cons_zero, Act.put, List.setIfInBounds_toArray, List.set_cons_succ, List.set_cons_zero]
    refine wpAnyV_take (i := 7) (v := .int .i64 (a : Int)) 8 (kept_below w) rfl (by kernel_rfl) (by kernel_rfl) (fun _ _ _ h => h) (fun _ h => h) (DoesV.reads (by rfl) fun w9 hS => by have q9 := (hS.cell (lt_of_cell Q1.out)).trans Q1.out; go_simp) ?_
    try simp only [List.getElem_toArray, List.getElem_cons_succ, List.getElem_cons_zero, Act.put, List.setIfInBounds_toArray, List.set_cons_succ, List.set_cons_zero]
    refine wpAnyV_take (i := 8) (v := .int .i64 (k : Int)) 8 (kept_below w) rfl (by kernel_rfl) (by kernel_rfl) (fun _ _ _ h => h) (fun _ h => h) (DoesV.reads (by rfl) fun w9 hS => by go_simp) ?_
    try simp only [List.getElem_toArray, List.getElem_cons_succ, List.getElem_cons_zero, Act.put, List.setIfInBounds_toArray, List.set_cons_succ, List.set_cons_zero]
    refine wpAnyV_take (i := 9) (v := .tuple #[.int .u64 0, .int .i64 4]) 8 (kept_below w) rfl (by kernel_rfl) (by kernel_rfl) (fun _ _ _ h => h) (fun _ h => h) (DoesV.calls 64 #[.slice (some ⟨b, off, none⟩) l.length c, .int .i64 (a : Int), .int .i64 (k : Int)] (by rfl) (fun w9 hS => by go_simp) (fun w9 hS => HG.out w9 (HR.out.below hS))) ?_
    try simp only [List.getElem_toArray, List.getElem_cons_succ, List.getElem_cons_zero, Act.put, List.setIfInBounds_toArray, List.set_cons_succ, List.set_cons_zero]
    refine wpAnyV_take (i := 10) (v := .tuple #[.int .u64 0, .int .i64 4]) 8 (kept_below w) rfl (by kernel_rfl) (by kernel_rfl) (fun _ _ _ h => h) (fun _ h => h) (DoesV.reads (by rfl) fun w9 hS => by go_simp) ?_
    try simp only [List.getElem_toArray, List.getElem_cons_succ, List.getElem_cons_zero, Act.put, List.setIfInBounds_toArray, List.set_cons_succ, List.set_cons_zero]
    refine wpAnyV_take (i := 11) (v := .int .u64 0) 8 (kept_below w) rfl (by kernel_rfl) (by kernel_rfl) (fun _ _ _ h => h) (fun _ h => h) (DoesV.reads (by rfl) fun w9 hS => by go_simp) ?_
    try simp only [List.getElem_toArray, List.getElem_cons_succ, List.getElem_cons_zero, Act.put, List.setIfInBounds_toArray, List.set_cons_succ, List.set_cons_zero]
    refine wpAnyV_take (i := 12) (v := .int .i64 4) 8 (kept_below w) rfl (by kernel_rfl) (by kernel_rfl) (fun _ _ _ h => h) (fun _ h => h) (DoesV.reads (by rfl) fun w9 hS => by go_simp) ?_
    try simp only [List.getElem_toArray, List.getElem_cons_succ, List.getElem_cons_zero, Act.put, List.setIfInBounds_toArray, List.set_cons_succ, List.set_cons_zero]
    refine wpAnyV_take (i := 13) (v := .int .u64 0) 8 (kept_below w) rfl (by kernel_rfl) (by kernel_rfl) (fun _ _ _ h => h) (fun _ h => h) (DoesV.reads (by rfl) fun w9 hS => by go_simp) ?_
    try simp only [List.getElem_toArray, List.getElem_cons_succ, List.getElem_cons_zero, Act.put, List.setIfInBounds_toArray, List.set_cons_succ, List.set_cons_zero]
    refine wpAnyV_take (i := 14) (v := .int .i64 4) 8 (kept_below w) rfl (by kernel_rfl) (by kernel_rfl) (fun _ _ _ h => h) (fun _ h => h) (DoesV.reads (by rfl) fun w9 hS => by go_simp) ?_
    try simp only [List.getElem_toArray, List.getElem_cons_succ, List.getElem_cons_zero, Act.put, List.setIfInBounds_toArray, List.set_cons_succ, List.set_cons_zero]
    refine wpAnyV_done (by kernel_rfl) (fun u hu => ?_) _
    have HU := Lib.hid hu
    have q1 := (hu.cell (lt_of_cell Q1.out)).trans Q1.out
    have HC2 := Lib.hid (HC.out.below hu HC.out.lt)
    clear hu
    go_wp2_with (first | ((with_reducible show wpList _ _ _ _ _ u); refine wpList_store1 rfl 4 _ _ rfl g 2 rfl (.bool true) rfl rfl (by kernel_rfl) 61 _ HC2.out (by simp [rdrC]) ?_; intro u2 hk ht; go_frame; have HC3 := Lib.hid hk; have T3 := Lib.hid ht; clear hk ht))
    go_ret
    exact ⟨rfl, (Turn.of_below HU.out _).trans T3.out fun _ _ h => h, rdrC_sh HC3.out⟩
def PieceRet (l : List UInt8) (A : Option Addr) (c a n : Nat) (sh : Bool) (g : Nat) (w : World) (e : Ending) (w' : World) : Prop :=
  if a + n ≤ l.length then (∃ v, e = .returned v ∧ BsV w' (w.heap.size ≤ ·) v ((l.drop a).take n)) ∧ RStep A l.length c g w w' (a + n) sh else e = .returned (.slice none 0 0) ∧ RStep A l.length c g w w' a true
set_option maxHeartbeats 2000000 in
theorem piece_any (l : List UInt8) (b off c a n : Nat) (sh : Bool) (g : Nat) (w : World) (hl : l.length ≤ 1000000000) (hn : n ≤ 1000000) (hlc : l.length ≤ c) (hcm : c ≤ maxLen) (ha : a ≤ l.length) (hr : Rd w (some ⟨b, off, none⟩) l) (hc : Cs w g 61 (rdrC (some ⟨b, off, none⟩) l.length c a sh).toArray) :
    Calls Try.prog 57 #[.pointer (some ⟨g, 0, none⟩), .int .i64 (n : Int)] w fun e w' => PieceRet l (some ⟨b, off, none⟩) c a n sh g w e w' := by
  have hmix : Try.prog.follows .mixedOrders = true := by kernel_rfl
  unfold PieceRet
  have HC := Lib.hid hc
  have HR := Lib.hid hr
  have Q0 := Lib.hid (rdrC_0 hc)
  have Q1 := Lib.hid (rdrC_1 hc)
  have ha' : (a : Int) ≤ (l.length : Int) := by omega
  have hn' : (n : Int) ≤ 1000000 := by omega
  have hl' : (l.length : Int) ≤ 1000000000 := by omega
  clear hc hr
  by_cases hin : a + n ≤ l.length
  · simp only [if_pos hin]
    have hgt : ¬ ((l.length : Int) - (a : Int) < (n : Int)) := by omega
    obtain ⟨o', hsl, ho'⟩ := cutB b off l.length c a (a + n) (by omega) (by omega)
    rw [show a + n - a = n by omega] at hsl
    have hsl2 : ∀ W, (Instr.slice 23 (.slice (some ⟨b, off, none⟩) l.length c) (some (.int .i64 (a : Int))) (some (.int .i64 ((a : Int) + (n : Int)))) none).run Try.prog W = .ok (.slice (some ⟨b, o', none⟩) n (c - a)) W := fun W => by rw [← hsl W]; rfl
    have HSL := Lib.hid hsl2
    have HPL := Lib.hid (show ((l.drop a).take n).length = n by rw [List.length_take, List.length_drop]; omega)
    have hcl := fun u (hu : Below w.heap.size w u) => Clone_ty ((l.drop a).take n) (some ⟨b, o', none⟩) (c - a) u (by rw [HPL.out]; omega) ((cut_rd HR.out ho' hlc hin).below hu) (fun h => by cases h)
    rw [HPL.out] at hcl
    have HCL := Lib.hid hcl
    clear hsl hsl2 hcl ho' hcm hlc
    go_enter Try.func57, Try.ntmps57
    go_wp2_with fail
    refine wp_region_V [] (Below w.heap.size w) hmix ((Below.refl _ _).drew) ?_
    change wpAnyV _ _ _ _ _ _ _ _ _
    refine wpAnyV_take (i := 0) (v := .int .i64 (n : Int)) 8 (kept_below w) rfl (by kernel_rfl) (by kernel_rfl) (fun _ _ _ h => h) (fun _ h => h) (DoesV.reads (by rfl) fun w9 hS => by go_simp) ?_
    try simp only [List.getElem_toArray, List.getElem_cons_succ, List.getElem_cons_zero, Act.put, List.setIfInBounds_toArray, List.set_cons_succ, List.set_cons_zero]
    refine wpAnyV_take (i := 1) (v := .pointer (some ⟨g, 0, none⟩)) 8 (kept_below w) rfl (by kernel_rfl) (by kernel_rfl) (fun _ _ _ h => h) (fun _ h => h) (DoesV.reads (by rfl) fun w9 hS => by go_simp) ?_
    try simp only [List.getElem_toArray, List.getElem_cons_succ, List.getElem_cons_zero, Act.put, List.setIfInBounds_toArray, List.set_cons_succ, List.set_cons_zero]
    refine wpAnyV_take (i := 2) (v := .pointer (some ⟨g, 0, none⟩)) 8 (kept_below w) rfl (by kernel_rfl) (by kernel_rfl) (fun _ _ _ h => h) (fun _ h => h) (DoesV.reads (by rfl) fun w9 hS => by go_simp) ?_
    try simp only [List.getElem_toArray, List.getElem_cons_succ, List.getElem_cons_zero, Act.put, List.setIfInBounds_toArray, List.set_cons_succ, List.set_cons_zero]
    refine wpAnyV_take (i := 3) (v := .pointer (some ⟨g, 0, none⟩)) 8 (kept_below w) rfl (by kernel_rfl) (by kernel_rfl) (fun _ _ _ h => h) (fun _ h => h) (DoesV.reads (by rfl) fun w9 hS => by go_simp) ?_
    try simp only [List.getElem_toArray, List.getElem_cons_succ, List.getElem_cons_zero, Act.put, List.setIfInBounds_toArray, List.set_cons_succ, List.set_cons_zero]
    refine wpAnyV_take (i := 4) (v := .slice (some ⟨b, off, none⟩) l.length c) 8 (kept_below w) rfl (by kernel_rfl) (by kernel_rfl) (fun _ _ _ h => h) (fun _ h => h) (DoesV.reads (by rfl) fun w9 hS => by have q9 := (hS.cell (lt_of_cell Q0.out)).trans Q0.out; go_simp) ?_
    try simp only [List.getElem_toArray, List.getElem_cons_succ, List.getElem_cons_zero, Act.put, List.setIfInBounds_toArray, List.set_cons_succ, List.set_cons_zero]
    refine wpAnyV_take (i := 5) (v := .int .i64 (l.length : Int)) 8 (kept_below w) rfl (by kernel_rfl) (by kernel_rfl) (fun _ _ _ h => h) (fun _ h => h) (DoesV.reads (by rfl) fun w9 hS => by go_simp) ?_
    try simp only [List.getElem_toArray, List.getElem_cons_succ, List.getElem_cons_zero, Act.put, List.setIfInBounds_toArray, List.set_cons_succ, List.set_cons_zero]
    refine wpAnyV_take (i := 6) (v := .pointer (some ⟨g, 0, none⟩)) 8 (kept_below w) rfl (by kernel_rfl) (by kernel_rfl) (fun _ _ _ h => h) (fun _ h => h) (DoesV.reads (by rfl) fun w9 hS => by go_simp) ?_
    try simp only [List.getElem_toArray, List.getElem_cons_succ, List.getElem_cons_zero, Act.put, List.setIfInBounds_toArray, List.set_cons_succ, List.set_cons_zero]
    refine wpAnyV_take (i := 7) (v := .pointer (some ⟨g, 0, none⟩)) 8 (kept_below w) rfl (by kernel_rfl) (by kernel_rfl) (fun _ _ _ h => h) (fun _ h => h) (DoesV.reads (by rfl) fun w9 hS => by go_simp) ?_
    try simp only [List.getElem_toArray, List.getElem_cons_succ, List.getElem_cons_zero, Act.put, List.setIfInBounds_toArray, List.set_cons_succ, List.set_cons_zero]
    refine wpAnyV_take (i := 8) (v := .pointer (some ⟨g, 1, none⟩)) 8 (kept_below w) rfl (by kernel_rfl) (by kernel_rfl) (fun _ _ _ h => h) (fun _ h => h) (DoesV.reads (by rfl) fun w9 hS => by go_simp) ?_
    try simp only [List.getElem_toArray, List.getElem_cons_succ, List.getElem_cons_zero, Act.put, List.setIfInBounds_toArray, List.set_cons_succ, List.set_cons_zero]
    refine wpAnyV_take (i := 9) (v := .int .i64 (a : Int)) 8 (kept_below w) rfl (by kernel_rfl) (by kernel_rfl) (fun _ _ _ h => h) (fun _ h => h) (DoesV.reads (by rfl) fun w9 hS => by have q9 := (hS.cell (lt_of_cell Q1.out)).trans Q1.out; go_simp) ?_
    try simp only [List.getElem_toArray, List.getElem_cons_succ, List.getElem_cons_zero, Act.put, List.setIfInBounds_toArray, List.set_cons_succ, List.set_cons_zero]
    refine wpAnyV_take (i := 10) (v := .int .i64 ((l.length : Int) - (a : Int))) 8 (kept_below w) rfl (by kernel_rfl) (by kernel_rfl) (fun _ _ _ h => h) (fun _ h => h) (DoesV.reads (by rfl) fun w9 hS => by go_simp; first | done | simp (disch := omega) only [IntWalk.i64_in]) ?_
    try simp only [List.getElem_toArray, List.getElem_cons_succ, List.getElem_cons_zero, Act.put, List.setIfInBounds_toArray, List.set_cons_succ, List.set_cons_zero]
    refine wpAnyV_take (i := 11) (v := .bool false) 8 (kept_below w) rfl (by kernel_rfl) (by kernel_rfl) (fun _ _ _ h => h) (fun _ h => h) (DoesV.reads (by rfl) fun w9 hS => by go_simp) ?_
    try simp only [List.getElem_toArray, List.getElem_cons_succ, List.getElem_cons_zero, Act.put, List.setIfInBounds_toArray, List.set_cons_succ, List.set_cons_zero]
    refine wpAnyV_done (by kernel_rfl) (fun u hu => ?_) _
    have HU := Lib.hid hu
    clear hu
    go_wp2_with fail
    refine wp_region_V [] (Below w.heap.size w) hmix (HU.out.drew) ?_
    change wpAnyV _ _ _ _ _ _ _ _ _
    refine wpAnyV_take (i := 0) (v := .pointer (some ⟨g, 0, none⟩)) 8 (kept_below w) rfl (by kernel_rfl) (by kernel_rfl) (fun _ _ _ h => h) (fun _ h => h) (DoesV.reads (by rfl) fun w9 hS => by go_simp) ?_
    try simp only [List.getElem_toArray, List.getElem_cons_succ, List.getElem_cons_zero, Act.put, List.setIfInBounds_toArray, List.set_cons_succ, List.set_cons_zero]
    refine wpAnyV_take (i := 1) (v := .pointer (some ⟨g, 0, none⟩)) 8 (kept_below w) rfl (by kernel_rfl) (by kernel_rfl) (fun _ _ _ h => h) (fun _ h => h) (DoesV.reads (by rfl) fun w9 hS => by go_simp) ?_
    try simp only [List.getElem_toArray, List.getElem_cons_succ, List.getElem_cons_zero, Act.put, List.setIfInBounds_toArray, List.set_cons_succ, List.set_cons_zero]
    refine wpAnyV_take (i := 2) (v := .pointer (some ⟨g, 0, none⟩)) 8 (kept_below w) rfl (by kernel_rfl) (by kernel_rfl) (fun _ _ _ h => h) (fun _ h => h) (DoesV.reads (by rfl) fun w9 hS => by go_simp) ?_
    try simp only [List.getElem_toArray, List.getElem_cons_succ, List.getElem_cons_zero, Act.put, List.setIfInBounds_toArray, List.set_cons_succ, List.set_cons_zero]
    refine wpAnyV_take (i := 3) (v := .slice (some ⟨b, off, none⟩) l.length c) 8 (kept_below w) rfl (by kernel_rfl) (by kernel_rfl) (fun _ _ _ h => h) (fun _ h => h) (DoesV.reads (by rfl) fun w9 hS => by have q9 := (hS.cell (lt_of_cell Q0.out)).trans Q0.out; go_simp) ?_
    try simp only [List.getElem_toArray, List.getElem_cons_succ, List.getElem_cons_zero, Act.put, List.setIfInBounds_toArray, List.set_cons_succ, List.set_cons_zero]
    refine wpAnyV_take (i := 4) (v := .pointer (some ⟨g, 0, none⟩)) 8 (kept_below w) rfl (by kernel_rfl) (by kernel_rfl) (fun _ _ _ h => h) (fun _ h => h) (DoesV.reads (by rfl) fun w9 hS => by go_simp) ?_
    try simp only [List.getElem_toArray, List.getElem_cons_succ, List.getElem_cons_zero, Act.put, List.setIfInBounds_toArray, List.set_cons_succ, List.set_cons_zero]
    refine wpAnyV_take (i := 5) (v := .pointer (some ⟨g, 0, none⟩)) 8 (kept_below w) rfl (by kernel_rfl) (by kernel_rfl) (fun _ _ _ h => h) (fun _ h => h) (DoesV.reads (by rfl) fun w9 hS => by go_simp) ?_
    try simp only [List.getElem_toArray, List.getElem_cons_succ, List.getElem_cons_zero, Act.put, List.setIfInBounds_toArray, List.set_cons_succ, List.set_cons_zero]
    refine wpAnyV_take (i := 6) (v := .pointer (some ⟨g, 1, none⟩)) 8 (kept_below w) rfl (by kernel_rfl) (by kernel_rfl) (fun _ _ _ h => h) (fun _ h => h) (DoesV.reads (by rfl) fun w9 hS => by go_simp) ?_
    try simp only [List.getElem_toArray, List.getElem_cons_succ, List.getElem_cons_zero, Act.put, List.setIfInBounds_toArray, List.set_cons_succ, List.set_cons_zero]
    refine wpAnyV_take (i := 7) (v := .int .i64 (a : Int)) 8 (kept_below w) rfl (by kernel_rfl) (by kernel_rfl) (fun _ _ _ h => h) (fun _ h => h) (DoesV.reads (by rfl) fun w9 hS => by have q9 := (hS.cell (lt_of_cell Q1.out)).trans Q1.out; go_simp) ?_
    try simp only [List.getElem_toArray, List.getElem_cons_succ, List.getElem_cons_zero, Act.put, List.setIfInBounds_toArray, List.set_cons_succ, List.set_cons_zero]
    refine wpAnyV_take (i := 8) (v := .pointer (some ⟨g, 0, none⟩)) 8 (kept_below w) rfl (by kernel_rfl) (by kernel_rfl) (fun _ _ _ h => h) (fun _ h => h) (DoesV.reads (by rfl) fun w9 hS => by go_simp) ?_
    try simp only [List.getElem_toArray, List.getElem_cons_succ, List.getElem_cons_zero, Act.put, List.setIfInBounds_toArray, List.set_cons_succ, List.set_cons_zero]
    refine wpAnyV_take (i := 9) (v := .pointer (some ⟨g, 0, none⟩)) 8 (kept_below w) rfl (by kernel_rfl) (by kernel_rfl) (fun _ _ _ h => h) (fun _ h => h) (DoesV.reads (by rfl) fun w9 hS => by go_simp) ?_
    try simp only [List.getElem_toArray, List.getElem_cons_succ, List.getElem_cons_zero, Act.put, List.setIfInBounds_toArray, List.set_cons_succ, List.set_cons_zero]
    refine wpAnyV_take (i := 10) (v := .pointer (some ⟨g, 1, none⟩)) 8 (kept_below w) rfl (by kernel_rfl) (by kernel_rfl) (fun _ _ _ h => h) (fun _ h => h) (DoesV.reads (by rfl) fun w9 hS => by go_simp) ?_
    try simp only [List.getElem_toArray, List.getElem_cons_succ, List.getElem_cons_zero, Act.put, List.setIfInBounds_toArray, List.set_cons_succ, List.set_cons_zero]
    refine wpAnyV_take (i := 11) (v := .int .i64 (a : Int)) 8 (kept_below w) rfl (by kernel_rfl) (by kernel_rfl) (fun _ _ _ h => h) (fun _ h => h) (DoesV.reads (by rfl) fun w9 hS => by have q9 := (hS.cell (lt_of_cell Q1.out)).trans Q1.out; go_simp) ?_
    try simp only [List.getElem_toArray, List.getElem_cons_succ, List.getElem_cons_zero, Act.put, List.setIfInBounds_toArray, List.set_cons_succ, List.set_cons_zero]
    refine wpAnyV_take (i := 12) (v := .int .i64 (n : Int)) 8 (kept_below w) rfl (by kernel_rfl) (by kernel_rfl) (fun _ _ _ h => h) (fun _ h => h) (DoesV.reads (by rfl) fun w9 hS => by go_simp) ?_
    try simp only [List.getElem_toArray, List.getElem_cons_succ, List.getElem_cons_zero, Act.put, List.setIfInBounds_toArray, List.set_cons_succ, List.set_cons_zero]
    refine wpAnyV_take (i := 13) (v := .int .i64 ((a : Int) + (n : Int))) 8 (kept_below w) rfl (by kernel_rfl) (by kernel_rfl) (fun _ _ _ h => h) (fun _ h => h) (DoesV.reads (by rfl) fun w9 hS => by go_simp; first | done | simp (disch := omega) only [IntWalk.i64_in]) ?_
    try simp only [List.getElem_toArray, List.getElem_cons_succ, List.getElem_cons_zero, Act.put, List.setIfInBounds_toArray, List.set_cons_succ, List.set_cons_zero]
    refine wpAnyV_take (i := 14) (v := .slice (some ⟨b, o', none⟩) n (c - a)) 8 (kept_below w) rfl (by kernel_rfl) (by kernel_rfl) (fun _ _ _ h => h) (fun _ h => h) (DoesV.reads (by rfl) fun w9 hS => by have h9 := HSL.out w9; go_simp) ?_
    try simp only [List.getElem_toArray, List.getElem_cons_succ, List.getElem_cons_zero, Act.put, List.setIfInBounds_toArray, List.set_cons_succ, List.set_cons_zero]
    refine wpAnyV_only (i := 15) rfl (by kernel_rfl) rfl (fun y hS => wp_of_call (by go_simp) (HCL.out y hS) fun e y' ⟨v1, he, hv, hty, hk, hb⟩ => ⟨v1, he, (fun z => Below w.heap.size w z ∧ BsV z (w.heap.size ≤ ·) v1 ((l.drop a).take n)), ⟨below_chain hS hb, hv.mono fun q _ h => Nat.le_trans hS.size h⟩, kept_and (kept_below w) (kept_bsv _ _ _), fun _ y h => h.1, ?_⟩)
    try simp only [List.getElem_toArray, List.getElem_cons_succ, List.getElem_cons_zero, Act.put, List.setIfInBounds_toArray, List.set_cons_succ, List.set_cons_zero]
    refine wpAnyV_take (i := 16) (v := v1) 8 (kept_and (kept_below w) (kept_bsv _ _ _)) rfl (by kernel_rfl) (by kernel_rfl) (fun _ _ _ h => h) (fun _ h => h) (DoesV.reads (by rfl) fun w9 hS => by go_simp) ?_
    try simp only [List.getElem_toArray, List.getElem_cons_succ, List.getElem_cons_zero, Act.put, List.setIfInBounds_toArray, List.set_cons_succ, List.set_cons_zero]
    refine wpAnyV_done (by kernel_rfl) (fun u2 hu => ?_) _
    have HU2 := Lib.hid hu.1
    have HV := Lib.hid hu.2
    have q1 := (hu.1.cell (lt_of_cell Q1.out)).trans Q1.out
    have HC2 := Lib.hid (HC.out.below hu.1 HC.out.lt)
    clear hu
    go_wp2_with (first | ((with_reducible show wpList _ _ _ _ _ u2); refine wpList_store1 rfl 3 _ _ rfl g 1 rfl (.int .i64 ((a : Int) + (n : Int))) rfl rfl (by kernel_rfl) 61 _ HC2.out (by simp [rdrC]) ?_; intro u3 hk ht; go_frame; have HC3 := Lib.hid hk; have T3 := Lib.hid ht; clear hk ht))
    go_ret
    have HGW := HC.out.lt
    exact ⟨⟨_, rfl, HV.out.turn T3.out fun q h e => by omega⟩, (Turn.of_below HU2.out _).trans T3.out fun _ _ h => h, rdrC_at HC3.out (by omega)⟩
  · simp only [if_neg hin]
    have hgt : (l.length : Int) - (a : Int) < (n : Int) := by omega
    go_enter Try.func57, Try.ntmps57
    go_wp2_with fail
    refine wp_region_V [] (Below w.heap.size w) hmix ((Below.refl _ _).drew) ?_
    change wpAnyV _ _ _ _ _ _ _ _ _
    refine wpAnyV_take (i := 0) (v := .int .i64 (n : Int)) 8 (kept_below w) rfl (by kernel_rfl) (by kernel_rfl) (fun _ _ _ h => h) (fun _ h => h) (DoesV.reads (by rfl) fun w9 hS => by go_simp) ?_
    try simp only [List.getElem_toArray, List.getElem_cons_succ, List.getElem_cons_zero, Act.put, List.setIfInBounds_toArray, List.set_cons_succ, List.set_cons_zero]
    refine wpAnyV_take (i := 1) (v := .pointer (some ⟨g, 0, none⟩)) 8 (kept_below w) rfl (by kernel_rfl) (by kernel_rfl) (fun _ _ _ h => h) (fun _ h => h) (DoesV.reads (by rfl) fun w9 hS => by go_simp) ?_
    try simp only [List.getElem_toArray, List.getElem_cons_succ, List.getElem_cons_zero, Act.put, List.setIfInBounds_toArray, List.set_cons_succ, List.set_cons_zero]
    refine wpAnyV_take (i := 2) (v := .pointer (some ⟨g, 0, none⟩)) 8 (kept_below w) rfl (by kernel_rfl) (by kernel_rfl) (fun _ _ _ h => h) (fun _ h => h) (DoesV.reads (by rfl) fun w9 hS => by go_simp) ?_
    try simp only [List.getElem_toArray, List.getElem_cons_succ, List.getElem_cons_zero, Act.put, List.setIfInBounds_toArray, List.set_cons_succ, List.set_cons_zero]
    refine wpAnyV_take (i := 3) (v := .pointer (some ⟨g, 0, none⟩)) 8 (kept_below w) rfl (by kernel_rfl) (by kernel_rfl) (fun _ _ _ h => h) (fun _ h => h) (DoesV.reads (by rfl) fun w9 hS => by go_simp) ?_
    try simp only [List.getElem_toArray, List.getElem_cons_succ, List.getElem_cons_zero, Act.put, List.setIfInBounds_toArray, List.set_cons_succ, List.set_cons_zero]
    refine wpAnyV_take (i := 4) (v := .slice (some ⟨b, off, none⟩) l.length c) 8 (kept_below w) rfl (by kernel_rfl) (by kernel_rfl) (fun _ _ _ h => h) (fun _ h => h) (DoesV.reads (by rfl) fun w9 hS => by have q9 := (hS.cell (lt_of_cell Q0.out)).trans Q0.out; go_simp) ?_
    try simp only [List.getElem_toArray, List.getElem_cons_succ, List.getElem_cons_zero, Act.put, List.setIfInBounds_toArray, List.set_cons_succ, List.set_cons_zero]
    refine wpAnyV_take (i := 5) (v := .int .i64 (l.length : Int)) 8 (kept_below w) rfl (by kernel_rfl) (by kernel_rfl) (fun _ _ _ h => h) (fun _ h => h) (DoesV.reads (by rfl) fun w9 hS => by go_simp) ?_
    try simp only [List.getElem_toArray, List.getElem_cons_succ, List.getElem_cons_zero, Act.put, List.setIfInBounds_toArray, List.set_cons_succ, List.set_cons_zero]
    refine wpAnyV_take (i := 6) (v := .pointer (some ⟨g, 0, none⟩)) 8 (kept_below w) rfl (by kernel_rfl) (by kernel_rfl) (fun _ _ _ h => h) (fun _ h => h) (DoesV.reads (by rfl) fun w9 hS => by go_simp) ?_
    try simp only [List.getElem_toArray, List.getElem_cons_succ, List.getElem_cons_zero, Act.put, List.setIfInBounds_toArray, List.set_cons_succ, List.set_cons_zero]
    refine wpAnyV_take (i := 7) (v := .pointer (some ⟨g, 0, none⟩)) 8 (kept_below w) rfl (by kernel_rfl) (by kernel_rfl) (fun _ _ _ h => h) (fun _ h => h) (DoesV.reads (by rfl) fun w9 hS => by go_simp) ?_
    try simp only [List.getElem_toArray, List.getElem_cons_succ, List.getElem_cons_zero, Act.put, List.setIfInBounds_toArray, List.set_cons_succ, List.set_cons_zero]
    refine wpAnyV_take (i := 8) (v := .pointer (some ⟨g, 1, none⟩)) 8 (kept_below w) rfl (by kernel_rfl) (by kernel_rfl) (fun _ _ _ h => h) (fun _ h => h) (DoesV.reads (by rfl) fun w9 hS => by go_simp) ?_
    try simp only [List.getElem_toArray, List.getElem_cons_succ, List.getElem_cons_zero, Act.put, List.setIfInBounds_toArray, List.set_cons_succ, List.set_cons_zero]
    refine wpAnyV_take (i := 9) (v := .int .i64 (a : Int)) 8 (kept_below w) rfl (by kernel_rfl) (by kernel_rfl) (fun _ _ _ h => h) (fun _ h => h) (DoesV.reads (by rfl) fun w9 hS => by have q9 := (hS.cell (lt_of_cell Q1.out)).trans Q1.out; go_simp) ?_
    try simp only [List.getElem_toArray, List.getElem_cons_succ, List.getElem_cons_zero, Act.put, List.setIfInBounds_toArray, List.set_cons_succ, List.set_cons_zero]
    refine wpAnyV_take (i := 10) (v := .int .i64 ((l.length : Int) - (a : Int))) 8 (kept_below w) rfl (by kernel_rfl) (by kernel_rfl) (fun _ _ _ h => h) (fun _ h => h) (DoesV.reads (by rfl) fun w9 hS => by go_simp; first | done | simp (disch := omega) only [IntWalk.i64_in]) ?_
    try simp only [List.getElem_toArray, List.getElem_cons_succ, List.getElem_cons_zero, Act.put, List.setIfInBounds_toArray, List.set_cons_succ, List.set_cons_zero]
    refine wpAnyV_take (i := 11) (v := .bool true) 8 (kept_below w) rfl (by kernel_rfl) (by kernel_rfl) (fun _ _ _ h => h) (fun _ h => h) (DoesV.reads (by rfl) fun w9 hS => by go_simp) ?_
    try simp only [List.getElem_toArray, List.getElem_cons_succ, List.getElem_cons_zero, Act.put, List.setIfInBounds_toArray, List.set_cons_succ, List.set_cons_zero]
    refine wpAnyV_done (by kernel_rfl) (fun u hu => ?_) _
    have HU := Lib.hid hu
    have HC2 := Lib.hid (HC.out.below hu HC.out.lt)
    clear hu
    go_wp2_with (first | ((with_reducible show wpList _ _ _ _ _ u); refine wpList_store1 rfl 4 _ _ rfl g 2 rfl (.bool true) rfl rfl (by kernel_rfl) 61 _ HC2.out (by simp [rdrC]) ?_; intro u2 hk ht; go_frame; have HC3 := Lib.hid hk; have T3 := Lib.hid ht; clear hk ht))
    go_ret
    exact ⟨rfl, (Turn.of_below HU.out _).trans T3.out fun _ _ h => h, rdrC_sh HC3.out⟩

end Go.Proofs.Ytiemphfikfigdaa
