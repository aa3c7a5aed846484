/- SWEPT -/
import Derived.Test.YtfgbpinfplllgaaGreatDoorZBatRK
import Derived.Test.YtfgbpinfplllgaaGreatDoorZBchAK
import Derived.Test.YtfgbpinfplllgaaGreatDoorZBchBK
import Derived.Test.YtfgbpinfplllgaaGreatDoorZTblK
import Derived.Test.YtfgbpinfplllgaaGreatDoorZWordsK
set_option linter.unusedVariables false
set_option linter.unusedSimpArgs false
open List (getElem_toArray getElem_cons_succ getElem_cons_zero setIfInBounds_toArray set_cons_succ set_cons_zero)
open Go.Lib (hid)
namespace Go.Proofs.YtfgbpinfplllgaaGreatDoor
open Go.RowKit Go.Shelf
set_option maxRecDepth 100000
theorem cutB (b o len cap l h : Nat) (hl : l ≤ h) (hh : h ≤ cap) : ∃ o', (∀ W, (Instr.slice 60 (.slice (some ⟨b, o, none⟩) len cap) (some (.int .i64 (l : Int))) (some (.int .i64 (h : Int))) none).run Tryz.prog W = .ok (.slice (some ⟨b, o', none⟩) (h - l) (cap - l)) W) ∧ (l < cap → o' = o + l) := by
  have ht' : Tryz.prog.underlying 60 = some (.slice (Tryz.prog.elem 60)) := by simp [Program.elem, Tryz.underlying60]
  have he : Tryz.prog.elem 60 = 5 := by simp [Program.elem, Tryz.underlying60]
  have hrun : ∀ W, (Instr.slice 60 (.slice (some ⟨b, o, none⟩) len cap) (some (.int .i64 (l : Int))) (some (.int .i64 (h : Int))) none).run Tryz.prog W = .ok (sliced (some ⟨b, o, none⟩) l h cap 1) W := fun W => by
    rw [run_slice_lh W 60 _ _ _ ht' .i64 .i64 _ _ (by omega) (by omega) (by omega), he, Tryz.sizeOf5]
    rfl
  by_cases hne : cap = l
  · obtain rfl : h = l := by omega
    subst hne
    refine ⟨o, fun W => ?_, fun h => absurd h (Nat.lt_irrefl _)⟩
    rw [hrun]
    simp [sliced]
  · refine ⟨o + l, fun W => ?_, fun _ => rfl⟩
    rw [hrun]
    by_cases h0 : l = 0
    · subst h0
      simp [sliced, Addr.add, hne]
    · simp [sliced, Addr.add, hne, h0]
theorem cut_rd {w : World} {b o o' cap a n : Nat} {l : List UInt8} (hr : Rd w (some ⟨b, o, none⟩) l) (ho : a < cap → o' = o + a) (hc : l.length ≤ cap) (ha : a + n ≤ l.length) : Rd w (some ⟨b, o', none⟩) ((l.drop a).take n) := by
  by_cases h : a < cap
  · rw [ho h]
    exact rd_take (rd_off hr a) n
  · left
    rw [List.drop_of_length_le (by omega)]
    simp
def rdrC (A : Option Addr) (n c at' : Nat) (sh : Bool) : List Value := [.slice A n c, .int .i64 (at' : Int), .bool sh]
theorem rdrC_0 {w : World} {g : Nat} {A : Option Addr} {n c a : Nat} {sh : Bool} (h : Cs w g 235 (rdrC A n c a sh).toArray) : w.cell? ⟨g, 0, none⟩ = some (.slice A n c) := h.cell 0 rfl
theorem rdrC_1 {w : World} {g : Nat} {A : Option Addr} {n c a : Nat} {sh : Bool} (h : Cs w g 235 (rdrC A n c a sh).toArray) : w.cell? ⟨g, 1, none⟩ = some (.int .i64 (a : Int)) := h.cell 1 rfl
theorem rdrC_2 {w : World} {g : Nat} {A : Option Addr} {n c a : Nat} {sh : Bool} (h : Cs w g 235 (rdrC A n c a sh).toArray) : w.cell? ⟨g, 2, none⟩ = some (.bool sh) := h.cell 2 rfl
theorem rdrC_at {w : World} {g : Nat} {A : Option Addr} {n c a a' : Nat} {x : Int} {sh : Bool} (h : Cs w g 235 ((rdrC A n c a sh).toArray.setIfInBounds 1 (.int .i64 x))) (e : x = (a' : Int)) : Cs w g 235 (rdrC A n c a' sh).toArray := by
  subst e
  exact h
theorem rdrC_sh {w : World} {g : Nat} {A : Option Addr} {n c a : Nat} {sh : Bool} (h : Cs w g 235 ((rdrC A n c a sh).toArray.setIfInBounds 2 (.bool true))) : Cs w g 235 (rdrC A n c a true).toArray := h
structure RStep (A : Option Addr) (n c g : Nat) (w w' : World) (a : Nat) (sh : Bool) : Prop where
  turn : Turn w w' (· = g)
  at' : Cs w' g 235 (rdrC A n c a sh).toArray
def NumBRet (l : List UInt8) (A : Option Addr) (c a k : Nat) (sh : Bool) (g : Nat) (w : World) (e : Ending) (w' : World) : Prop :=
  if a + k ≤ l.length then e = .returned (.int .i64 (beSum (seg l a k))) ∧ RStep A l.length c g w w' (a + k) sh else e = .returned (.int .i64 0) ∧ RStep A l.length c g w w' a true
theorem getV_has {l : List UInt8} {a k : Nat} (hs : sizeB k = true) (h : a + k ≤ l.length) : getV l a k = .tuple #[.int .u64 (beSum (seg l a k)), .int .i64 0] := by
  unfold getV
  rw [if_neg (by rw [hs]; simp [placeB]; omega), if_neg (by omega)]
  simp
theorem getV_short {l : List UInt8} {a k : Nat} (hs : sizeB k = true) (ha : a ≤ l.length) (h : ¬ a + k ≤ l.length) : getV l a k = .tuple #[.int .u64 0, .int .i64 4] := by
  unfold getV
  rw [if_neg (by rw [hs]; simp [placeB]; omega), if_pos (by omega)]
set_option maxHeartbeats 2000000 in
theorem bnumber_any (l : List UInt8) (b off c a k : Nat) (sh : Bool) (g : Nat) (w : World) (hl : l.length ≤ 1000000000) (hlc : l.length ≤ c) (hs : sizeB k = true) (hk : k ≤ 8) (hk2 : k ≤ 2) (ha : a ≤ l.length) (hr : Rd w (some ⟨b, off, none⟩) l) (hc : Cs w g 235 (rdrC (some ⟨b, off, none⟩) l.length c a sh).toArray) :
    Calls Tryz.prog 179 #[.pointer (some ⟨g, 0, none⟩), .int .i64 (k : Int)] w fun e w' => NumBRet l (some ⟨b, off, none⟩) c a k sh g w e w' := by
  have hmix : Tryz.prog.follows .mixedOrders = true := by kernel_rfl
  unfold NumBRet
  have hget := fun u hu => Get_any l (some ⟨b, off, none⟩) c a k u (by unfold maxLen; omega) hlc hu
  have HC := hid hc
  have HR := hid hr
  have Q0 := hid (rdrC_0 hc)
  have Q1 := hid (rdrC_1 hc)
  have ha' : (a : Int) ≤ 1000000000 := by omega
  have hk' : (k : Int) ≤ 8 := by omega
  clear hc hr hlc
  by_cases hin : a + k ≤ l.length
  · simp only [if_pos hin]; rw [getV_has hs hin] at hget
    have hx := beSum_bd l a k
    have hx2 : (256 : Int) ^ k ≤ 65536 := by
      have h3 : (256 : Nat) ^ k ≤ 256 ^ 2 := Nat.pow_le_pow_right (by decide) hk2
      have h4 : ((256 ^ k : Nat) : Int) = 256 ^ k := Int.natCast_pow 256 k
      have h5 : (256 : Nat) ^ 2 = 65536 := by decide
      omega
    have hx3 : 0 ≤ beSum (seg l a k) ∧ beSum (seg l a k) ≤ 65536 := ⟨hx.1, by omega⟩
    clear hx hx2
    generalize beSum (seg l a k) = x at *
    have HG := hid hget
    clear hget
    go_enter Tryz.func179, Tryz.ntmps179
    go_wp2_with fail
    refine wp_region_V [] (Below w.heap.size w) hmix ((Below.refl _ _).drew) ?_
    change wpAnyV _ _ _ _ _ _ _ _ _
    refine wpW (i := 0) (v := .pointer (some ⟨g, 0, none⟩)) (kept_below w) rfl (DR fun w9 hS => by go_simp) ?_
    try simp only [getElem_toArray, getElem_cons_succ, getElem_cons_zero, Act.put, setIfInBounds_toArray, set_cons_succ, set_cons_zero]
    refine wpW (i := 1) (v := .pointer (some ⟨g, 0, none⟩)) (kept_below w) rfl (DR fun w9 hS => by go_simp) ?_
    try simp only [getElem_toArray, getElem_cons_succ, getElem_cons_zero, Act.put, setIfInBounds_toArray, set_cons_succ, set_cons_zero]
    refine wpW (i := 2) (v := .pointer (some ⟨g, 0, none⟩)) (kept_below w) rfl (DR fun w9 hS => by go_simp) ?_
    try simp only [getElem_toArray, getElem_cons_succ, getElem_cons_zero, Act.put, setIfInBounds_toArray, set_cons_succ, set_cons_zero]
    refine wpW (i := 3) (v := .slice (some ⟨b, off, none⟩) l.length c) (kept_below w) rfl (DR fun w9 hS => by have q9 := (hS.cell (lt_of_cell Q0.out)).trans Q0.out; go_simp) ?_
    try simp only [getElem_toArray, getElem_cons_succ, getElem_cons_zero, Act.put, setIfInBounds_toArray, set_cons_succ, set_cons_zero]
    refine wpW (i := 4) (v := .pointer (some ⟨g, 0, none⟩)) (kept_below w) rfl (DR fun w9 hS => by go_simp) ?_
    try simp only [getElem_toArray, getElem_cons_succ, getElem_cons_zero, Act.put, setIfInBounds_toArray, set_cons_succ, set_cons_zero]
    refine wpW (i := 5) (v := .pointer (some ⟨g, 0, none⟩)) (kept_below w) rfl (DR fun w9 hS => by go_simp) ?_
    try simp only [getElem_toArray, getElem_cons_succ, getElem_cons_zero, Act.put, setIfInBounds_toArray, set_cons_succ, set_cons_zero]
    refine wpW (i := 6) (v := .pointer (some ⟨g, 1, none⟩)) (kept_below w) rfl (DR fun w9 hS => by go_simp) ?_
    try simp only [getElem_toArray, getElem_cons_succ, getElem_cons_zero, Act.put, setIfInBounds_toArray, set_cons_succ, set_cons_zero]
    refine wpW (i := 7) (v := .int .i64 (a : Int)) (kept_below w) rfl (DR fun w9 hS => by have q9 := (hS.cell (lt_of_cell Q1.out)).trans Q1.out; go_simp) ?_
    try simp only [getElem_toArray, getElem_cons_succ, getElem_cons_zero, Act.put, setIfInBounds_toArray, set_cons_succ, set_cons_zero]
    refine wpW (i := 8) (v := .int .i64 (k : Int)) (kept_below w) rfl (DR fun w9 hS => by go_simp) ?_
    try simp only [getElem_toArray, getElem_cons_succ, getElem_cons_zero, Act.put, setIfInBounds_toArray, set_cons_succ, set_cons_zero]
    refine wpW (i := 9) (v := .tuple #[.int .u64 x, .int .i64 0]) (kept_below w) rfl (DoesV.calls 167 #[.slice (some ⟨b, off, none⟩) l.length c, .int .i64 (a : Int), .int .i64 (k : Int)] (by rfl) (fun w9 hS => by go_simp) (fun w9 hS => HG.out w9 (HR.out.below hS))) ?_
    try simp only [getElem_toArray, getElem_cons_succ, getElem_cons_zero, Act.put, setIfInBounds_toArray, set_cons_succ, set_cons_zero]
    refine wpW (i := 10) (v := .tuple #[.int .u64 x, .int .i64 0]) (kept_below w) rfl (DR fun w9 hS => by go_simp) ?_
    try simp only [getElem_toArray, getElem_cons_succ, getElem_cons_zero, Act.put, setIfInBounds_toArray, set_cons_succ, set_cons_zero]
    refine wpW (i := 11) (v := .int .u64 x) (kept_below w) rfl (DR fun w9 hS => by go_simp) ?_
    try simp only [getElem_toArray, getElem_cons_succ, getElem_cons_zero, Act.put, setIfInBounds_toArray, set_cons_succ, set_cons_zero]
    refine wpW (i := 12) (v := .int .i64 0) (kept_below w) rfl (DR fun w9 hS => by go_simp) ?_
    try simp only [getElem_toArray, getElem_cons_succ, getElem_cons_zero, Act.put, setIfInBounds_toArray, set_cons_succ, set_cons_zero]
    refine wpW (i := 13) (v := .int .u64 x) (kept_below w) rfl (DR fun w9 hS => by go_simp) ?_
    try simp only [getElem_toArray, getElem_cons_succ, getElem_cons_zero, Act.put, setIfInBounds_toArray, set_cons_succ, set_cons_zero]
    refine wpW (i := 14) (v := .int .i64 0) (kept_below w) rfl (DR fun w9 hS => by go_simp) ?_
    try simp only [getElem_toArray, getElem_cons_succ, getElem_cons_zero, Act.put, setIfInBounds_toArray, set_cons_succ, set_cons_zero]
    refine wpAnyV_done (by kernel_rfl) (fun u hu => ?_) _
    have HU := hid hu
    have q1 := (hu.cell (lt_of_cell Q1.out)).trans Q1.out
    have HC2 := hid (HC.out.below hu HC.out.lt)
    clear hu
    go_wp2_with (first | ((with_reducible show wpList _ _ _ _ _ u); refine wpList_store1 rfl 3 _ _ rfl g 1 rfl (.int .i64 ((a : Int) + (k : Int))) rfl rfl (by kernel_rfl) 235 _ HC2.out (by simp [rdrC]) ?_; intro u2 hk ht; go_frame; have HC3 := hid hk; have T3 := hid ht; clear hk ht))
    go_ret
    exact ⟨rfl, (Turn.of_below HU.out _).trans T3.out fun _ _ h => h, rdrC_at HC3.out (by omega)⟩
  · simp only [if_neg hin]; rw [getV_short hs ha hin] at hget
    have HG := hid hget
    clear hget
    go_enter Tryz.func179, Tryz.ntmps179
    go_wp2_with fail
    refine wp_region_V [] (Below w.heap.size w) hmix ((Below.refl _ _).drew) ?_
    change wpAnyV _ _ _ _ _ _ _ _ _
    refine wpW (i := 0) (v := .pointer (some ⟨g, 0, none⟩)) (kept_below w) rfl (DR fun w9 hS => by go_simp) ?_
    try simp only [getElem_toArray, getElem_cons_succ, getElem_cons_zero, Act.put, setIfInBounds_toArray, set_cons_succ, set_cons_zero]
    refine wpW (i := 1) (v := .pointer (some ⟨g, 0, none⟩)) (kept_below w) rfl (DR fun w9 hS => by go_simp) ?_
    try simp only [getElem_toArray, getElem_cons_succ, getElem_cons_zero, Act.put, setIfInBounds_toArray, set_cons_succ, set_cons_zero]
    refine wpW (i := 2) (v := .pointer (some ⟨g, 0, none⟩)) (kept_below w) rfl (DR fun w9 hS => by go_simp) ?_
    try simp only [getElem_toArray, getElem_cons_succ, getElem_cons_zero, Act.put, setIfInBounds_toArray, set_cons_succ, set_cons_zero]
    refine wpW (i := 3) (v := .slice (some ⟨b, off, none⟩) l.length c) (kept_below w) rfl (DR fun w9 hS => by have q9 := (hS.cell (lt_of_cell Q0.out)).trans Q0.out; go_simp) ?_
    try simp only [getElem_toArray, getElem_cons_succ, getElem_cons_zero, Act.put, setIfInBounds_toArray, set_cons_succ, set_cons_zero]
    refine wpW (i := 4) (v := .pointer (some ⟨g, 0, none⟩)) (kept_below w) rfl (DR fun w9 hS => by go_simp) ?_
    try simp only [getElem_toArray, getElem_cons_succ, getElem_cons_zero, Act.put, setIfInBounds_toArray, set_cons_succ, set_cons_zero]
    refine wpW (i := 5) (v := .pointer (some ⟨g, 0, none⟩)) (kept_below w) rfl (DR fun w9 hS => by go_simp) ?_
    try simp only [getElem_toArray, getElem_cons_succ, getElem_cons_zero, Act.put, setIfInBounds_toArray, set_cons_succ, set_cons_zero]
    refine wpW (i := 6) (v := .pointer (some ⟨g, 1, none⟩)) (kept_below w) rfl (DR fun w9 hS => by go_simp) ?_
    try simp only [getElem_toArray, getElem_cons_succ, getElem_cons_zero, Act.put, setIfInBounds_toArray, set_cons_succ, set_cons_zero]
    refine wpW (i := 7) (v := .int .i64 (a : Int)) (kept_below w) rfl (DR fun w9 hS => by have q9 := (hS.cell (lt_of_cell Q1.out)).trans Q1.out; go_simp) ?_
    try simp only [getElem_toArray, getElem_cons_succ, getElem_cons_zero, Act.put, setIfInBounds_toArray, set_cons_succ, set_cons_zero]
    refine wpW (i := 8) (v := .int .i64 (k : Int)) (kept_below w) rfl (DR fun w9 hS => by go_simp) ?_
    try simp only [getElem_toArray, getElem_cons_succ, getElem_cons_zero, Act.put, setIfInBounds_toArray, set_cons_succ, set_cons_zero]
    refine wpW (i := 9) (v := .tuple #[.int .u64 0, .int .i64 4]) (kept_below w) rfl (DoesV.calls 167 #[.slice (some ⟨b, off, none⟩) l.length c, .int .i64 (a : Int), .int .i64 (k : Int)] (by rfl) (fun w9 hS => by go_simp) (fun w9 hS => HG.out w9 (HR.out.below hS))) ?_
    try simp only [getElem_toArray, getElem_cons_succ, getElem_cons_zero, Act.put, setIfInBounds_toArray, set_cons_succ, set_cons_zero]
    refine wpW (i := 10) (v := .tuple #[.int .u64 0, .int .i64 4]) (kept_below w) rfl (DR fun w9 hS => by go_simp) ?_
    try simp only [getElem_toArray, getElem_cons_succ, getElem_cons_zero, Act.put, setIfInBounds_toArray, set_cons_succ, set_cons_zero]
    refine wpW (i := 11) (v := .int .u64 0) (kept_below w) rfl (DR fun w9 hS => by go_simp) ?_
    try simp only [getElem_toArray, getElem_cons_succ, getElem_cons_zero, Act.put, setIfInBounds_toArray, set_cons_succ, set_cons_zero]
    refine wpW (i := 12) (v := .int .i64 4) (kept_below w) rfl (DR fun w9 hS => by go_simp) ?_
    try simp only [getElem_toArray, getElem_cons_succ, getElem_cons_zero, Act.put, setIfInBounds_toArray, set_cons_succ, set_cons_zero]
    refine wpW (i := 13) (v := .int .u64 0) (kept_below w) rfl (DR fun w9 hS => by go_simp) ?_
    try simp only [getElem_toArray, getElem_cons_succ, getElem_cons_zero, Act.put, setIfInBounds_toArray, set_cons_succ, set_cons_zero]
    refine wpW (i := 14) (v := .int .i64 4) (kept_below w) rfl (DR fun w9 hS => by go_simp) ?_
    try simp only [getElem_toArray, getElem_cons_succ, getElem_cons_zero, Act.put, setIfInBounds_toArray, set_cons_succ, set_cons_zero]
    refine wpAnyV_done (by kernel_rfl) (fun u hu => ?_) _
    have HU := hid hu
    have q1 := (hu.cell (lt_of_cell Q1.out)).trans Q1.out
    have HC2 := hid (HC.out.below hu HC.out.lt)
    clear hu
    go_wp2_with (first | ((with_reducible show wpList _ _ _ _ _ u); refine wpList_store1 rfl 4 _ _ rfl g 2 rfl (.bool true) rfl rfl (by kernel_rfl) 235 _ HC2.out (by simp [rdrC]) ?_; intro u2 hk ht; go_frame; have HC3 := hid hk; have T3 := hid ht; clear hk ht))
    go_ret
    exact ⟨rfl, (Turn.of_below HU.out _).trans T3.out fun _ _ h => h, rdrC_sh HC3.out⟩
def PieceRet (l : List UInt8) (A : Option Addr) (c a n : Nat) (sh : Bool) (g : Nat) (w : World) (e : Ending) (w' : World) : Prop :=
  if a + n ≤ l.length then (∃ v, e = .returned v ∧ BsV w' (w.heap.size ≤ ·) v ((l.drop a).take n)) ∧ RStep A l.length c g w w' (a + n) sh else e = .returned (.slice none 0 0) ∧ RStep A l.length c g w w' a true
set_option maxHeartbeats 2000000 in
theorem bpiece_any (l : List UInt8) (b off c a n : Nat) (sh : Bool) (g : Nat) (w : World) (hl : l.length ≤ 1000000000) (hn : n ≤ 1000000) (hlc : l.length ≤ c) (hcm : c ≤ maxLen) (ha : a ≤ l.length) (hr : Rd w (some ⟨b, off, none⟩) l) (hc : Cs w g 235 (rdrC (some ⟨b, off, none⟩) l.length c a sh).toArray) :
    Calls Tryz.prog 180 #[.pointer (some ⟨g, 0, none⟩), .int .i64 (n : Int)] w fun e w' => PieceRet l (some ⟨b, off, none⟩) c a n sh g w e w' := by
  have hmix : Tryz.prog.follows .mixedOrders = true := by kernel_rfl
  unfold PieceRet
  have HC := hid hc
  have HR := hid hr
  have Q0 := hid (rdrC_0 hc)
  have Q1 := hid (rdrC_1 hc)
  have ha' : (a : Int) ≤ (l.length : Int) := by omega
  have hn' : (n : Int) ≤ 1000000 := by omega
  have hl' : (l.length : Int) ≤ 1000000000 := by omega
  clear hc hr
  by_cases hin : a + n ≤ l.length
  · simp only [if_pos hin]
    have hgt : ¬ ((l.length : Int) - (a : Int) < (n : Int)) := by omega
    obtain ⟨o', hsl, ho'⟩ := cutB b off l.length c a (a + n) (by omega) (by omega)
    rw [show a + n - a = n by omega] at hsl
    have hsl2 : ∀ W, (Instr.slice 60 (.slice (some ⟨b, off, none⟩) l.length c) (some (.int .i64 (a : Int))) (some (.int .i64 ((a : Int) + (n : Int)))) none).run Tryz.prog W = .ok (.slice (some ⟨b, o', none⟩) n (c - a)) W := fun W => by rw [← hsl W]; rfl
    have HSL := hid hsl2
    have HPL := hid (show ((l.drop a).take n).length = n by rw [List.length_take, List.length_drop]; omega)
    have hcl := fun u (hu : Below w.heap.size w u) => Clone_ty ((l.drop a).take n) (some ⟨b, o', none⟩) (c - a) u (by rw [HPL.out]; omega) ((cut_rd HR.out ho' hlc hin).below hu) (fun h => by cases h)
    rw [HPL.out] at hcl
    have HCL := hid hcl
    clear hsl hsl2 hcl ho' hcm hlc
    go_enter Tryz.func180, Tryz.ntmps180
    go_wp2_with fail
    refine wp_region_V [] (Below w.heap.size w) hmix ((Below.refl _ _).drew) ?_
    change wpAnyV _ _ _ _ _ _ _ _ _
    refine wpW (i := 0) (v := .int .i64 (n : Int)) (kept_below w) rfl (DR fun w9 hS => by go_simp) ?_
    try simp only [getElem_toArray, getElem_cons_succ, getElem_cons_zero, Act.put, setIfInBounds_toArray, set_cons_succ, set_cons_zero]
    refine wpW (i := 1) (v := .pointer (some ⟨g, 0, none⟩)) (kept_below w) rfl (DR fun w9 hS => by go_simp) ?_
    try simp only [getElem_toArray, getElem_cons_succ, getElem_cons_zero, Act.put, setIfInBounds_toArray, set_cons_succ, set_cons_zero]
    refine wpW (i := 2) (v := .pointer (some ⟨g, 0, none⟩)) (kept_below w) rfl (DR fun w9 hS => by go_simp) ?_
    try simp only [getElem_toArray, getElem_cons_succ, getElem_cons_zero, Act.put, setIfInBounds_toArray, set_cons_succ, set_cons_zero]
    refine wpW (i := 3) (v := .pointer (some ⟨g, 0, none⟩)) (kept_below w) rfl (DR fun w9 hS => by go_simp) ?_
    try simp only [getElem_toArray, getElem_cons_succ, getElem_cons_zero, Act.put, setIfInBounds_toArray, set_cons_succ, set_cons_zero]
    refine wpW (i := 4) (v := .slice (some ⟨b, off, none⟩) l.length c) (kept_below w) rfl (DR fun w9 hS => by have q9 := (hS.cell (lt_of_cell Q0.out)).trans Q0.out; go_simp) ?_
    try simp only [getElem_toArray, getElem_cons_succ, getElem_cons_zero, Act.put, setIfInBounds_toArray, set_cons_succ, set_cons_zero]
    refine wpW (i := 5) (v := .int .i64 (l.length : Int)) (kept_below w) rfl (DR fun w9 hS => by go_simp) ?_
    try simp only [getElem_toArray, getElem_cons_succ, getElem_cons_zero, Act.put, setIfInBounds_toArray, set_cons_succ, set_cons_zero]
    refine wpW (i := 6) (v := .pointer (some ⟨g, 0, none⟩)) (kept_below w) rfl (DR fun w9 hS => by go_simp) ?_
    try simp only [getElem_toArray, getElem_cons_succ, getElem_cons_zero, Act.put, setIfInBounds_toArray, set_cons_succ, set_cons_zero]
    refine wpW (i := 7) (v := .pointer (some ⟨g, 0, none⟩)) (kept_below w) rfl (DR fun w9 hS => by go_simp) ?_
    try simp only [getElem_toArray, getElem_cons_succ, getElem_cons_zero, Act.put, setIfInBounds_toArray, set_cons_succ, set_cons_zero]
    refine wpW (i := 8) (v := .pointer (some ⟨g, 1, none⟩)) (kept_below w) rfl (DR fun w9 hS => by go_simp) ?_
    try simp only [getElem_toArray, getElem_cons_succ, getElem_cons_zero, Act.put, setIfInBounds_toArray, set_cons_succ, set_cons_zero]
    refine wpW (i := 9) (v := .int .i64 (a : Int)) (kept_below w) rfl (DR fun w9 hS => by have q9 := (hS.cell (lt_of_cell Q1.out)).trans Q1.out; go_simp) ?_
    try simp only [getElem_toArray, getElem_cons_succ, getElem_cons_zero, Act.put, setIfInBounds_toArray, set_cons_succ, set_cons_zero]
    refine wpW (i := 10) (v := .int .i64 ((l.length : Int) - (a : Int))) (kept_below w) rfl (DR fun w9 hS => by go_simp; first | done | simp (disch := omega) only [IntWalk.i64_in]) ?_
    try simp only [getElem_toArray, getElem_cons_succ, getElem_cons_zero, Act.put, setIfInBounds_toArray, set_cons_succ, set_cons_zero]
    refine wpW (i := 11) (v := .bool false) (kept_below w) rfl (DR fun w9 hS => by go_simp) ?_
    try simp only [getElem_toArray, getElem_cons_succ, getElem_cons_zero, Act.put, setIfInBounds_toArray, set_cons_succ, set_cons_zero]
    refine wpAnyV_done (by kernel_rfl) (fun u hu => ?_) _
    have HU := hid hu
    clear hu
    go_wp2_with fail
    refine wp_region_V [] (Below w.heap.size w) hmix (HU.out.drew) ?_
    change wpAnyV _ _ _ _ _ _ _ _ _
    refine wpW (i := 0) (v := .pointer (some ⟨g, 0, none⟩)) (kept_below w) rfl (DR fun w9 hS => by go_simp) ?_
    try simp only [getElem_toArray, getElem_cons_succ, getElem_cons_zero, Act.put, setIfInBounds_toArray, set_cons_succ, set_cons_zero]
    refine wpW (i := 1) (v := .pointer (some ⟨g, 0, none⟩)) (kept_below w) rfl (DR fun w9 hS => by go_simp) ?_
    try simp only [getElem_toArray, getElem_cons_succ, getElem_cons_zero, Act.put, setIfInBounds_toArray, set_cons_succ, set_cons_zero]
    refine wpW (i := 2) (v := .pointer (some ⟨g, 0, none⟩)) (kept_below w) rfl (DR fun w9 hS => by go_simp) ?_
    try simp only [getElem_toArray, getElem_cons_succ, getElem_cons_zero, Act.put, setIfInBounds_toArray, set_cons_succ, set_cons_zero]
    refine wpW (i := 3) (v := .slice (some ⟨b, off, none⟩) l.length c) (kept_below w) rfl (DR fun w9 hS => by have q9 := (hS.cell (lt_of_cell Q0.out)).trans Q0.out; go_simp) ?_
    try simp only [getElem_toArray, getElem_cons_succ, getElem_cons_zero, Act.put, setIfInBounds_toArray, set_cons_succ, set_cons_zero]
    refine wpW (i := 4) (v := .pointer (some ⟨g, 0, none⟩)) (kept_below w) rfl (DR fun w9 hS => by go_simp) ?_
    try simp only [getElem_toArray, getElem_cons_succ, getElem_cons_zero, Act.put, setIfInBounds_toArray, set_cons_succ, set_cons_zero]
    refine wpW (i := 5) (v := .pointer (some ⟨g, 0, none⟩)) (kept_below w) rfl (DR fun w9 hS => by go_simp) ?_
    try simp only [getElem_toArray, getElem_cons_succ, getElem_cons_zero, Act.put, setIfInBounds_toArray, set_cons_succ, set_cons_zero]
    refine wpW (i := 6) (v := .pointer (some ⟨g, 1, none⟩)) (kept_below w) rfl (DR fun w9 hS => by go_simp) ?_
    try simp only [getElem_toArray, getElem_cons_succ, getElem_cons_zero, Act.put, setIfInBounds_toArray, set_cons_succ, set_cons_zero]
    refine wpW (i := 7) (v := .int .i64 (a : Int)) (kept_below w) rfl (DR fun w9 hS => by have q9 := (hS.cell (lt_of_cell Q1.out)).trans Q1.out; go_simp) ?_
    try simp only [getElem_toArray, getElem_cons_succ, getElem_cons_zero, Act.put, setIfInBounds_toArray, set_cons_succ, set_cons_zero]
    refine wpW (i := 8) (v := .pointer (some ⟨g, 0, none⟩)) (kept_below w) rfl (DR fun w9 hS => by go_simp) ?_
    try simp only [getElem_toArray, getElem_cons_succ, getElem_cons_zero, Act.put, setIfInBounds_toArray, set_cons_succ, set_cons_zero]
    refine wpW (i := 9) (v := .pointer (some ⟨g, 0, none⟩)) (kept_below w) rfl (DR fun w9 hS => by go_simp) ?_
    try simp only [getElem_toArray, getElem_cons_succ, getElem_cons_zero, Act.put, setIfInBounds_toArray, set_cons_succ, set_cons_zero]
    refine wpW (i := 10) (v := .pointer (some ⟨g, 1, none⟩)) (kept_below w) rfl (DR fun w9 hS => by go_simp) ?_
    try simp only [getElem_toArray, getElem_cons_succ, getElem_cons_zero, Act.put, setIfInBounds_toArray, set_cons_succ, set_cons_zero]
    refine wpW (i := 11) (v := .int .i64 (a : Int)) (kept_below w) rfl (DR fun w9 hS => by have q9 := (hS.cell (lt_of_cell Q1.out)).trans Q1.out; go_simp) ?_
    try simp only [getElem_toArray, getElem_cons_succ, getElem_cons_zero, Act.put, setIfInBounds_toArray, set_cons_succ, set_cons_zero]
    refine wpW (i := 12) (v := .int .i64 (n : Int)) (kept_below w) rfl (DR fun w9 hS => by go_simp) ?_
    try simp only [getElem_toArray, getElem_cons_succ, getElem_cons_zero, Act.put, setIfInBounds_toArray, set_cons_succ, set_cons_zero]
    refine wpW (i := 13) (v := .int .i64 ((a : Int) + (n : Int))) (kept_below w) rfl (DR fun w9 hS => by go_simp; first | done | simp (disch := omega) only [IntWalk.i64_in]) ?_
    try simp only [getElem_toArray, getElem_cons_succ, getElem_cons_zero, Act.put, setIfInBounds_toArray, set_cons_succ, set_cons_zero]
    refine wpW (i := 14) (v := .slice (some ⟨b, o', none⟩) n (c - a)) (kept_below w) rfl (DR fun w9 hS => by have h9 := HSL.out w9; go_simp) ?_
    try simp only [getElem_toArray, getElem_cons_succ, getElem_cons_zero, Act.put, setIfInBounds_toArray, set_cons_succ, set_cons_zero]
    refine wpAnyV_only (i := 15) rfl (by kernel_rfl) rfl (fun y hS => wp_of_call (by go_simp) (HCL.out y hS) fun e y' ⟨v1, he, hv, hty, hk, hb⟩ => ⟨v1, he, (fun z => Below w.heap.size w z ∧ BsV z (w.heap.size ≤ ·) v1 ((l.drop a).take n)), ⟨below_chain hS hb, hv.mono fun q _ h => Nat.le_trans hS.size h⟩, kept_and (kept_below w) (kept_bsv _ _ _), fun _ y h => h.1, ?_⟩)
    try simp only [getElem_toArray, getElem_cons_succ, getElem_cons_zero, Act.put, setIfInBounds_toArray, set_cons_succ, set_cons_zero]
    refine wpW (i := 16) (v := v1) (kept_and (kept_below w) (kept_bsv _ _ _)) rfl (DR fun w9 hS => by go_simp) ?_
    try simp only [getElem_toArray, getElem_cons_succ, getElem_cons_zero, Act.put, setIfInBounds_toArray, set_cons_succ, set_cons_zero]
    refine wpAnyV_done (by kernel_rfl) (fun u2 hu => ?_) _
    have HU2 := hid hu.1
    have HV := hid hu.2
    have q1 := (hu.1.cell (lt_of_cell Q1.out)).trans Q1.out
    have HC2 := hid (HC.out.below hu.1 HC.out.lt)
    clear hu
    go_wp2_with (first | ((with_reducible show wpList _ _ _ _ _ u2); refine wpList_store1 rfl 3 _ _ rfl g 1 rfl (.int .i64 ((a : Int) + (n : Int))) rfl rfl (by kernel_rfl) 235 _ HC2.out (by simp [rdrC]) ?_; intro u3 hk ht; go_frame; have HC3 := hid hk; have T3 := hid ht; clear hk ht))
    go_ret
    have HGW := HC.out.lt
    exact ⟨⟨_, rfl, HV.out.turn T3.out fun q h e => by omega⟩, (Turn.of_below HU2.out _).trans T3.out fun _ _ h => h, rdrC_at HC3.out (by omega)⟩
  · simp only [if_neg hin]
    have hgt : (l.length : Int) - (a : Int) < (n : Int) := by omega
    go_enter Tryz.func180, Tryz.ntmps180
    go_wp2_with fail
    refine wp_region_V [] (Below w.heap.size w) hmix ((Below.refl _ _).drew) ?_
    change wpAnyV _ _ _ _ _ _ _ _ _
    refine wpW (i := 0) (v := .int .i64 (n : Int)) (kept_below w) rfl (DR fun w9 hS => by go_simp) ?_
    try simp only [getElem_toArray, getElem_cons_succ, getElem_cons_zero, Act.put, setIfInBounds_toArray, set_cons_succ, set_cons_zero]
    refine wpW (i := 1) (v := .pointer (some ⟨g, 0, none⟩)) (kept_below w) rfl (DR fun w9 hS => by go_simp) ?_
    try simp only [getElem_toArray, getElem_cons_succ, getElem_cons_zero, Act.put, setIfInBounds_toArray, set_cons_succ, set_cons_zero]
    refine wpW (i := 2) (v := .pointer (some ⟨g, 0, none⟩)) (kept_below w) rfl (DR fun w9 hS => by go_simp) ?_
    try simp only [getElem_toArray, getElem_cons_succ, getElem_cons_zero, Act.put, setIfInBounds_toArray, set_cons_succ, set_cons_zero]
    refine wpW (i := 3) (v := .pointer (some ⟨g, 0, none⟩)) (kept_below w) rfl (DR fun w9 hS => by go_simp) ?_
    try simp only [getElem_toArray, getElem_cons_succ, getElem_cons_zero, Act.put, setIfInBounds_toArray, set_cons_succ, set_cons_zero]
    refine wpW (i := 4) (v := .slice (some ⟨b, off, none⟩) l.length c) (kept_below w) rfl (DR fun w9 hS => by have q9 := (hS.cell (lt_of_cell Q0.out)).trans Q0.out; go_simp) ?_
    try simp only [getElem_toArray, getElem_cons_succ, getElem_cons_zero, Act.put, setIfInBounds_toArray, set_cons_succ, set_cons_zero]
    refine wpW (i := 5) (v := .int .i64 (l.length : Int)) (kept_below w) rfl (DR fun w9 hS => by go_simp) ?_
    try simp only [getElem_toArray, getElem_cons_succ, getElem_cons_zero, Act.put, setIfInBounds_toArray, set_cons_succ, set_cons_zero]
    refine wpW (i := 6) (v := .pointer (some ⟨g, 0, none⟩)) (kept_below w) rfl (DR fun w9 hS => by go_simp) ?_
    try simp only [getElem_toArray, getElem_cons_succ, getElem_cons_zero, Act.put, setIfInBounds_toArray, set_cons_succ, set_cons_zero]
    refine wpW (i := 7) (v := .pointer (some ⟨g, 0, none⟩)) (kept_below w) rfl (DR fun w9 hS => by go_simp) ?_
    try simp only [getElem_toArray, getElem_cons_succ, getElem_cons_zero, Act.put, setIfInBounds_toArray, set_cons_succ, set_cons_zero]
    refine wpW (i := 8) (v := .pointer (some ⟨g, 1, none⟩)) (kept_below w) rfl (DR fun w9 hS => by go_simp) ?_
    try simp only [getElem_toArray, getElem_cons_succ, getElem_cons_zero, Act.put, setIfInBounds_toArray, set_cons_succ, set_cons_zero]
    refine wpW (i := 9) (v := .int .i64 (a : Int)) (kept_below w) rfl (DR fun w9 hS => by have q9 := (hS.cell (lt_of_cell Q1.out)).trans Q1.out; go_simp) ?_
    try simp only [getElem_toArray, getElem_cons_succ, getElem_cons_zero, Act.put, setIfInBounds_toArray, set_cons_succ, set_cons_zero]
    refine wpW (i := 10) (v := .int .i64 ((l.length : Int) - (a : Int))) (kept_below w) rfl (DR fun w9 hS => by go_simp; first | done | simp (disch := omega) only [IntWalk.i64_in]) ?_
    try simp only [getElem_toArray, getElem_cons_succ, getElem_cons_zero, Act.put, setIfInBounds_toArray, set_cons_succ, set_cons_zero]
    refine wpW (i := 11) (v := .bool true) (kept_below w) rfl (DR fun w9 hS => by go_simp) ?_
    try simp only [getElem_toArray, getElem_cons_succ, getElem_cons_zero, Act.put, setIfInBounds_toArray, set_cons_succ, set_cons_zero]
    refine wpAnyV_done (by kernel_rfl) (fun u hu => ?_) _
    have HU := hid hu
    have HC2 := hid (HC.out.below hu HC.out.lt)
    clear hu
    go_wp2_with (first | ((with_reducible show wpList _ _ _ _ _ u); refine wpList_store1 rfl 4 _ _ rfl g 2 rfl (.bool true) rfl rfl (by kernel_rfl) 235 _ HC2.out (by simp [rdrC]) ?_; intro u2 hk ht; go_frame; have HC3 := hid hk; have T3 := hid ht; clear hk ht))
    go_ret
    exact ⟨rfl, (Turn.of_below HU.out _).trans T3.out fun _ _ h => h, rdrC_sh HC3.out⟩
end Go.Proofs.YtfgbpinfplllgaaGreatDoor
namespace Go.Proofs.YtfgbpinfplllgaaGreatDoor
open Go.RowKit Go.Shelf
set_option maxRecDepth 100000
def nB (l : List UInt8) (a k : Nat) : Nat := (beSum (seg l a k)).toNat
theorem nB_is (l : List UInt8) (a k : Nat) : beSum (seg l a k) = (nB l a k : Int) := by
  have := (beSum_bd l a k).1
  unfold nB
  omega
theorem nB_lt (l : List UInt8) (a k : Nat) (hk : k ≤ 2) : nB l a k ≤ 65535 := by
  have h := beSum_bd l a k
  have h1 : (256 : Nat) ^ k ≤ 256 ^ 2 := Nat.pow_le_pow_right (by decide) hk
  have hc : ((256 ^ k : Nat) : Int) = 256 ^ k := Int.natCast_pow 256 k
  have h2 : (256 : Nat) ^ 2 = 65536 := by decide
  unfold nB
  omega
theorem nB_1 (l : List UInt8) (a : Nat) : nB l a 1 = (l.getD a 0).toNat := by
  simp [nB, seg, List.range_succ, beSum, byteAt]
theorem nB_2 (l : List UInt8) (a : Nat) : nB l a 2 = 256 * (l.getD a 0).toNat + (l.getD (a + 1) 0).toNat := by
  simp [nB, seg, List.range_succ, beSum, byteAt]
  omega
def numF (l : List UInt8) (a k : Nat) (sh : Bool) : Nat × Nat × Bool := if a + k ≤ l.length then (nB l a k, a + k, sh) else (0, a, true)
def pieceF (l : List UInt8) (a n : Nat) (sh : Bool) : List UInt8 × Nat × Bool := if a + n ≤ l.length then ((l.drop a).take n, a + n, sh) else ([], a, true)
theorem numF_le {l : List UInt8} {a k : Nat} {sh : Bool} (h : a ≤ l.length) : (numF l a k sh).2.1 ≤ l.length := by
  unfold numF
  split <;> simp <;> omega
theorem pieceF_le {l : List UInt8} {a k : Nat} {sh : Bool} (h : a ≤ l.length) : (pieceF l a k sh).2.1 ≤ l.length := by
  unfold pieceF
  split <;> simp <;> omega
theorem numF_lt {l : List UInt8} {a k : Nat} {sh : Bool} (hk : k ≤ 2) : (numF l a k sh).1 ≤ 65535 := by
  unfold numF
  split
  · exact nB_lt l a k hk
  · simp
theorem pieceF_len {l : List UInt8} {a n : Nat} {sh : Bool} : (pieceF l a n sh).1.length ≤ n := by
  unfold pieceF
  split
  · simp only [List.length_take]; omega
  · simp
def chgF (last : Key) (l : List UInt8) (a : Nat) : Except Int (Ch × Nat) :=
  let s := numF l a 1 false
  if last.length < s.1 then .error 5 else
  let m := numF l s.2.1 1 s.2.2
  let t := pieceF l m.2.1 m.1 m.2.2
  let z := numF l t.2.1 2 t.2.2
  let v := pieceF l z.2.1 (z.1 - 1) z.2.2
  if v.2.2 then .error 4 else
  if !fitsK last (last.take s.1 ++ t.1) v.1 || decide (s.1 < sharedP last (last.take s.1 ++ t.1)) then .error 5 else .ok ((last.take s.1 ++ t.1, v.1, decide (z.1 = 0)), v.2.1)
theorem numF_sh {l : List UInt8} {a k : Nat} : (numF l a k true).2.2 = true := by
  unfold numF
  split <;> rfl
theorem pieceF_sh {l : List UInt8} {a k : Nat} : (pieceF l a k true).2.2 = true := by
  unfold pieceF
  split <;> rfl
theorem drop_cons {l : List UInt8} {a : Nat} (h : a < l.length) : l.drop a = l.getD a 0 :: l.drop (a + 1) := by
  rw [List.drop_eq_getElem_cons h]
  simp [h]
theorem chgF_next (last : Key) (l : List UInt8) (a : Nat) (ha : a < l.length) : nextP last (l.drop a) = match chgF last l a with
    | .error e => .error e
    | .ok (c, a') => .ok (c, l.drop a') := by
  have e1 : numF l a 1 false = ((l.getD a 0).toNat, a + 1, false) := by
    unfold numF
    rw [if_pos (by omega), nB_1]
  rw [drop_cons ha]
  unfold chgF
  rw [e1]
  dsimp only
  by_cases hs : last.length < (l.getD a 0).toNat
  · rw [if_pos hs]
    exact next_e1 hs
  · rw [if_neg hs]
    by_cases h2 : a + 1 < l.length
    · have e2 : numF l (a + 1) 1 false = ((l.getD (a + 1) 0).toNat, a + 1 + 1, false) := by
        unfold numF
        rw [if_pos (by omega), nB_1]
      rw [drop_cons h2, e2]
      dsimp only
      by_cases h3 : a + 1 + 1 + (l.getD (a + 1) 0).toNat ≤ l.length
      · have e3 : pieceF l (a + 1 + 1) (l.getD (a + 1) 0).toNat false = ((l.drop (a + 1 + 1)).take (l.getD (a + 1) 0).toNat, a + 1 + 1 + (l.getD (a + 1) 0).toNat, false) := by
          unfold pieceF
          rw [if_pos h3]
        have h3' : ¬ (l.drop (a + 1 + 1)).length < (l.getD (a + 1) 0).toNat := by rw [List.length_drop]; omega
        rw [e3]
        dsimp only
        generalize hp : a + 1 + 1 + (l.getD (a + 1) 0).toNat = p at *
        have hdd : (l.drop (a + 1 + 1)).drop (l.getD (a + 1) 0).toNat = l.drop p := by rw [List.drop_drop, hp]
        by_cases h4 : p + 2 ≤ l.length
        · have e4 : numF l p 2 false = (256 * (l.getD p 0).toNat + (l.getD (p + 1) 0).toNat, p + 2, false) := by
            unfold numF
            rw [if_pos h4, nB_2]
          rw [e4]
          dsimp only
          have hxy : (l.drop (a + 1 + 1)).drop (l.getD (a + 1) 0).toNat = l.getD p 0 :: l.getD (p + 1) 0 :: l.drop (p + 2) := by
            rw [hdd, drop_cons (by omega), drop_cons (by omega)]
          rw [next_rest hs h3' hxy]
          generalize 256 * (l.getD p 0).toNat + (l.getD (p + 1) 0).toNat = z at *
          by_cases h5 : p + 2 + (z - 1) ≤ l.length
          · have e5 : pieceF l (p + 2) (z - 1) false = ((l.drop (p + 2)).take (z - 1), p + 2 + (z - 1), false) := by
              unfold pieceF
              rw [if_pos h5]
            rw [e5, if_neg (by rw [List.length_drop]; omega)]
            dsimp only
            simp only [Bool.false_eq_true, if_false]
            split
            · rfl
            · simp only [List.drop_drop]
          · have e5 : pieceF l (p + 2) (z - 1) false = ([], p + 2, true) := by
              unfold pieceF
              rw [if_neg h5]
            rw [e5, if_pos (by rw [List.length_drop]; omega)]
            rfl
        · have e4 : numF l p 2 false = (0, p, true) := by
            unfold numF
            rw [if_neg h4]
          rw [e4]
          dsimp only
          rw [pieceF_sh, if_pos rfl]
          exact next_e4 hs h3' (by rw [hdd, List.length_drop]; omega)
      · have e3 : pieceF l (a + 1 + 1) (l.getD (a + 1) 0).toNat false = ([], a + 1 + 1, true) := by
          unfold pieceF
          rw [if_neg h3]
        rw [e3]
        dsimp only
        rw [numF_sh, pieceF_sh, if_pos rfl]
        exact next_e3 hs (by rw [List.length_drop]; omega)
    · have e2 : numF l (a + 1) 1 false = (0, a + 1, true) := by
        unfold numF
        rw [if_neg (by omega)]
      rw [e2]
      dsimp only
      rw [pieceF_sh, numF_sh, pieceF_sh, if_pos rfl, List.drop_of_length_le (by omega)]
      exact next_e2 hs
theorem may_single {last k v : List UInt8} {z : Bool} (hz : z = true → v = []) : fitsK last k v = (mayCP [(k, v, z)] && lessK last k) := by
  have e : mayCP [(k, v, z)] = fitsK [] k v := by
    simp only [mayCP, mayCFrom, okC, Bool.and_true]
    cases z
    · simp
    · rw [hz rfl]; simp
  rw [e, fits_rise, fits_rise, lessK_nil]
  cases h : lessK last k
  · simp
  · have := lessK_nonempty h
    simp [this]
theorem size0 {l : List UInt8} {a : Nat} {n : Nat} {sh : Bool} (h : decide (n = 0) = true) : (pieceF l a (n - 1) sh).1 = [] := by
  have : n = 0 := by simpa using h
  subst this
  unfold pieceF
  split <;> simp
theorem RStep.next {A : Option Addr} {n c g a b : Nat} {s r : Bool} {w w1 w2 : World} (h : RStep A n c g w w1 a s) (k : RStep A n c g w1 w2 b r) : RStep A n c g w w2 b r := ⟨h.turn.trans k.turn fun _ _ h => h, k.at'⟩
theorem RStep.kept {A : Option Addr} {n c g a : Nat} {s : Bool} {w w1 w2 : World} (h : RStep A n c g w w1 a s) (k : Below w1.heap.size w1 w2) : RStep A n c g w w2 a s := ⟨h.turn.trans (Turn.of_below k fun _ => False) (fun _ _ h => h.elim), h.at'.below k h.at'.lt⟩
theorem bnumF_any (l : List UInt8) (b off c a k : Nat) (sh : Bool) (g : Nat) (w : World) (hl : l.length ≤ 1000000000) (hlc : l.length ≤ c) (hs : sizeB k = true) (hk2 : k ≤ 2) (ha : a ≤ l.length) (hr : Rd w (some ⟨b, off, none⟩) l) (hc : Cs w g 235 (rdrC (some ⟨b, off, none⟩) l.length c a sh).toArray) :
    Calls Tryz.prog 179 #[.pointer (some ⟨g, 0, none⟩), .int .i64 (k : Int)] w fun e w' => e = .returned (.int .i64 ((numF l a k sh).1 : Int)) ∧ RStep (some ⟨b, off, none⟩) l.length c g w w' (numF l a k sh).2.1 (numF l a k sh).2.2 :=
  (bnumber_any l b off c a k sh g w hl hlc hs (by omega) hk2 ha hr hc).mono fun e w' h => by
    unfold NumBRet at h
    unfold numF
    split
    · rename_i h1
      rw [if_pos h1] at h
      rw [nB_is] at h
      exact h
    · rename_i h1
      rw [if_neg h1] at h
      exact h
theorem pieceF_any (l : List UInt8) (b off c a n : Nat) (sh : Bool) (g : Nat) (w : World) (hl : l.length ≤ 1000000000) (hn : n ≤ 1000000) (hlc : l.length ≤ c) (hcm : c ≤ maxLen) (ha : a ≤ l.length) (hr : Rd w (some ⟨b, off, none⟩) l) (hc : Cs w g 235 (rdrC (some ⟨b, off, none⟩) l.length c a sh).toArray) :
    Calls Tryz.prog 180 #[.pointer (some ⟨g, 0, none⟩), .int .i64 (n : Int)] w fun e w' => (∃ v, e = .returned v ∧ BsV w' (w.heap.size ≤ ·) v (pieceF l a n sh).1) ∧ RStep (some ⟨b, off, none⟩) l.length c g w w' (pieceF l a n sh).2.1 (pieceF l a n sh).2.2 :=
  (bpiece_any l b off c a n sh g w hl hn hlc hcm ha hr hc).mono fun e w' h => by
    unfold PieceRet at h
    unfold pieceF
    split
    · rename_i h1
      rw [if_pos h1] at h
      exact h
    · rename_i h1
      rw [if_neg h1] at h
      exact ⟨⟨_, h.1, BsV.nil _ _⟩, h.2⟩
end Go.Proofs.YtfgbpinfplllgaaGreatDoor
namespace Go.Proofs.YtfgbpinfplllgaaGreatDoor
open Go.RowKit Go.Shelf
set_option maxRecDepth 100000
theorem results_agg_tmp1 {P : Program} {fn : Func} {p u : Tmp} {ty : TypeId} (h : fn.results = #[.cell p ty, .tmp u]) (tmps : Array Value) (w : World) (b f : Nat) (cs : List Value) (hp : tmps.getD p undef = .pointer (some ⟨b, f, none⟩)) (hc : At w b f cs)
    (d : TypeDesc) (hu : P.underlying ty = some d) (hd : (match d with | .struct _ | .array _ _ => true | _ => false) = true) (hi : (P.info? ty).map (·.size) = some cs.length) :
    (results fn tmps).run P w = .ok (.tuple #[.agg cs.toArray, tmps.getD u undef]) w := by
  have hp' : tmps[p]?.getD undef = .pointer (some ⟨b, f, none⟩) := by simpa using hp
  simp [results, h, hp', asAddr, run_loadVar_at w ty b f cs hc d hu hd hi]
theorem chg_end {tmps : Array Value} {w : World} {g : Nat} {a b c x : Value} (hc : Cs w g 73 [a, b, c].toArray) (hp : tmps.getD 4 undef = .pointer (some ⟨g, 0, none⟩)) (hx : tmps.getD 5 undef = x) : (results Tryz.f155 tmps).run Tryz.prog w = .ok (.tuple #[.agg #[a, b, c], x]) w := by
  rw [results_agg_tmp1 (p := 4) (u := 5) (ty := 73) rfl tmps w g 0 [a, b, c] hp (At.whole hc) _ Tryz.underlying73 rfl (by kernel_rfl), hx]
def ChgRet (last : Key) (l : List UInt8) (A : Option Addr) (c a g : Nat) (w : World) (e : Ending) (w' : World) : Prop := Turn w w' (· = g) ∧ match chgF last l a with
  | .error er => e = .returned (.tuple #[.agg chZero.toArray, .int .i64 er])
  | .ok (x, a') => ∃ v, e = .returned (.tuple #[.agg #[.string ⟨x.1.toArray⟩, v, .bool x.2.2], .int .i64 0]) ∧ BsV w' (w.heap.size ≤ ·) v x.2.1 ∧ Cs w' g 235 (rdrC A l.length c a' false).toArray ∧ a' ≤ l.length
theorem ChgRet.err {last : Key} {l : List UInt8} {A : Option Addr} {c a g : Nat} {w w' : World} {er : Int} (h : chgF last l a = .error er) (ht : Turn w w' (· = g)) : ChgRet last l A c a g w (.returned (.tuple #[.agg #[.string ⟨#[]⟩, .slice none 0 0, .bool false], .int .i64 er])) w' := ⟨ht, by rw [h]; rfl⟩
theorem ChgRet.has {last : Key} {l : List UInt8} {A : Option Addr} {c a g a' : Nat} {w w' : World} {k val : List UInt8} {z : Bool} {v : Value} (h : chgF last l a = .ok ((k, val, z), a')) (ht : Turn w w' (· = g)) (hv : BsV w' (w.heap.size ≤ ·) v val) (hc : Cs w' g 235 (rdrC A l.length c a' false).toArray) (ha : a' ≤ l.length) :
    ChgRet last l A c a g w (.returned (.tuple #[.agg #[.string ⟨k.toArray⟩, v, .bool z], .int .i64 0])) w' := ⟨ht, by rw [h]; exact ⟨v, rfl, hv, hc, ha⟩⟩
theorem chgF_5 {last : Key} {l : List UInt8} {a s a1 : Nat} {s1 : Bool} (h1 : numF l a 1 false = (s, a1, s1)) (h : last.length < s) : chgF last l a = .error 5 := by
  unfold chgF
  rw [h1]
  exact if_pos h
theorem chgF_rest {last : Key} {l : List UInt8} {a s a1 m a2 a3 z a4 a5 : Nat} {s1 s2 s3 s4 s5 : Bool} {t v : List UInt8} (h1 : numF l a 1 false = (s, a1, s1)) (h : ¬ last.length < s) (h2 : numF l a1 1 s1 = (m, a2, s2)) (h3 : pieceF l a2 m s2 = (t, a3, s3)) (h4 : numF l a3 2 s3 = (z, a4, s4)) (h5 : pieceF l a4 (z - 1) s4 = (v, a5, s5)) :
    chgF last l a = if s5 then .error 4 else if !fitsK last (last.take s ++ t) v || decide (s < sharedP last (last.take s ++ t)) then .error 5 else .ok ((last.take s ++ t, v, decide (z = 0)), a5) := by
  unfold chgF
  simp only [h1, h2, h3, h4, h5]
  exact if_neg h
theorem numF_b {l : List UInt8} {a k r x : Nat} {sh y : Bool} (h : numF l a k sh = (r, x, y)) (ha : a ≤ l.length) (hk : k ≤ 2) : r ≤ 65535 ∧ x ≤ l.length := by
  have h1 := numF_lt (l := l) (a := a) (sh := sh) hk
  have h2 := numF_le (k := k) (sh := sh) ha
  rw [h] at h1 h2
  exact ⟨h1, h2⟩
theorem pieceF_b {l : List UInt8} {a n x : Nat} {t : List UInt8} {sh y : Bool} (h : pieceF l a n sh = (t, x, y)) (ha : a ≤ l.length) : t.length ≤ n ∧ x ≤ l.length := by
  have h1 := pieceF_len (l := l) (a := a) (n := n) (sh := sh)
  have h2 := pieceF_le (k := n) (sh := sh) ha
  rw [h] at h1 h2
  exact ⟨h1, h2⟩
set_option maxHeartbeats 4000000 in
theorem change_any (last : Key) (l : List UInt8) (b off c a g : Nat) (w : World) (hlast : last.length ≤ 1000000) (hl : l.length ≤ 1000000000) (hlc : l.length ≤ c) (hcm : c ≤ maxLen) (ha : a ≤ l.length) (hb : b ≠ g) (hr : Rd w (some ⟨b, off, none⟩) l) (hc : Cs w g 235 (rdrC (some ⟨b, off, none⟩) l.length c a false).toArray) :
    Calls Tryz.prog 155 #[.pointer (some ⟨g, 0, none⟩), .string ⟨last.toArray⟩] w fun e w' => ChgRet last l (some ⟨b, off, none⟩) c a g w e w' := by
  have hmix : Tryz.prog.follows .mixedOrders = true := by kernel_rfl
  have hl' : (last.length : Int) ≤ 1000000 := by omega
  have hgw := hc.lt
  have hnum := fun (k a : Nat) (sh : Bool) u h1 h2 h3 h4 h5 => bnumF_any l b off c a k sh g u hl hlc h1 h2 h3 h4 h5
  have hpie := fun (n a : Nat) (sh : Bool) u h1 h2 h3 h4 => pieceF_any l b off c a n sh g u hl h1 hlc hcm h2 h3 h4
  have NUM := hid hnum
  have PIE := hid hpie
  have HR := hid hr
  have HC := hid hc
  have HB := hid (show ∀ x, (some (⟨b, off, none⟩ : Addr)) = some x → ¬ x.block = g from fun x e => by cases e; exact hb)
  have HA := hid ha
  have GW := hid hgw
  obtain ⟨⟨s, a1, s1⟩, e1⟩ : ∃ x, numF l a 1 false = x := ⟨_, rfl⟩
  have b1 := numF_b e1 ha (by decide)
  obtain ⟨⟨m, a2, s2⟩, e2⟩ : ∃ x, numF l a1 1 s1 = x := ⟨_, rfl⟩
  have b2 := numF_b e2 b1.2 (by decide)
  obtain ⟨⟨t, a3, s3⟩, e3⟩ : ∃ x, pieceF l a2 m s2 = x := ⟨_, rfl⟩
  have b3 := pieceF_b e3 b2.2
  obtain ⟨⟨z, a4, s4⟩, e4⟩ : ∃ x, numF l a3 2 s3 = x := ⟨_, rfl⟩
  have b4 := numF_b e4 b3.2 (by decide)
  obtain ⟨⟨v, a5, s5⟩, e5⟩ : ∃ x, pieceF l a4 (z - 1) s4 = x := ⟨_, rfl⟩
  have b5 := pieceF_b e5 b4.2
  have E1 := hid e1
  have E2 := hid e2
  have E3 := hid e3
  have E4 := hid e4
  have E5 := hid e5
  have BB := hid (show (a1 ≤ l.length ∧ a2 ≤ l.length ∧ a3 ≤ l.length ∧ a4 ≤ l.length ∧ a5 ≤ l.length) ∧ m ≤ 65535 ∧ z ≤ 65535 ∧ t.length ≤ 65535 ∧ v.length ≤ 65535 by omega)
  have hs' : (s : Int) ≤ 65535 := by omega
  have hm' : (m : Int) ≤ 65535 := by omega
  have hz' : (z : Int) ≤ 65535 := by omega
  have hv1 : z = 0 → v = [] := fun h => by have := size0 (l := l) (a := a4) (n := z) (sh := s4) (by simpa using h); rw [e5] at this; exact this
  have HV0 := hid hv1
  clear hnum hpie hr hc hb ha hgw hl hlc hcm e1 e2 e3 e4 e5 b1 b2 b3 b4 b5 hv1
  go_enter Tryz.func155, Tryz.ntmps155
  go_wp2_with (first | ((with_reducible show wpList _ _ _ _ _ w); refine wpList_allocS rfl 73 rfl _ zeroCh ?_; intro g4 w1 hk hb hg; go_frame; have K1 := hid hk; have T1 := hid (show RStep (some ⟨b, off, none⟩) l.length c g w w1 a false from ⟨Turn.of_below hb _, HC.out.below hb GW.out⟩); have G4 := hid hg; clear hk hb hg))
  have NE := hid (show ¬ g4 = g from fun e => by have := GW.out; have := G4.out; omega)
  refine (NUM.out 1 _ _ w1 rfl (by decide) HA.out (HR.out.turn T1.out.turn HB.out) T1.out.at').mono ?_
  rintro e w2 ⟨rfl, hst⟩
  rw [E1.out] at hst ⊢
  have T2 := hid (T1.out.next hst)
  have K2 := hid (K1.out.turn hst.turn NE.out)
  clear hst K1 T1
  by_cases hsl : last.length < s
  · have hsl' : (last.length : Int) < (s : Int) := by omega
    go_wp2_with (first | ((with_reducible show wpList _ _ _ _ _ w2); refine wpList_storeS rfl 73 _ _ rfl g4 rfl chZero _ rfl K2.out rfl (one3c rfl rfl rfl) (infoCh3 _ _ _) ?_; intro x15 hk ht; go_frame; have K15 := hid hk; have T15 := hid ht; clear hk ht))
    exact bodyPost_ret (chg_end K15.out rfl rfl) rfl (ChgRet.err (chgF_5 E1.out hsl) ((T2.out.turn).trans T15.out fun q hq h => absurd (h ▸ hq) (Nat.not_lt.2 G4.out)))
  have hsl' : ¬ (last.length : Int) < (s : Int) := by omega
  have REST := hid (chgF_rest E1.out hsl E2.out E3.out E4.out E5.out)
  have SLE := hid (show s ≤ last.length by omega)
  go_wp2_with fail
  refine (NUM.out 1 _ _ w2 rfl (by decide) BB.out.1.1 (HR.out.turn T2.out.turn HB.out) T2.out.at').mono ?_
  rintro e w3 ⟨rfl, hst⟩
  rw [E2.out] at hst ⊢
  have T3 := hid (T2.out.next hst)
  have K3 := hid (K2.out.turn hst.turn NE.out)
  clear hst K2 T2
  go_wp2_with fail
  refine (PIE.out m _ _ w3 (by omega) BB.out.1.2.1 (HR.out.turn T3.out.turn HB.out) T3.out.at').mono ?_
  rintro e w4 ⟨⟨v2, rfl, hv2⟩, hst⟩
  rw [E3.out] at hv2 hst
  have V4 := hid (hv2.mono fun q _ h => Nat.le_trans T3.out.turn.size h)
  have T4 := hid (T3.out.next hst)
  have K4 := hid (K3.out.turn hst.turn NE.out)
  clear hst hv2 K3 T3
  go_wp2_with fail
  refine (NUM.out 2 _ _ w4 rfl (by decide) BB.out.1.2.2.1 (HR.out.turn T4.out.turn HB.out) T4.out.at').mono ?_
  rintro e w5 ⟨rfl, hst⟩
  rw [E4.out] at hst ⊢
  have T5 := hid (T4.out.next hst)
  have K5 := hid (K4.out.turn hst.turn NE.out)
  have V5 := hid (V4.out.turn hst.turn fun q h e => by have := GW.out; omega)
  clear hst K4 T4 V4
  have hmax : max (0 : Int) ((z : Int) - 1) = ((z - 1 : Nat) : Int) := by omega
  go_wp2_with fail
  refine (PIE.out (z - 1) _ _ w5 (by omega) BB.out.1.2.2.2.1 (HR.out.turn T5.out.turn HB.out) T5.out.at').mono ?_
  rintro e w6 ⟨⟨v4, rfl, hv4⟩, hst⟩
  rw [E5.out] at hv4 hst
  have U6 := hid hv4
  have LT4 := hid K5.out.lt
  have W5 := hid T5.out.turn.size
  have V6 := hid (V5.out.turn hst.turn fun q h e => by have := GW.out; omega)
  have T6 := hid (T5.out.next hst)
  have K6 := hid (K5.out.turn hst.turn NE.out)
  clear hst hv4 K5 T5 V5 hmax
  have q2 := rdrC_2 T6.out.at'
  cases s5
  · skip
    simp only [Bool.false_eq_true, if_false] at REST
    obtain ⟨A2, c2, rfl, hr2, hn2, -⟩ := id V6.out
    obtain ⟨A4, c4, hv4, -⟩ := id U6.out
    subst hv4
    have HCV := hid (fun u (hu : Below w6.heap.size w6 u) => conv_rd (hr2.rd.below hu) c2)
    clear hr2 hn2
    have SZ1 := hid (show (⟨last.toArray⟩ : ByteArray).size = last.length from ba_size _)
    have HSV := hid (sv_take last s)
    have HAB := hid (show (⟨(last.take s).toArray⟩ : ByteArray).size + (⟨t.toArray⟩ : ByteArray).size ≤ 9223372036854775807 by rw [ba_size, ba_size, List.length_take]; have := BB.out.2; omega)
    have HSA := hid (sv_add (last.take s) t)
    have KLEN := hid (show (last.take s ++ t).length ≤ 2000000 by rw [List.length_append, List.length_take]; have := BB.out.2; omega)
    generalize last.take s ++ t = key at *
    have hsx : (s : Int) ≤ (last.length : Int) := by have := SLE.out; omega
    go_wp2_with fail
    refine wp_region_V [11] (Below w6.heap.size w6) hmix ((Below.refl _ _).drew) ?_
    change wpAnyV _ _ _ _ _ _ _ _ _
    refine wpW (i := 0) (v := .string ⟨last.toArray⟩) (kept_below w6) rfl (DR fun w9 hS => by go_simp) ?_
    try simp only [getElem_toArray, getElem_cons_succ, getElem_cons_zero, Act.put, setIfInBounds_toArray, set_cons_succ, set_cons_zero]
    refine wpW (i := 1) (v := .int .i64 (s : Int)) (kept_below w6) rfl (DR fun w9 hS => by go_simp) ?_
    try simp only [getElem_toArray, getElem_cons_succ, getElem_cons_zero, Act.put, setIfInBounds_toArray, set_cons_succ, set_cons_zero]
    refine wpW (i := 2) (v := .string ⟨(last.take s).toArray⟩) (kept_below w6) rfl (DR fun w9 hS => by have h9 := HSV.out; have h8 := SZ1.out; go_simp) ?_
    try simp only [getElem_toArray, getElem_cons_succ, getElem_cons_zero, Act.put, setIfInBounds_toArray, set_cons_succ, set_cons_zero]
    refine wpW (i := 3) (v := .slice A2 t.length c2) (kept_below w6) rfl (DR fun w9 hS => by go_simp) ?_
    try simp only [getElem_toArray, getElem_cons_succ, getElem_cons_zero, Act.put, setIfInBounds_toArray, set_cons_succ, set_cons_zero]
    refine wpW (i := 4) (v := .string ⟨t.toArray⟩) (kept_below w6) rfl (DR fun w9 hS => by have h9 := HCV.out w9 hS; go_simp) ?_
    try simp only [getElem_toArray, getElem_cons_succ, getElem_cons_zero, Act.put, setIfInBounds_toArray, set_cons_succ, set_cons_zero]
    refine wpW (i := 5) (v := .string ⟨key.toArray⟩) (kept_below w6) rfl (DR fun w9 hS => by have h9 : (Op.stringOp .add (⟨(last.take s).toArray⟩ : ByteArray) ⟨t.toArray⟩).run Tryz.prog w9 = .ok (.string ⟨key.toArray⟩) w9 := (run_string_add_sum _ _ _ HAB.out).trans (by rw [HSA.out]); go_simp) ?_
    try simp only [getElem_toArray, getElem_cons_succ, getElem_cons_zero, Act.put, setIfInBounds_toArray, set_cons_succ, set_cons_zero]
    refine wpW (i := 6) (v := .slice A4 v.length c4) (kept_below w6) rfl (DR fun w9 hS => by go_simp) ?_
    try simp only [getElem_toArray, getElem_cons_succ, getElem_cons_zero, Act.put, setIfInBounds_toArray, set_cons_succ, set_cons_zero]
    refine wpW (i := 7) (v := .int .i64 (z : Int)) (kept_below w6) rfl (DR fun w9 hS => by go_simp) ?_
    try simp only [getElem_toArray, getElem_cons_succ, getElem_cons_zero, Act.put, setIfInBounds_toArray, set_cons_succ, set_cons_zero]
    refine wpW (i := 8) (v := .bool (decide (z = 0))) (kept_below w6) rfl (DR fun w9 hS => by have h9 : ((z : Int) == 0) = decide (z = 0) := (by by_cases h : z = 0 <;> simp [h]); go_simp) ?_
    try simp only [getElem_toArray, getElem_cons_succ, getElem_cons_zero, Act.put, setIfInBounds_toArray, set_cons_succ, set_cons_zero]
    refine wpW (i := 9) (v := .agg #[.string ⟨key.toArray⟩, .slice A4 v.length c4, .bool (decide (z = 0))]) (kept_below w6) rfl (DR fun w9 hS => by go_simp) ?_
    try simp only [getElem_toArray, getElem_cons_succ, getElem_cons_zero, Act.put, setIfInBounds_toArray, set_cons_succ, set_cons_zero]
    refine wpAnyV_only (i := 10) rfl (by kernel_rfl) rfl (fun u hS => wp_allocS 73 rfl _ zeroCh fun g10 u' hk hb hg => ⟨fun y => Below w6.heap.size w6 y ∧ Cs y g10 73 chZero.toArray, ⟨below_chain hS hb, hk⟩, kept_and (kept_below w6) (kept_cs _ _ _), fun _ u h => h.1, ?_⟩)
    try simp only [getElem_toArray, getElem_cons_succ, getElem_cons_zero, Act.put, setIfInBounds_toArray, set_cons_succ, set_cons_zero]
    have hge : w6.heap.size ≤ g10 := Nat.le_trans hS.size hg
    refine wpAnyV_only (i := 11) rfl (by kernel_rfl) rfl (fun u hS => wp_storeW 73 _ _ rfl g10 rfl [.string ⟨key.toArray⟩, .slice A4 v.length c4, .bool (decide (z = 0))] chZero rfl hS.2 rfl (one3c rfl U6.out.one rfl) (infoCh3 _ _ _) fun u' hk ht => ⟨fun y => Below w6.heap.size w6 y ∧ Cs y g10 73 [.string ⟨key.toArray⟩, .slice A4 v.length c4, .bool (decide (z = 0))].toArray, ⟨below_turn hS.1 ht hS.1.size hge, hk⟩, kept_and (kept_below w6) (kept_cs _ _ _), fun h => absurd (by simp) h, ?_⟩)
    try simp only [getElem_toArray, getElem_cons_succ, getElem_cons_zero, Act.put, setIfInBounds_toArray, set_cons_succ, set_cons_zero]
    refine wpAnyV_done (by kernel_rfl) (fun w7 hu => ?_) _
    have hb7 := hu.1
    have K7 := hid (K6.out.below hb7 K6.out.lt)
    have C7 := hid hu.2
    have T7 := hid (T6.out.kept hb7)
    have U7 := hid (U6.out.below hb7)
    have N10 := hid (show g4 ≠ g10 from fun e => by have := K6.out.lt; omega)
    clear hu hb7 K6 T6 U6 V6 HCV HAB HSV HSA SZ1 q2
    have hmay := fun u A F hr => MayC_any [(key, v, decide (z = 0))] A 1 F u ⟨by simp, fun x hx => by have := KLEN.out; simp at hx; subst hx; show key.length ≤ _; omega⟩ hr
    have MAY := hid hmay
    have hkl : (key.length : Int) ≤ 2000000 := by have := KLEN.out; omega
    have hlb := less_bytes
    have hsh := fun u => Shared_any last key u (by omega) (by have := KLEN.out; omega)
    have SHR := hid hsh
    have hfit := may_single (last := last) (k := key) (v := v) (z := decide (z = 0)) (fun h => HV0.out (by simpa using h))
    have REST := hid (by have h := REST.out; rw [hfit] at h; exact h)
    clear hmay hsh hfit
    obtain ⟨mm, hmm⟩ : ∃ x, mayCP [(key, v, decide (z = 0))] = x := ⟨_, rfl⟩
    rw [hmm] at REST
    have HMM := hid hmm
    clear hmm
    go_wp2_with (first
      | ((with_reducible show wpList _ _ _ _ _ w7); refine wpList_loadS rfl 73 _ rfl g10 rfl [.string ⟨key.toArray⟩, .slice A4 v.length c4, .bool (decide (z = 0))] C7.out _ Tryz.underlying73 rfl (infoCh3 _ _ _) ?_; go_frame)
      | ((with_reducible show wpList _ _ _ _ _ w7); refine wpList_buildCh1 (by kernel_rfl) _ rfl (key, v, decide (z = 0)) A4 c4 rfl ?_; intro g8 w8 hk hb hg; go_frame; have C8 := hid hk; have B8 := hid hb; clear hk hb hg))
    refine (MAY.out w8 _ _ (ls_one (r := (key, v, decide (z = 0))) C8.out (U7.out.below B8.out)).at.2.1).mono ?_
    rintro e w9 ⟨rfl, hb9⟩
    rw [HMM.out]
    have B9 := hid (below_chain B8.out hb9)
    have K9 := hid (K7.out.below B9.out K7.out.lt)
    have C9 := hid (C7.out.below B9.out C7.out.lt)
    have T9 := hid (T7.out.kept B9.out)
    have U9 := hid (U7.out.below B9.out)
    have q3 : w9.cell? ⟨g10, 0, none⟩ = some (.string ⟨key.toArray⟩) := C9.out.cell 0 rfl
    clear hb9 K7 C7 T7 U7 B8 C8
    cases mm
    · have HN := hid (REST.out.trans (if_pos (by simp)))
      go_wp2_with (first | ((with_reducible show wpList _ _ _ _ _ w9); refine wpList_storeS rfl 73 _ _ rfl g4 rfl chZero _ rfl K9.out rfl (one3c rfl rfl rfl) (infoCh3 _ _ _) ?_; intro x15 hk ht; go_frame; have K15 := hid hk; have T15 := hid ht; clear hk ht))
      exact bodyPost_ret (chg_end K15.out rfl rfl) rfl (ChgRet.err HN.out ((T9.out.turn).trans T15.out fun q hq h => absurd (h ▸ hq) (Nat.not_lt.2 G4.out)))
    · obtain ⟨ll, hll⟩ : ∃ x, lessK last key = x := ⟨_, rfl⟩
      rw [hll] at REST
      cases ll
      · have HN := hid (REST.out.trans (if_pos (by simp)))
        have f3 := leq_true hll
        clear hll
        go_wp2_with (first | ((with_reducible show wpList _ _ _ _ _ w9); refine wpList_storeS rfl 73 _ _ rfl g4 rfl chZero _ rfl K9.out rfl (one3c rfl rfl rfl) (infoCh3 _ _ _) ?_; intro x15 hk ht; go_frame; have K15 := hid hk; have T15 := hid ht; clear hk ht))
        exact bodyPost_ret (chg_end K15.out rfl rfl) rfl (ChgRet.err HN.out ((T9.out.turn).trans T15.out fun q hq h => absurd (h ▸ hq) (Nat.not_lt.2 G4.out)))
      · have f3 := leq_false hll
        clear hll
        go_wp2_with fail
        refine (SHR.out w9).mono ?_
        rintro e w10 ⟨rfl, hb10⟩
        have K10 := hid (K9.out.below hb10 K9.out.lt)
        have C10 := hid (C9.out.below hb10 C9.out.lt)
        have T10 := hid (T9.out.kept hb10)
        have U10 := hid (U9.out.below hb10)
        clear hb10 K9 C9 T9 U9 q3
        generalize sharedP last key = sp at *
        by_cases hsp : s < sp
        · have hsp' : (s : Int) < (sp : Int) := by omega
          have HN := hid (REST.out.trans (if_pos (by simp [hsp])))
          go_wp2_with (first | ((with_reducible show wpList _ _ _ _ _ w10); refine wpList_storeS rfl 73 _ _ rfl g4 rfl chZero _ rfl K10.out rfl (one3c rfl rfl rfl) (infoCh3 _ _ _) ?_; intro x15 hk ht; go_frame; have K15 := hid hk; have T15 := hid ht; clear hk ht))
          exact bodyPost_ret (chg_end K15.out rfl rfl) rfl (ChgRet.err HN.out ((T10.out.turn).trans T15.out fun q hq h => absurd (h ▸ hq) (Nat.not_lt.2 G4.out)))
        · have hsp' : ¬ (s : Int) < (sp : Int) := by omega
          have HN := hid (REST.out.trans (if_neg (by simp [hsp])))
          go_wp2_with (first
            | ((with_reducible show wpList _ _ _ _ _ w10); refine wpList_loadS rfl 73 _ rfl g10 rfl [.string ⟨key.toArray⟩, .slice A4 v.length c4, .bool (decide (z = 0))] C10.out _ Tryz.underlying73 rfl (infoCh3 _ _ _) ?_; go_frame)
            | ((with_reducible show wpList _ _ _ _ _ w10); refine wpList_storeS rfl 73 _ _ rfl g4 rfl [.string ⟨key.toArray⟩, .slice A4 v.length c4, .bool (decide (z = 0))] _ rfl K10.out rfl (one3c rfl rfl rfl) (infoCh3 _ _ _) ?_; intro x15 hk ht; go_frame; have K15 := hid hk; have T15 := hid ht; clear hk ht))
          exact bodyPost_ret (chg_end K15.out rfl rfl) rfl (ChgRet.has HN.out ((T10.out.turn).trans T15.out fun q hq h => absurd (h ▸ hq) (Nat.not_lt.2 G4.out)) ((U10.out.turn T15.out fun q h e => by have := LT4.out; omega).mono fun q _ h => Nat.le_trans W5.out h) (T10.out.at'.turn T15.out fun e => NE.out e.symm) BB.out.1.2.2.2.2)
  · simp only [if_true] at REST
    go_wp2_with (first | ((with_reducible show wpList _ _ _ _ _ w6); refine wpList_storeS rfl 73 _ _ rfl g4 rfl chZero _ rfl K6.out rfl (one3c rfl rfl rfl) (infoCh3 _ _ _) ?_; intro x15 hk ht; go_frame; have K15 := hid hk; have T15 := hid ht; clear hk ht))
    exact bodyPost_ret (chg_end K15.out rfl rfl) rfl (ChgRet.err REST.out ((T6.out.turn).trans T15.out fun q hq h => absurd (h ▸ hq) (Nat.not_lt.2 G4.out)))
end Go.Proofs.YtfgbpinfplllgaaGreatDoor
namespace Go.Proofs.YtfgbpinfplllgaaGreatDoor
open Go.RowKit Go.Shelf
set_option maxRecDepth 100000
def GetBRet (b : List UInt8) (w : World) (e : Ending) (w' : World) : Prop := Below w.heap.size w w' ∧ match getC b with
  | .error er => e = .returned (.tuple #[.slice none 0 0, .int .i64 er])
  | .ok l => ∃ v g, e = .returned (.tuple #[v, .int .i64 0]) ∧ OwnX chgE w' w.heap.size (fun k => w.heap.size ≤ k ∧ k ≠ g) v l
theorem GetBRet.err {b : List UInt8} {w w' : World} {er : Int} (h : getC b = .error er) (hb : Below w.heap.size w w') : GetBRet b w (.returned (.tuple #[.slice none 0 0, .int .i64 er])) w' := ⟨hb, by rw [h]⟩
theorem GetBRet.has {b : List UInt8} {w w' : World} {l : List Ch} {v : Value} {g : Nat} (h : getC b = .ok l) (hb : Below w.heap.size w w') (hv : OwnX chgE w' w.heap.size (fun k => w.heap.size ≤ k ∧ k ≠ g) v l) : GetBRet b w (.returned (.tuple #[v, .int .i64 0])) w' := ⟨hb, by rw [h]; exact ⟨v, g, rfl, hv⟩⟩
def farR (w : World) (g : Nat) : Nat := match w.cell? ⟨g, 1, none⟩ with
  | some v => (intOf v).toNat
  | none => 0
theorem farR_is {w : World} {g : Nat} {A : Option Addr} {n c a : Nat} {sh : Bool} (h : Cs w g 235 (rdrC A n c a sh).toArray) : farR w g = a := by
  unfold farR
  rw [rdrC_1 h]
  simp [intOf]
set_option maxHeartbeats 4000000 in
theorem Get_any7 (l : List UInt8) (A : Option Addr) (c : Nat) (w : World) (hl : l.length ≤ 10000000) (hr : Rd w A l) (hlc : l.length ≤ c) (hcm : c ≤ maxLen) :
    Calls Tryz.prog 126 #[.slice A l.length c] w fun e w' => GetBRet l w e w' := by
  have HR := hid hr
  have HC := hid (And.intro hlc hcm)
  have HOLD := hid (rd_old hr)
  have hl' : (l.length : Int) ≤ 10000000 := by omega
  clear hr hlc hcm
  go_enter Tryz.func126, Tryz.ntmps126
  go_wp2_with (first | ((with_reducible show wpList _ _ _ _ _ w); refine wpList_boxS rfl 235 _ rfl (rdrC A l.length c 0 false) rfl ?_; intro g1 w1 hk hb hg; go_frame; have K1 := hid hk; have B1 := hid hb; have G1 := hid hg; clear hk hb hg))
  go_loopw [4, 5] (fun lv kv wr => ∃ (acc : List Ch) (last : Key) (a : Nat), kv = .string ⟨last.toArray⟩ ∧ a ≤ l.length ∧ Cs wr g1 235 (rdrC A l.length c a false).toArray ∧ GotI l acc last (l.drop a) ∧ acc.length ≤ a ∧ OwnX chgE wr w.heap.size (fun k => w.heap.size ≤ k ∧ k ≠ g1) lv acc ∧ Below w.heap.size w wr) (fun _ _ wr => l.length - farR wr g1)
  case atStart => exact ⟨[], [], 0, rfl, Nat.zero_le _, K1.out, GotI.start l, Nat.le_refl _, OwnX.nil _ _ _, B1.out⟩
  case round =>
    obtain ⟨acc, last, a, rfl, ha, hk, hI, hfew, ho, hb⟩ := hrel
    have K := hid hk
    have HI := hid hI
    have HF := hid hfew
    have HO := hid ho
    have HB := hid hb
    have q1 := rdrC_1 hk
    have q0 := rdrC_0 hk
    have GL := hid (And.intro G1.out hk.lt)
    clear hk hI hfew ho hb
    by_cases hlt : a < l.length
    · have hlt' : (a : Int) < (l.length : Int) := by omega
      obtain ⟨b, off, rfl, hbo⟩ := HOLD.out.resolve_left (fun h => by rw [h] at hlt; simp at hlt)
      have hch := change_any last l b off c a g1 wr (by have := HI.out.2; omega) (by omega) HC.out.1 HC.out.2 ha (by have := GL.out; omega) (HR.out.below HB.out) K.out
      have HCH := hid hch
      have OL := hid (fun q e => (HO.out.lt q e).2)
      have HNX := hid (chgF_next last l a hlt)
      have HDC := hid (drop_cons hlt)
      clear hch
      go_wp2_with fail
      refine HCH.out.mono ?_
      clear HCH q1 q0
      rintro e u2 ⟨ht, hm⟩
      have T2 := hid ht
      have B2 := hid (below_turn HB.out ht HB.out.size G1.out)
      have O2 := hid (HO.out.turn ht fun q hq e => hq.2 e)
      have SZ := hid ht.size
      have HI2 := hid (show GotI l acc last (l.getD a 0 :: l.drop (a + 1)) from HDC.out ▸ HI.out)
      have HNX2 := hid (show nextP last (l.getD a 0 :: l.drop (a + 1)) = _ from (congrArg (nextP last) HDC.out).symm.trans HNX.out)
      clear ht HI HNX HO
      cases hn : chgF last l a with
      | error er =>
        rw [hn] at hm HNX2
        dsimp only at HNX2
        have he := next_some HNX2.out
        have HE := hid (HI2.out.err HNX2.out)
        subst hm
        clear hn
        rcases he with rfl | rfl
        · go_wp2_with (first
            | ((with_reducible show wpList _ _ _ _ _ u2); refine wpList_allocS rfl 73 rfl _ zeroCh ?_; intro g6 u3 hk3 hb3 hg3; go_frame; have K3 := hid hk3; have B3 := hid hb3; have G3 := hid hg3; clear hk3 hb3 hg3)
            | ((with_reducible show wpList _ _ _ _ _ u3); refine wpList_storeS rfl 73 _ _ rfl g6 rfl chZero chZero rfl K3.out rfl (one3c rfl rfl rfl) (infoCh3 _ _ _) ?_; intro u4 hk4 ht4; go_frame; have T4 := hid ht4; clear hk4 ht4))
          go_ret2
          exact GetBRet.err HE.out (below_turn (below_chain B2.out B3.out) T4.out (below_chain B2.out B3.out).size (Nat.le_trans B2.out.size G3.out))
        · go_wp2_with (first
            | ((with_reducible show wpList _ _ _ _ _ u2); refine wpList_allocS rfl 73 rfl _ zeroCh ?_; intro g6 u3 hk3 hb3 hg3; go_frame; have K3 := hid hk3; have B3 := hid hb3; have G3 := hid hg3; clear hk3 hb3 hg3)
            | ((with_reducible show wpList _ _ _ _ _ u3); refine wpList_storeS rfl 73 _ _ rfl g6 rfl chZero chZero rfl K3.out rfl (one3c rfl rfl rfl) (infoCh3 _ _ _) ?_; intro u4 hk4 ht4; go_frame; have T4 := hid ht4; clear hk4 ht4))
          go_ret2
          exact GetBRet.err HE.out (below_turn (below_chain B2.out B3.out) T4.out (below_chain B2.out B3.out).size (Nat.le_trans B2.out.size G3.out))
      | ok p =>
        obtain ⟨⟨k, val, z⟩, a'⟩ := p
        rw [hn] at hm HNX2
        dsimp only at hm HNX2
        obtain ⟨v, rfl, hv, hk2, ha'⟩ := hm
        have HN := hid (HI2.out.next HNX2.out)
        have HF2 := hid (show acc.length + 1 ≤ a' ∧ a < a' by have h1 := nextP_short HNX2.out; have h2 := HF.out; rw [List.length_drop, List.length_cons, List.length_drop] at h1; omega)
        have K2 := hid hk2
        have HV := hid hv
        obtain ⟨A9, c9, hv9, -⟩ := id hv
        subst hv9
        clear hn hv hk2 HI2 HNX2
        have hz0 := HB.out.size
        have hz := SZ.out
        go_wp2_with (first
          | ((with_reducible show wpList _ _ _ _ _ u2); refine wpList_allocS rfl 73 rfl _ zeroCh ?_; intro g6 u3 hk3 hb3 hg3; go_frame; have K3 := hid hk3; have B3 := hid hb3; have G3 := hid hg3; clear hk3 hb3 hg3)
          | ((with_reducible show wpList _ _ _ _ _ u3); refine wpList_storeS rfl 73 _ _ rfl g6 rfl [.string ⟨k.toArray⟩, .slice A9 val.length c9, .bool z] chZero rfl K3.out rfl (one3c rfl rfl rfl) (infoCh3 _ _ _) ?_; intro u4 hk4 ht4; go_frame; have K4 := hid hk4; have T4 := hid ht4; have G6 := hid (show wr.heap.size ≤ g6 from Nat.le_trans hz G3.out); have L4 := hid (below_turn B3.out ht4 B3.out.size G3.out); have O4 := hid (O2.out.below L4.out); have B4 := hid (below_chain B2.out L4.out); have HV4 := hid (HV.out.below L4.out); have R4 := hid (K2.out.below L4.out K2.out.lt); clear hk4 ht4)
          | ((with_reducible show wpList _ _ _ _ _ u4); refine wpList_loadS rfl 73 _ rfl g6 rfl [.string ⟨k.toArray⟩, .slice A9 val.length c9, .bool z] K4.out _ Tryz.underlying73 rfl (infoCh3 _ _ _) ?_; go_frame)
          | ((with_reducible show wpList _ _ _ _ _ u4); refine wpList_buildCh1 (by kernel_rfl) _ rfl (k, val, z) A9 c9 rfl ?_; intro g8 u5 hk hb hg; go_frame; have C5 := hid hk; have L5 := hid hb; have B5 := hid (below_chain B4.out hb); have O5 := hid (O4.out.below hb); have V5 := hid (HV4.out.below hb); have R5 := hid (R4.out.below hb R4.out.lt); have K5 := hid (K4.out.below hb K4.out.lt); clear hk hb hg)
          | ((with_reducible show wpList _ _ _ _ _ u5); at_builtin; go_loud (refine wpList_append_x1 (E := chgE) rfl _ _ rfl w.heap.size (fun k => w.heap.size ≤ k ∧ k ≠ g1) _ acc rfl O5.out g8 1 rfl [.string ⟨k.toArray⟩, .slice A9 val.length c9, .bool z] (k, val, z) ⟨_, rfl, V5.out.mono (fun q _ hq => ⟨⟨Nat.le_trans hz0 hq, fun e => by have := GL.out; omega⟩, fun e => by have := (O2.out.lt q e).2; have := (OL.out q e); omega⟩)⟩ 73 C5.out (by have := HF.out; omega) B5.out.size (by have := B5.out.size; have := L5.out.size; have := L4.out.size; have := GL.out; constructor <;> omega) ?_; intro v5 u6 ho5 hg5; go_frame; have O6 := hid ho5; have B6 := hid (B5.out.grown hg5 B5.out.size (fun q e => (O5.out.lt q e).1)); have R6 := hid (R5.out.turn (Turn.of_grown hg5) (fun e => (O5.out.sub _ e).2 rfl)); have q5 := ch_d0 (K5.out.turn (Turn.of_grown hg5) (fun e => by have := (O2.out.lt _ e).2; have := G3.out; omega)); clear ho5 hg5)))
        go_roundw
        case rel => exact ⟨acc ++ [(k, val, z)], k, a', rfl, ha', R6.out, HN.out, by rw [List.length_append]; exact HF2.out.1, O6.out, B6.out⟩
        case measure => rw [farR_is R6.out, farR_is K.out]; have := HF2.out; omega
    · have hlt' : ¬ (a : Int) < (l.length : Int) := by omega
      have HE := hid (show getC l = .ok acc from by have h := HI.out; rw [List.drop_of_length_le (by omega)] at h; exact h.over)
      go_wp2_with fail
      go_ret2
      exact GetBRet.has HE.out HB.out HO.out
end Go.Proofs.YtfgbpinfplllgaaGreatDoor
