/- A reader, plain and in memory; number. -/
import Derived.Test.YtboalmmpcfiicaaDoorSlB
import Derived.Test.YtboalmmpcfiicaaDoorWordsK
import Derived.Test.YtboalmmpcfiicaaDoorXdWr2
namespace Go.Proofs.YtboalmmpcfiicaaDoor
open Go.RowKit Go.Shelf
set_option linter.unusedVariables false
set_option maxRecDepth 100000
set_option linter.unusedSimpArgs false

theorem cell_b {W u : World} (hb : Below W.heap.size W u) {p : Addr} {v : Value} (h : W.cell? p = some v) : u.cell? p = some v := (hb.cell (lt_of_cell h)).trans h
/-- a reader: bytes, a place in them, the first error -/
structure RS where
  all : List UInt8
  pos : Nat
  err : Int
/-- the number of k bytes that stands next -/
def numR (s : RS) (k : Nat) : Int × RS :=
  if s.err ≠ 0 then (0, s) else if s.all.length < s.pos + k then (0, ⟨s.all, s.pos, 4⟩) else (beSum (seg s.all s.pos k), ⟨s.all, s.pos + k, 0⟩)
def truthR (s : RS) : Bool × RS := ((numR s 4).1 == 1, if 1 < (numR s 4).1 then ⟨(numR s 4).2.all, (numR s 4).2.pos, 5⟩ else (numR s 4).2)
def bytesR (s : RS) (most : Int) : List UInt8 × RS :=
  let n := (numR s 4).1.toNat
  let t := (numR s 4).2
  if t.err ≠ 0 then ([], t)
  else if max most 0 < (n : Int) then ([], ⟨t.all, t.pos, 3⟩)
  else if t.all.length < t.pos + (n + padN n) then ([], ⟨t.all, t.pos, 4⟩)
  else if allZ t.all (t.pos + n) (padN n) = true then ((t.all.drop t.pos).take n, ⟨t.all, t.pos + (n + padN n), 0⟩)
  else ([], ⟨t.all, t.pos, 5⟩)
def endR (s : RS) : Int := if s.err ≠ 0 then s.err else if s.pos < s.all.length then 5 else 0
theorem numR_pos (s : RS) (k : Nat) (h : s.pos ≤ s.all.length) : (numR s k).2.pos ≤ (numR s k).2.all.length := by
  unfold numR
  split
  · exact h
  · split
    · exact h
    · dsimp only; omega
theorem numR_all (s : RS) (k : Nat) : (numR s k).2.all = s.all := by
  unfold numR
  split
  · rfl
  · split <;> rfl
theorem numR_bd (s : RS) (k : Nat) (hk : k ≤ 8) : 0 ≤ (numR s k).1 ∧ (numR s k).1 < 256 ^ k ∧ (numR s k).1 ≤ 18446744073709551615 := by
  have hp : (0 : Int) < 256 ^ k := Int.pow_pos (by decide)
  unfold numR
  split
  · exact ⟨Int.le_refl _, hp, by simp⟩
  · split
    · exact ⟨Int.le_refl _, hp, by simp⟩
    · exact ⟨(beSum_bd _ _ _).1, (beSum_bd _ _ _).2, beSum_64 _ _ _ hk⟩
theorem numR_bad (s : RS) (k : Nat) (h : s.err ≠ 0) : numR s k = (0, s) := by unfold numR; rw [if_pos h]
theorem numR_four (s : RS) : 0 ≤ (numR s 4).1 ∧ (numR s 4).1 ≤ 4294967295 := by
  have h := numR_bd s 4 (by decide)
  have e : (256 : Int) ^ 4 = 4294967296 := by decide
  omega
/-- a reader in memory; its bytes lie in F -/
def RdAt (w : World) (rb : Nat) (s : RS) (F : Nat → Prop) : Prop := ∃ v, Cs w rb 82 #[.bool true, v, .int .i64 (s.pos : Int), .int .i64 s.err] ∧ BsV w F v s.all ∧ ¬ F rb ∧ s.pos ≤ s.all.length
theorem RdAt.turn {w w' : World} {rb : Nat} {s : RS} {F G : Nat → Prop} (h : RdAt w rb s F) (ht : Turn w w' G) (hr : ¬ G rb) (hF : ∀ k, F k → ¬ G k) : RdAt w' rb s F := by
  obtain ⟨v, h1, h2, h3, h4⟩ := h
  exact ⟨v, h1.turn ht hr, h2.turn ht hF, h3, h4⟩
theorem RdAt.below {w w' : World} {rb : Nat} {s : RS} {F : Nat → Prop} (h : RdAt w rb s F) (hb : Below w.heap.size w w') : RdAt w' rb s F := h.turn (Turn.of_below hb fun _ => False) (fun h => h) fun _ _ h => h
theorem RdAt.lt {w : World} {rb : Nat} {s : RS} {F : Nat → Prop} (h : RdAt w rb s F) : rb < w.heap.size := by
  obtain ⟨v, h1, h2⟩ := h
  exact h1.lt
/-- what tells a value, and leaves the reader as s -/
def Told (rb : Nat) (s : RS) (F : Nat → Prop) (v : Value) (w : World) (e : Ending) (w' : World) : Prop := e = .returned v ∧ RdAt w' rb s F ∧ Turn w w' (· = rb)
theorem Told.since {rb : Nat} {s : RS} {F : Nat → Prop} {v : Value} {w w1 : World} {e : Ending} {w' : World} (h : Told rb s F v w1 e w') (ht : Turn w w1 (· = rb)) : Told rb s F v w e w' := ⟨h.1, h.2.1, ht.trans h.2.2 fun _ _ h => h⟩
theorem Error_r {w : World} {rb : Nat} {s : RS} {F : Nat → Prop} (h : RdAt w rb s F) : Calls Tryd.prog 60 #[.pointer (some ⟨rb, 0, none⟩)] w fun e w' => e = .returned (.int .i64 s.err) ∧ w = w' := by
  obtain ⟨v, hc, -, -, -⟩ := h
  have c0 := hc.cell 0 rfl
  have c3 := hc.cell 3 rfl
  clear hc
  generalize s.err = er at *
  go_enter Tryd.func60, Tryd.ntmps60
  go_wp2
  go_ret
  exact ⟨rfl, rfl⟩
theorem get_val (l : List UInt8) (p k : Nat) (hk : sizeB k = true) (hp : p ≤ l.length) : getV l p k = if l.length < p + k then .tuple #[.int .u64 0, .int .i64 4] else .tuple #[.int .u64 (beSum (seg l p k)), .int .i64 0] := by
  unfold getV
  have h1 : ¬ (sizeB (k : Int) = false ∨ placeB l.length (p : Int) = false) := by
    rw [hk, place_iff.2 ⟨by omega, by omega⟩]
    simp
  rw [if_neg h1]
  by_cases h : l.length < p + k
  · rw [if_pos (by omega), if_pos h]
  · rw [if_neg (by omega), if_neg h, Int.toNat_natCast, Int.toNat_natCast]
set_option maxHeartbeats 4000000 in
theorem number4_r {w : World} {rb : Nat} {s : RS} {F : Nat → Prop} (h : RdAt w rb s F) : Calls Tryd.prog 59 #[.pointer (some ⟨rb, 0, none⟩), .int .i64 4] w fun e w' => Told rb (numR s 4).2 F (.int .u64 (numR s 4).1) w e w' := by
  have herr := fun u (hb : Below w.heap.size w u) => Error_r (h.below hb)
  obtain ⟨all, pos, err⟩ := s
  by_cases h0 : err = 0
  · subst h0
    obtain ⟨v, hc, hv, hF, hp⟩ := h
    obtain ⟨A, c, rfl, hrd, hA, hlc, hcm⟩ := id hv
    have hm : all.length ≤ 9223372036854775807 := by unfold maxLen at hcm; exact Nat.le_trans hlc hcm
    have hpm : pos ≤ all.length := hp
    have hg := fun u (hb : Below w.heap.size w u) => Get_any all A c (pos : Int) 4 u (Nat.le_trans hlc hcm) hlc (hrd.rd.below hb)
    have hgv := get_val all pos 4 (by decide) hpm
    rw [show (((4 : Nat)) : Int) = 4 from rfl] at hgv
    rw [hgv] at hg
    have hmix : Tryd.prog.follows .mixedOrders = true := by kernel_rfl
    have hc' : Cs w rb 82 #[.bool true, .slice A all.length c, .int .i64 (pos : Int), .int .i64 0] := hc
    have c1 := hc'.cell 1 rfl
    have c2 := hc'.cell 2 rfl
    have HE := Lib.hid (herr w (Below.refl _ _))
    have HC := Lib.hid hc'
    have HV := Lib.hid hv
    have HF := Lib.hid hF
    unfold numR
    rw [if_neg (by simp)]
    clear hgv hv hrd hA hlc hcm hp hc hc' herr hF
    by_cases hs : all.length < pos + 4
    · rw [if_pos hs] at hg
      rw [if_pos hs]
      have HG := Lib.hid hg
      clear hg hs
      go_enter Tryd.func59, Tryd.ntmps59
      go_wp2_with fail
      refine HE.out.mono ?_
      rintro e w' ⟨rfl, rfl⟩
      go_wp2_with fail
      refine wp_region_V [] (Below w.heap.size w) hmix ((Below.refl _ _).drew) ?_
      change wpAnyV _ _ _ _ _ _ _ _ _
      refine wpAnyV_take (i := 0) (v := .pointer (some ⟨rb, 0, none⟩)) 8 (kept_below w) rfl (by kernel_rfl) (by kernel_rfl) (fun _ _ _ h => h) (fun _ h => h) (DoesV.reads (by rfl) fun w9 hS => by go_simp) ?_
      try simp only [List.getElem_toArray, List.getElem_cons_succ, List.getElem_cons_zero, Act.put, List.setIfInBounds_toArray, List.set_cons_succ, List.set_cons_zero]
      refine wpAnyV_take (i := 1) (v := .pointer (some ⟨rb, 0, none⟩)) 8 (kept_below w) rfl (by kernel_rfl) (by kernel_rfl) (fun _ _ _ h => h) (fun _ h => h) (DoesV.reads (by rfl) fun w9 hS => by go_simp) ?_
      try simp only [List.getElem_toArray, List.getElem_cons_succ, List.getElem_cons_zero, Act.put, List.setIfInBounds_toArray, List.set_cons_succ, List.set_cons_zero]
      refine wpAnyV_take (i := 2) (v := .pointer (some ⟨rb, 1, none⟩)) 8 (kept_below w) rfl (by kernel_rfl) (by kernel_rfl) (fun _ _ _ h => h) (fun _ h => h) (DoesV.reads (by rfl) fun w9 hS => by go_simp) ?_
      try simp only [List.getElem_toArray, List.getElem_cons_succ, List.getElem_cons_zero, Act.put, List.setIfInBounds_toArray, List.set_cons_succ, List.set_cons_zero]
      refine wpAnyV_take (i := 3) (v := .slice A all.length c) 8 (kept_below w) rfl (by kernel_rfl) (by kernel_rfl) (fun _ _ _ h => h) (fun _ h => h) (DoesV.reads (by rfl) fun w9 hS => by have q0 := cell_b hS c1; go_simp) ?_
      try simp only [List.getElem_toArray, List.getElem_cons_succ, List.getElem_cons_zero, Act.put, List.setIfInBounds_toArray, List.set_cons_succ, List.set_cons_zero]
      refine wpAnyV_take (i := 4) (v := .pointer (some ⟨rb, 0, none⟩)) 8 (kept_below w) rfl (by kernel_rfl) (by kernel_rfl) (fun _ _ _ h => h) (fun _ h => h) (DoesV.reads (by rfl) fun w9 hS => by go_simp) ?_
      try simp only [List.getElem_toArray, List.getElem_cons_succ, List.getElem_cons_zero, Act.put, List.setIfInBounds_toArray, List.set_cons_succ, List.set_cons_zero]
      refine wpAnyV_take (i := 5) (v := .pointer (some ⟨rb, 0, none⟩)) 8 (kept_below w) rfl (by kernel_rfl) (by kernel_rfl) (fun _ _ _ h => h) (fun _ h => h) (DoesV.reads (by rfl) fun w9 hS => by go_simp) ?_
      try simp only [List.getElem_toArray, List.getElem_cons_succ, List.getElem_cons_zero, Act.put, List.setIfInBounds_toArray, List.set_cons_succ, List.set_cons_zero]
      refine wpAnyV_take (i := 6) (v := .pointer (some ⟨rb, 2, none⟩)) 8 (kept_below w) rfl (by kernel_rfl) (by kernel_rfl) (fun _ _ _ h => h) (fun _ h => h) (DoesV.reads (by rfl) fun w9 hS => by go_simp) ?_
      try simp only [List.getElem_toArray, List.getElem_cons_succ, List.getElem_cons_zero, Act.put, List.setIfInBounds_toArray, List.set_cons_succ, List.set_cons_zero]
      refine wpAnyV_take (i := 7) (v := .int .i64 (pos : Int)) 8 (kept_below w) rfl (by kernel_rfl) (by kernel_rfl) (fun _ _ _ h => h) (fun _ h => h) (DoesV.reads (by rfl) fun w9 hS => by have q0 := cell_b hS c2; go_simp) ?_
      try simp only [List.getElem_toArray, List.getElem_cons_succ, List.getElem_cons_zero, Act.put, List.setIfInBounds_toArray, List.set_cons_succ, List.set_cons_zero]
      refine wpAnyV_take (i := 8) (v := .int .i64 4) 8 (kept_below w) rfl (by kernel_rfl) (by kernel_rfl) (fun _ _ _ h => h) (fun _ h => h) (DoesV.reads (by rfl) fun w9 hS => by go_simp) ?_
      try simp only [List.getElem_toArray, List.getElem_cons_succ, List.getElem_cons_zero, Act.put, List.setIfInBounds_toArray, List.set_cons_succ, List.set_cons_zero]
      refine wpAnyV_take (i := 9) (v := .tuple #[.int .u64 0, .int .i64 4]) 8 (kept_below w) rfl (by kernel_rfl) (by kernel_rfl) (fun _ _ _ h => h) (fun _ h => h) (DoesV.calls 69 #[.slice A all.length c, .int .i64 (pos : Int), .int .i64 4] (by rfl) (fun w9 hS => by go_simp) (fun w9 hS => HG.out w9 hS)) ?_
      try simp only [List.getElem_toArray, List.getElem_cons_succ, List.getElem_cons_zero, Act.put, List.setIfInBounds_toArray, List.set_cons_succ, List.set_cons_zero]
      refine wpAnyV_take (i := 10) (v := .tuple #[.int .u64 0, .int .i64 4]) 8 (kept_below w) rfl (by kernel_rfl) (by kernel_rfl) (fun _ _ _ h => h) (fun _ h => h) (DoesV.reads (by rfl) fun w9 hS => by go_simp) ?_
      try simp only [List.getElem_toArray, List.getElem_cons_succ, List.getElem_cons_zero, Act.put, List.setIfInBounds_toArray, List.set_cons_succ, List.set_cons_zero]
      refine wpAnyV_take (i := 11) (v := .int .u64 0) 8 (kept_below w) rfl (by kernel_rfl) (by kernel_rfl) (fun _ _ _ h => h) (fun _ h => h) (DoesV.reads (by rfl) fun w9 hS => by go_simp) ?_
      try simp only [List.getElem_toArray, List.getElem_cons_succ, List.getElem_cons_zero, Act.put, List.setIfInBounds_toArray, List.set_cons_succ, List.set_cons_zero]
      refine wpAnyV_take (i := 12) (v := .int .i64 4) 8 (kept_below w) rfl (by kernel_rfl) (by kernel_rfl) (fun _ _ _ h => h) (fun _ h => h) (DoesV.reads (by rfl) fun w9 hS => by go_simp) ?_
      try simp only [List.getElem_toArray, List.getElem_cons_succ, List.getElem_cons_zero, Act.put, List.setIfInBounds_toArray, List.set_cons_succ, List.set_cons_zero]
      refine wpAnyV_take (i := 13) (v := .int .u64 0) 8 (kept_below w) rfl (by kernel_rfl) (by kernel_rfl) (fun _ _ _ h => h) (fun _ h => h) (DoesV.reads (by rfl) fun w9 hS => by go_simp) ?_
      try simp only [List.getElem_toArray, List.getElem_cons_succ, List.getElem_cons_zero, Act.put, List.setIfInBounds_toArray, List.set_cons_succ, List.set_cons_zero]
      refine wpAnyV_take (i := 14) (v := .int .i64 4) 8 (kept_below w) rfl (by kernel_rfl) (by kernel_rfl) (fun _ _ _ h => h) (fun _ h => h) (DoesV.reads (by rfl) fun w9 hS => by go_simp) ?_
      try simp only [List.getElem_toArray, List.getElem_cons_succ, List.getElem_cons_zero, Act.put, List.setIfInBounds_toArray, List.set_cons_succ, List.set_cons_zero]
      refine wpAnyV_done (by kernel_rfl) (fun y hu => ?_) _
      have hk := HC.out.below hu HC.out.lt
      have c3 := hk.cell 3 rfl
      have f3 := hk.frozen 3
      have HK := Lib.hid hk
      have HU := Lib.hid hu
      clear hk hu
      go_wp2_with fail
      go_ret
      refine ⟨rfl, ⟨_, by simpa using HK.out.set 3 (.int .i64 4), (HV.out.below HU.out).turn (Turn.setAt y rb 3 _) (fun k hk e => HF.out (e ▸ hk)), HF.out, hpm⟩, (Turn.of_below HU.out _).trans (Turn.setAt y rb 3 _) fun _ _ h => h⟩
    · rw [if_neg hs] at hg
      rw [if_neg hs]
      have hbd := beSum_64 all pos 4 (by decide)
      have hbd0 := (beSum_bd all pos 4).1
      generalize beSum (seg all pos 4) = nn at *
      have HG := Lib.hid hg
      have HS := Lib.hid hs
      have hs' : (pos : Int) + 4 ≤ (all.length : Int) := by omega
      clear hg hs
      go_enter Tryd.func59, Tryd.ntmps59
      go_wp2_with fail
      refine HE.out.mono ?_
      rintro e w' ⟨rfl, rfl⟩
      go_wp2_with fail
      refine wp_region_V [] (Below w.heap.size w) hmix ((Below.refl _ _).drew) ?_
      change wpAnyV _ _ _ _ _ _ _ _ _
      refine wpAnyV_take (i := 0) (v := .pointer (some ⟨rb, 0, none⟩)) 8 (kept_below w) rfl (by kernel_rfl) (by kernel_rfl) (fun _ _ _ h => h) (fun _ h => h) (DoesV.reads (by rfl) fun w9 hS => by go_simp) ?_
      try simp only [List.getElem_toArray, List.getElem_cons_succ, List.getElem_cons_zero, Act.put, List.setIfInBounds_toArray, List.set_cons_succ, List.set_cons_zero]
      refine wpAnyV_take (i := 1) (v := .pointer (some ⟨rb, 0, none⟩)) 8 (kept_below w) rfl (by kernel_rfl) (by kernel_rfl) (fun _ _ _ h => h) (fun _ h => h) (DoesV.reads (by rfl) fun w9 hS => by go_simp) ?_
      try simp only [List.getElem_toArray, List.getElem_cons_succ, List.getElem_cons_zero, Act.put, List.setIfInBounds_toArray, List.set_cons_succ, List.set_cons_zero]
      refine wpAnyV_take (i := 2) (v := .pointer (some ⟨rb, 1, none⟩)) 8 (kept_below w) rfl (by kernel_rfl) (by kernel_rfl) (fun _ _ _ h => h) (fun _ h => h) (DoesV.reads (by rfl) fun w9 hS => by go_simp) ?_
      try simp only [List.getElem_toArray, List.getElem_cons_succ, List.getElem_cons_zero, Act.put, List.setIfInBounds_toArray, List.set_cons_succ, List.set_cons_zero]
      refine wpAnyV_take (i := 3) (v := .slice A all.length c) 8 (kept_below w) rfl (by kernel_rfl) (by kernel_rfl) (fun _ _ _ h => h) (fun _ h => h) (DoesV.reads (by rfl) fun w9 hS => by have q0 := cell_b hS c1; go_simp) ?_
      try simp only [List.getElem_toArray, List.getElem_cons_succ, List.getElem_cons_zero, Act.put, List.setIfInBounds_toArray, List.set_cons_succ, List.set_cons_zero]
      refine wpAnyV_take (i := 4) (v := .pointer (some ⟨rb, 0, none⟩)) 8 (kept_below w) rfl (by kernel_rfl) (by kernel_rfl) (fun _ _ _ h => h) (fun _ h => h) (DoesV.reads (by rfl) fun w9 hS => by go_simp) ?_
      try simp only [List.getElem_toArray, List.getElem_cons_succ, List.getElem_cons_zero, Act.put, List.setIfInBounds_toArray, List.set_cons_succ, List.set_cons_zero]
      refine wpAnyV_take (i := 5) (v := .pointer (some ⟨rb, 0, none⟩)) 8 (kept_below w) rfl (by kernel_rfl) (by kernel_rfl) (fun _ _ _ h => h) (fun _ h => h) (DoesV.reads (by rfl) fun w9 hS => by go_simp) ?_
      try simp only [List.getElem_toArray, List.getElem_cons_succ, List.getElem_cons_zero, Act.put, List.setIfInBounds_toArray, List.set_cons_succ, List.set_cons_zero]
      refine wpAnyV_take (i := 6) (v := .pointer (some ⟨rb, 2, none⟩)) 8 (kept_below w) rfl (by kernel_rfl) (by kernel_rfl) (fun _ _ _ h => h) (fun _ h => h) (DoesV.reads (by rfl) fun w9 hS => by go_simp) ?_
      try simp only [List.getElem_toArray, List.getElem_cons_succ, List.getElem_cons_zero, Act.put, List.setIfInBounds_toArray, List.set_cons_succ, List.set_cons_zero]
      refine wpAnyV_take (i := 7) (v := .int .i64 (pos : Int)) 8 (kept_below w) rfl (by kernel_rfl) (by kernel_rfl) (fun _ _ _ h => h) (fun _ h => h) (DoesV.reads (by rfl) fun w9 hS => by have q0 := cell_b hS c2; go_simp) ?_
      try simp only [List.getElem_toArray, List.getElem_cons_succ, List.getElem_cons_zero, Act.put, List.setIfInBounds_toArray, List.set_cons_succ, List.set_cons_zero]
      refine wpAnyV_take (i := 8) (v := .int .i64 4) 8 (kept_below w) rfl (by kernel_rfl) (by kernel_rfl) (fun _ _ _ h => h) (fun _ h => h) (DoesV.reads (by rfl) fun w9 hS => by go_simp) ?_
      try simp only [List.getElem_toArray, List.getElem_cons_succ, List.getElem_cons_zero, Act.put, List.setIfInBounds_toArray, List.set_cons_succ, List.set_cons_zero]
      refine wpAnyV_take (i := 9) (v := .tuple #[.int .u64 nn, .int .i64 0]) 8 (kept_below w) rfl (by kernel_rfl) (by kernel_rfl) (fun _ _ _ h => h) (fun _ h => h) (DoesV.calls 69 #[.slice A all.length c, .int .i64 (pos : Int), .int .i64 4] (by rfl) (fun w9 hS => by go_simp) (fun w9 hS => HG.out w9 hS)) ?_
      try simp only [List.getElem_toArray, List.getElem_cons_succ, List.getElem_cons_zero, Act.put, List.setIfInBounds_toArray, List.set_cons_succ, List.set_cons_zero]
      refine wpAnyV_take (i := 10) (v := .tuple #[.int .u64 nn, .int .i64 0]) 8 (kept_below w) rfl (by kernel_rfl) (by kernel_rfl) (fun _ _ _ h => h) (fun _ h => h) (DoesV.reads (by rfl) fun w9 hS => by go_simp) ?_
      try simp only [List.getElem_toArray, List.getElem_cons_succ, List.getElem_cons_zero, Act.put, List.setIfInBounds_toArray, List.set_cons_succ, List.set_cons_zero]
      refine wpAnyV_take (i := 11) (v := .int .u64 nn) 8 (kept_below w) rfl (by kernel_rfl) (by kernel_rfl) (fun _ _ _ h => h) (fun _ h => h) (DoesV.reads (by rfl) fun w9 hS => by go_simp) ?_
      try simp only [List.getElem_toArray, List.getElem_cons_succ, List.getElem_cons_zero, Act.put, List.setIfInBounds_toArray, List.set_cons_succ, List.set_cons_zero]
      refine wpAnyV_take (i := 12) (v := .int .i64 0) 8 (kept_below w) rfl (by kernel_rfl) (by kernel_rfl) (fun _ _ _ h => h) (fun _ h => h) (DoesV.reads (by rfl) fun w9 hS => by go_simp) ?_
      try simp only [List.getElem_toArray, List.getElem_cons_succ, List.getElem_cons_zero, Act.put, List.setIfInBounds_toArray, List.set_cons_succ, List.set_cons_zero]
      refine wpAnyV_take (i := 13) (v := .int .u64 nn) 8 (kept_below w) rfl (by kernel_rfl) (by kernel_rfl) (fun _ _ _ h => h) (fun _ h => h) (DoesV.reads (by rfl) fun w9 hS => by go_simp) ?_
      try simp only [List.getElem_toArray, List.getElem_cons_succ, List.getElem_cons_zero, Act.put, List.setIfInBounds_toArray, List.set_cons_succ, List.set_cons_zero]
      refine wpAnyV_take (i := 14) (v := .int .i64 0) 8 (kept_below w) rfl (by kernel_rfl) (by kernel_rfl) (fun _ _ _ h => h) (fun _ h => h) (DoesV.reads (by rfl) fun w9 hS => by go_simp) ?_
      try simp only [List.getElem_toArray, List.getElem_cons_succ, List.getElem_cons_zero, Act.put, List.setIfInBounds_toArray, List.set_cons_succ, List.set_cons_zero]
      refine wpAnyV_done (by kernel_rfl) (fun y hu => ?_) _
      have hk := HC.out.below hu HC.out.lt
      have d2 := hk.cell 2 rfl
      have f2 := hk.frozen 2
      have HK := Lib.hid hk
      have HU := Lib.hid hu
      clear hk hu
      go_wp2_with fail
      go_ret
      refine ⟨rfl, ⟨_, by simpa using HK.out.set 2 (.int .i64 ((pos : Int) + 4)), (HV.out.below HU.out).turn (Turn.setAt y rb 2 _) (fun k hk e => HF.out (e ▸ hk)), HF.out, by have := HS.out; dsimp only; omega⟩, (Turn.of_below HU.out _).trans (Turn.setAt y rb 2 _) fun _ _ h => h⟩
  · have HE := Lib.hid (herr w (Below.refl _ _))
    have e0 : (err == 0) = false := by simpa using h0
    have e1 : (err != 0) = true := by rw [bne, e0]; rfl
    have hz := numR_bad ⟨all, pos, err⟩ 4 h0
    rw [hz]
    have H := Lib.hid h
    clear hz h herr h0
    go_enter Tryd.func59, Tryd.ntmps59
    go_wp2_with fail
    refine HE.out.mono ?_
    rintro e w' ⟨rfl, rfl⟩
    go_wp2_with fail
    go_ret
    exact ⟨rfl, H.out, Turn.refl _ _⟩
set_option maxHeartbeats 4000000 in
theorem number8_r {w : World} {rb : Nat} {s : RS} {F : Nat → Prop} (h : RdAt w rb s F) : Calls Tryd.prog 59 #[.pointer (some ⟨rb, 0, none⟩), .int .i64 8] w fun e w' => Told rb (numR s 8).2 F (.int .u64 (numR s 8).1) w e w' := by
  have herr := fun u (hb : Below w.heap.size w u) => Error_r (h.below hb)
  obtain ⟨all, pos, err⟩ := s
  by_cases h0 : err = 0
  · subst h0
    obtain ⟨v, hc, hv, hF, hp⟩ := h
    obtain ⟨A, c, rfl, hrd, hA, hlc, hcm⟩ := id hv
    have hm : all.length ≤ 9223372036854775807 := by unfold maxLen at hcm; exact Nat.le_trans hlc hcm
    have hpm : pos ≤ all.length := hp
    have hg := fun u (hb : Below w.heap.size w u) => Get_any all A c (pos : Int) 8 u (Nat.le_trans hlc hcm) hlc (hrd.rd.below hb)
    have hgv := get_val all pos 8 (by decide) hpm
    rw [show (((8 : Nat)) : Int) = 8 from rfl] at hgv
    rw [hgv] at hg
    have hmix : Tryd.prog.follows .mixedOrders = true := by kernel_rfl
    have hc' : Cs w rb 82 #[.bool true, .slice A all.length c, .int .i64 (pos : Int), .int .i64 0] := hc
    have c1 := hc'.cell 1 rfl
    have c2 := hc'.cell 2 rfl
    have HE := Lib.hid (herr w (Below.refl _ _))
    have HC := Lib.hid hc'
    have HV := Lib.hid hv
    have HF := Lib.hid hF
    unfold numR
    rw [if_neg (by simp)]
    clear hgv hv hrd hA hlc hcm hp hc hc' herr hF
    by_cases hs : all.length < pos + 8
    · rw [if_pos hs] at hg
      rw [if_pos hs]
      have HG := Lib.hid hg
      clear hg hs
      go_enter Tryd.func59, Tryd.ntmps59
      go_wp2_with fail
      refine HE.out.mono ?_
      rintro e w' ⟨rfl, rfl⟩
      go_wp2_with fail
      refine wp_region_V [] (Below w.heap.size w) hmix ((Below.refl _ _).drew) ?_
      change wpAnyV _ _ _ _ _ _ _ _ _
      refine wpAnyV_take (i := 0) (v := .pointer (some ⟨rb, 0, none⟩)) 8 (kept_below w) rfl (by kernel_rfl) (by kernel_rfl) (fun _ _ _ h => h) (fun _ h => h) (DoesV.reads (by rfl) fun w9 hS => by go_simp) ?_
      try simp only [List.getElem_toArray, List.getElem_cons_succ, List.getElem_cons_zero, Act.put, List.setIfInBounds_toArray, List.set_cons_succ, List.set_cons_zero]
      refine wpAnyV_take (i := 1) (v := .pointer (some ⟨rb, 0, none⟩)) 8 (kept_below w) rfl (by kernel_rfl) (by kernel_rfl) (fun _ _ _ h => h) (fun _ h => h) (DoesV.reads (by rfl) fun w9 hS => by go_simp) ?_
      try simp only [List.getElem_toArray, List.getElem_cons_succ, List.getElem_cons_zero, Act.put, List.setIfInBounds_toArray, List.set_cons_succ, List.set_cons_zero]
      refine wpAnyV_take (i := 2) (v := .pointer (some ⟨rb, 1, none⟩)) 8 (kept_below w) rfl (by kernel_rfl) (by kernel_rfl) (fun _ _ _ h => h) (fun _ h => h) (DoesV.reads (by rfl) fun w9 hS => by go_simp) ?_
      try simp only [List.getElem_toArray, List.getElem_cons_succ, List.getElem_cons_zero, Act.put, List.setIfInBounds_toArray, List.set_cons_succ, List.set_cons_zero]
      refine wpAnyV_take (i := 3) (v := .slice A all.length c) 8 (kept_below w) rfl (by kernel_rfl) (by kernel_rfl) (fun _ _ _ h => h) (fun _ h => h) (DoesV.reads (by rfl) fun w9 hS => by have q0 := cell_b hS c1; go_simp) ?_
      try simp only [List.getElem_toArray, List.getElem_cons_succ, List.getElem_cons_zero, Act.put, List.setIfInBounds_toArray, List.set_cons_succ, List.set_cons_zero]
      refine wpAnyV_take (i := 4) (v := .pointer (some ⟨rb, 0, none⟩)) 8 (kept_below w) rfl (by kernel_rfl) (by kernel_rfl) (fun _ _ _ h => h) (fun _ h => h) (DoesV.reads (by rfl) fun w9 hS => by go_simp) ?_
      try simp only [List.getElem_toArray, List.getElem_cons_succ, List.getElem_cons_zero, Act.put, List.setIfInBounds_toArray, List.set_cons_succ, List.set_cons_zero]
      refine wpAnyV_take (i := 5) (v := .pointer (some ⟨rb, 0, none⟩)) 8 (kept_below w) rfl (by kernel_rfl) (by kernel_rfl) (fun _ _ _ h => h) (fun _ h => h) (DoesV.reads (by rfl) fun w9 hS => by go_simp) ?_
      try simp only [List.getElem_toArray, List.getElem_cons_succ, List.getElem_cons_zero, Act.put, List.setIfInBounds_toArray, List.set_cons_succ, List.set_cons_zero]
      refine wpAnyV_take (i := 6) (v := .pointer (some ⟨rb, 2, none⟩)) 8 (kept_below w) rfl (by kernel_rfl) (by kernel_rfl) (fun _ _ _ h => h) (fun _ h => h) (DoesV.reads (by rfl) fun w9 hS => by go_simp) ?_
      try simp only [List.getElem_toArray, List.getElem_cons_succ, List.getElem_cons_zero, Act.put, List.setIfInBounds_toArray, List.set_cons_succ, List.set_cons_zero]
      refine wpAnyV_take (i := 7) (v := .int .i64 (pos : Int)) 8 (kept_below w) rfl (by kernel_rfl) (by kernel_rfl) (fun _ _ _ h => h) (fun _ h => h) (DoesV.reads (by rfl) fun w9 hS => by have q0 := cell_b hS c2; go_simp) ?_
      try simp only [List.getElem_toArray, List.getElem_cons_succ, List.getElem_cons_zero, Act.put, List.setIfInBounds_toArray, List.set_cons_succ, List.set_cons_zero]
      refine wpAnyV_take (i := 8) (v := .int .i64 8) 8 (kept_below w) rfl (by kernel_rfl) (by kernel_rfl) (fun _ _ _ h => h) (fun _ h => h) (DoesV.reads (by rfl) fun w9 hS => by go_simp) ?_
      try simp only [List.getElem_toArray, List.getElem_cons_succ, List.getElem_cons_zero, Act.put, List.setIfInBounds_toArray, List.set_cons_succ, List.set_cons_zero]
      refine wpAnyV_take (i := 9) (v := .tuple #[.int .u64 0, .int .i64 4]) 8 (kept_below w) rfl (by kernel_rfl) (by kernel_rfl) (fun _ _ _ h => h) (fun _ h => h) (DoesV.calls 69 #[.slice A all.length c, .int .i64 (pos : Int), .int .i64 8] (by rfl) (fun w9 hS => by go_simp) (fun w9 hS => HG.out w9 hS)) ?_
      try simp only [List.getElem_toArray, List.getElem_cons_succ, List.getElem_cons_zero, Act.put, List.setIfInBounds_toArray, List.set_cons_succ, List.set_cons_zero]
      refine wpAnyV_take (i := 10) (v := .tuple #[.int .u64 0, .int .i64 4]) 8 (kept_below w) rfl (by kernel_rfl) (by kernel_rfl) (fun _ _ _ h => h) (fun _ h => h) (DoesV.reads (by rfl) fun w9 hS => by go_simp) ?_
      try simp only [List.getElem_toArray, List.getElem_cons_succ, List.getElem_cons_zero, Act.put, List.setIfInBounds_toArray, List.set_cons_succ, List.set_cons_zero]
      refine wpAnyV_take (i := 11) (v := .int .u64 0) 8 (kept_below w) rfl (by kernel_rfl) (by kernel_rfl) (fun _ _ _ h => h) (fun _ h => h) (DoesV.reads (by rfl) fun w9 hS => by go_simp) ?_
      try simp only [List.getElem_toArray, List.getElem_cons_succ, List.getElem_cons_zero, Act.put, List.setIfInBounds_toArray, List.set_cons_succ, List.set_cons_zero]
      refine wpAnyV_take (i := 12) (v := .int .i64 4) 8 (kept_below w) rfl (by kernel_rfl) (by kernel_rfl) (fun _ _ _ h => h) (fun _ h => h) (DoesV.reads (by rfl) fun w9 hS => by go_simp) ?_
      try simp only [List.getElem_toArray, List.getElem_cons_succ, List.getElem_cons_zero, Act.put, List.setIfInBounds_toArray, List.set_cons_succ, List.set_cons_zero]
      refine wpAnyV_take (i := 13) (v := .int .u64 0) 8 (kept_below w) rfl (by kernel_rfl) (by kernel_rfl) (fun _ _ _ h => h) (fun _ h => h) (DoesV.reads (by rfl) fun w9 hS => by go_simp) ?_
      try simp only [List.getElem_toArray, List.getElem_cons_succ, List.getElem_cons_zero, Act.put, List.setIfInBounds_toArray, List.set_cons_succ, List.set_cons_zero]
      refine wpAnyV_take (i := 14) (v := .int .i64 4) 8 (kept_below w) rfl (by kernel_rfl) (by kernel_rfl) (fun _ _ _ h => h) (fun _ h => h) (DoesV.reads (by rfl) fun w9 hS => by go_simp) ?_
      try simp only [List.getElem_toArray, List.getElem_cons_succ, List.getElem_cons_zero, Act.put, List.setIfInBounds_toArray, List.set_cons_succ, List.set_cons_zero]
      refine wpAnyV_done (by kernel_rfl) (fun y hu => ?_) _
      have hk := HC.out.below hu HC.out.lt
      have c3 := hk.cell 3 rfl
      have f3 := hk.frozen 3
      have HK := Lib.hid hk
      have HU := Lib.hid hu
      clear hk hu
      go_wp2_with fail
      go_ret
      refine ⟨rfl, ⟨_, by simpa using HK.out.set 3 (.int .i64 4), (HV.out.below HU.out).turn (Turn.setAt y rb 3 _) (fun k hk e => HF.out (e ▸ hk)), HF.out, hpm⟩, (Turn.of_below HU.out _).trans (Turn.setAt y rb 3 _) fun _ _ h => h⟩
    · rw [if_neg hs] at hg
      rw [if_neg hs]
      have hbd := beSum_64 all pos 8 (by decide)
      have hbd0 := (beSum_bd all pos 8).1
      generalize beSum (seg all pos 8) = nn at *
      have HG := Lib.hid hg
      have HS := Lib.hid hs
      have hs' : (pos : Int) + 8 ≤ (all.length : Int) := by omega
      clear hg hs
      go_enter Tryd.func59, Tryd.ntmps59
      go_wp2_with fail
      refine HE.out.mono ?_
      rintro e w' ⟨rfl, rfl⟩
      go_wp2_with fail
      refine wp_region_V [] (Below w.heap.size w) hmix ((Below.refl _ _).drew) ?_
      change wpAnyV _ _ _ _ _ _ _ _ _
      refine wpAnyV_take (i := 0) (v := .pointer (some ⟨rb, 0, none⟩)) 8 (kept_below w) rfl (by kernel_rfl) (by kernel_rfl) (fun _ _ _ h => h) (fun _ h => h) (DoesV.reads (by rfl) fun w9 hS => by go_simp) ?_
      try simp only [List.getElem_toArray, List.getElem_cons_succ, List.getElem_cons_zero, Act.put, List.setIfInBounds_toArray, List.set_cons_succ, List.set_cons_zero]
      refine wpAnyV_take (i := 1) (v := .pointer (some ⟨rb, 0, none⟩)) 8 (kept_below w) rfl (by kernel_rfl) (by kernel_rfl) (fun _ _ _ h => h) (fun _ h => h) (DoesV.reads (by rfl) fun w9 hS => by go_simp) ?_
      try simp only [List.getElem_toArray, List.getElem_cons_succ, List.getElem_cons_zero, Act.put, List.setIfInBounds_toArray, List.set_cons_succ, List.set_cons_zero]
      refine wpAnyV_take (i := 2) (v := .pointer (some ⟨rb, 1, none⟩)) 8 (kept_below w) rfl (by kernel_rfl) (by kernel_rfl) (fun _ _ _ h => h) (fun _ h => h) (DoesV.reads (by rfl) fun w9 hS => by go_simp) ?_
      try simp only [List.getElem_toArray, List.getElem_cons_succ, List.getElem_cons_zero, Act.put, List.setIfInBounds_toArray, List.set_cons_succ, List.set_cons_zero]
      refine wpAnyV_take (i := 3) (v := .slice A all.length c) 8 (kept_below w) rfl (by kernel_rfl) (by kernel_rfl) (fun _ _ _ h => h) (fun _ h => h) (DoesV.reads (by rfl) fun w9 hS => by have q0 := cell_b hS c1; go_simp) ?_
      try simp only [List.getElem_toArray, List.getElem_cons_succ, List.getElem_cons_zero, Act.put, List.setIfInBounds_toArray, List.set_cons_succ, List.set_cons_zero]
      refine wpAnyV_take (i := 4) (v := .pointer (some ⟨rb, 0, none⟩)) 8 (kept_below w) rfl (by kernel_rfl) (by kernel_rfl) (fun _ _ _ h => h) (fun _ h => h) (DoesV.reads (by rfl) fun w9 hS => by go_simp) ?_
      try simp only [List.getElem_toArray, List.getElem_cons_succ, List.getElem_cons_zero, Act.put, List.setIfInBounds_toArray, List.set_cons_succ, List.set_cons_zero]
      refine wpAnyV_take (i := 5) (v := .pointer (some ⟨rb, 0, none⟩)) 8 (kept_below w) rfl (by kernel_rfl) (by kernel_rfl) (fun _ _ _ h => h) (fun _ h => h) (DoesV.reads (by rfl) fun w9 hS => by go_simp) ?_
      try simp only [List.getElem_toArray, List.getElem_cons_succ, List.getElem_cons_zero, Act.put, List.setIfInBounds_toArray, List.set_cons_succ, List.set_cons_zero]
      refine wpAnyV_take (i := 6) (v := .pointer (some ⟨rb, 2, none⟩)) 8 (kept_below w) rfl (by kernel_rfl) (by kernel_rfl) (fun _ _ _ h => h) (fun _ h => h) (DoesV.reads (by rfl) fun w9 hS => by go_simp) ?_
      try simp only [List.getElem_toArray, List.getElem_cons_succ, List.getElem_cons_zero, Act.put, List.setIfInBounds_toArray, List.set_cons_succ, List.set_cons_zero]
      refine wpAnyV_take (i := 7) (v := .int .i64 (pos : Int)) 8 (kept_below w) rfl (by kernel_rfl) (by kernel_rfl) (fun _ _ _ h => h) (fun _ h => h) (DoesV.reads (by rfl) fun w9 hS => by have q0 := cell_b hS c2; go_simp) ?_
      try simp only [List.getElem_toArray, List.getElem_cons_succ, List.getElem_cons_zero, Act.put, List.setIfInBounds_toArray, List.set_cons_succ, List.set_cons_zero]
      refine wpAnyV_take (i := 8) (v := .int .i64 8) 8 (kept_below w) rfl (by kernel_rfl) (by kernel_rfl) (fun _ _ _ h => h) (fun _ h => h) (DoesV.reads (by rfl) fun w9 hS => by go_simp) ?_
      try simp only [List.getElem_toArray, List.getElem_cons_succ, List.getElem_cons_zero, Act.put, List.setIfInBounds_toArray, List.set_cons_succ, List.set_cons_zero]
      refine wpAnyV_take (i := 9) (v := .tuple #[.int .u64 nn, .int .i64 0]) 8 (kept_below w) rfl (by kernel_rfl) (by kernel_rfl) (fun _ _ _ h => h) (fun _ h => h) (DoesV.calls 69 #[.slice A all.length c, .int .i64 (pos : Int), .int .i64 8] (by rfl) (fun w9 hS => by go_simp) (fun w9 hS => HG.out w9 hS)) ?_
      try simp only [List.getElem_toArray, List.getElem_cons_succ, List.getElem_cons_zero, Act.put, List.setIfInBounds_toArray, List.set_cons_succ, List.set_cons_zero]
      refine wpAnyV_take (i := 10) (v := .tuple #[.int .u64 nn, .int .i64 0]) 8 (kept_below w) rfl (by kernel_rfl) (by kernel_rfl) (fun _ _ _ h => h) (fun _ h => h) (DoesV.reads (by rfl) fun w9 hS => by go_simp) ?_
      try simp only [List.getElem_toArray, List.getElem_cons_succ, List.getElem_cons_zero, Act.put, List.setIfInBounds_toArray, List.set_cons_succ, List.set_cons_zero]
      refine wpAnyV_take (i := 11) (v := .int .u64 nn) 8 (kept_below w) rfl (by kernel_rfl) (by kernel_rfl) (fun _ _ _ h => h) (fun _ h => h) (DoesV.reads (by rfl) fun w9 hS => by go_simp) ?_
      try simp only [List.getElem_toArray, List.getElem_cons_succ, List.getElem_cons_zero, Act.put, List.setIfInBounds_toArray, List.set_cons_succ, List.set_cons_zero]
      refine wpAnyV_take (i := 12) (v := .int .i64 0) 8 (kept_below w) rfl (by kernel_rfl) (by kernel_rfl) (fun _ _ _ h => h) (fun _ h => h) (DoesV.reads (by rfl) fun w9 hS => by go_simp) ?_
      try simp only [List.getElem_toArray, List.getElem_cons_succ, List.getElem_cons_zero, Act.put, List.setIfInBounds_toArray, List.set_cons_succ, List.set_cons_zero]
      refine wpAnyV_take (i := 13) (v := .int .u64 nn) 8 (kept_below w) rfl (by kernel_rfl) (by kernel_rfl) (fun _ _ _ h => h) (fun _ h => h) (DoesV.reads (by rfl) fun w9 hS => by go_simp) ?_
      try simp only [List.getElem_toArray, List.getElem_cons_succ, List.getElem_cons_zero, Act.put, List.setIfInBounds_toArray, List.set_cons_succ, List.set_cons_zero]
      refine wpAnyV_take (i := 14) (v := .int .i64 0) 8 (kept_below w) rfl (by kernel_rfl) (by kernel_rfl) (fun _ _ _ h => h) (fun _ h => h) (DoesV.reads (by rfl) fun w9 hS => by go_simp) ?_
      try simp only [List.getElem_toArray, List.getElem_cons_succ, List.getElem_cons_zero, Act.put, List.setIfInBounds_toArray, List.set_cons_succ, List.set_cons_zero]
      refine wpAnyV_done (by kernel_rfl) (fun y hu => ?_) _
      have hk := HC.out.below hu HC.out.lt
      have d2 := hk.cell 2 rfl
      have f2 := hk.frozen 2
      have HK := Lib.hid hk
      have HU := Lib.hid hu
      clear hk hu
      go_wp2_with fail
      go_ret
      refine ⟨rfl, ⟨_, by simpa using HK.out.set 2 (.int .i64 ((pos : Int) + 8)), (HV.out.below HU.out).turn (Turn.setAt y rb 2 _) (fun k hk e => HF.out (e ▸ hk)), HF.out, by have := HS.out; dsimp only; omega⟩, (Turn.of_below HU.out _).trans (Turn.setAt y rb 2 _) fun _ _ h => h⟩
  · have HE := Lib.hid (herr w (Below.refl _ _))
    have e0 : (err == 0) = false := by simpa using h0
    have e1 : (err != 0) = true := by rw [bne, e0]; rfl
    have hz := numR_bad ⟨all, pos, err⟩ 8 h0
    rw [hz]
    have H := Lib.hid h
    clear hz h herr h0
    go_enter Tryd.func59, Tryd.ntmps59
    go_wp2_with fail
    refine HE.out.mono ?_
    rintro e w' ⟨rfl, rfl⟩
    go_wp2_with fail
    go_ret
    exact ⟨rfl, H.out, Turn.refl _ _⟩

end Go.Proofs.YtboalmmpcfiicaaDoor
