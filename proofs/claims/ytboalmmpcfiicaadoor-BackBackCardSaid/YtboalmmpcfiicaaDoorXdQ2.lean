/- The reference of layer 9: its reader. -/
import Derived.Test.YtboalmmpcfiicaaDoorXdQ1
namespace Go.Proofs.YtboalmmpcfiicaaDoor
open Go.RowKit Go.Shelf
set_option linter.unusedVariables false
set_option maxRecDepth 100000
set_option linter.unusedSimpArgs false

/-- the reference's reader in memory; its bytes lie in F -/
def QAt (w : World) (qb : Nat) (s : RS) (F : Nat → Prop) : Prop := ∃ v, Cs w qb 68 #[v, .int .i64 (s.pos : Int), .int .i64 s.err] ∧ BsV w F v s.all ∧ ¬ F qb ∧ s.pos ≤ s.all.length
theorem QAt.turn {w w' : World} {rb : Nat} {s : RS} {F G : Nat → Prop} (h : QAt w rb s F) (ht : Turn w w' G) (hr : ¬ G rb) (hF : ∀ k, F k → ¬ G k) : QAt w' rb s F := by
  obtain ⟨v, h1, h2, h3, h4⟩ := h
  exact ⟨v, h1.turn ht hr, h2.turn ht hF, h3, h4⟩
theorem QAt.below {w w' : World} {rb : Nat} {s : RS} {F : Nat → Prop} (h : QAt w rb s F) (hb : Below w.heap.size w w') : QAt w' rb s F := h.turn (Turn.of_below hb fun _ => False) (fun h => h) fun _ _ h => h
theorem QAt.lt {w : World} {rb : Nat} {s : RS} {F : Nat → Prop} (h : QAt w rb s F) : rb < w.heap.size := by
  obtain ⟨v, h1, h2⟩ := h
  exact h1.lt
theorem QAt.fail {w w' : World} {rb : Nat} {s : RS} {F : Nat → Prop} {er : Int} (h : QAt w rb s F) (hw : w' = w.setCell ⟨rb, 2, none⟩ (.int .i64 er)) : QAt w' rb ⟨s.all, s.pos, er⟩ F := by
  obtain ⟨v, hc, hv, hF, hp⟩ := h
  subst hw
  exact ⟨v, by simpa using hc.set 2 (.int .i64 er), hv.turn (Turn.setAt w rb 2 _) (fun k hk e => hF (e ▸ hk)), hF, hp⟩
theorem QAt.go {w : World} {rb : Nat} {s : RS} {F : Nat → Prop} (h : QAt w rb s F) (p : Nat) (hp : p ≤ s.all.length) : QAt (w.setCell ⟨rb, 1, none⟩ (.int .i64 (p : Int))) rb ⟨s.all, p, s.err⟩ F := by
  obtain ⟨v, hc, hv, hF, -⟩ := h
  exact ⟨v, by simpa using hc.set 1 (.int .i64 (p : Int)), hv.turn (Turn.setAt w rb 1 _) (fun k hk e => hF (e ▸ hk)), hF, hp⟩
theorem QAt.f2 {w : World} {rb : Nat} {s : RS} {F : Nat → Prop} (h : QAt w rb s F) : w.cell? ⟨rb, 2, none⟩ = some (.int .i64 s.err) ∧ w.frozen? ⟨rb, 2, none⟩ = false := by
  obtain ⟨v, hc, -⟩ := h
  exact ⟨hc.cell 2 rfl, hc.frozen 2⟩
theorem QAt.f1 {w : World} {rb : Nat} {s : RS} {F : Nat → Prop} (h : QAt w rb s F) : w.cell? ⟨rb, 1, none⟩ = some (.int .i64 (s.pos : Int)) ∧ w.frozen? ⟨rb, 1, none⟩ = false := by
  obtain ⟨v, hc, -⟩ := h
  exact ⟨hc.cell 1 rfl, hc.frozen 1⟩
/-- what tells a value, and leaves the reader as s -/
def ToldQ (rb : Nat) (s : RS) (F : Nat → Prop) (v : Value) (w : World) (e : Ending) (w' : World) : Prop := e = .returned v ∧ QAt w' rb s F ∧ Turn w w' (· = rb)
set_option maxHeartbeats 4000000 in
theorem number4_q {w : World} {rb : Nat} {s : RS} {F : Nat → Prop} (h : QAt w rb s F) : Calls Tryd.prog 61 #[.pointer (some ⟨rb, 0, none⟩), .int .i64 4] w fun e w' => ToldQ rb (numR s 4).2 F (.int .u64 (numR s 4).1) w e w' := by
  have H := Lib.hid h
  obtain ⟨all, pos, err⟩ := s
  by_cases h0 : err = 0
  · subst h0
    obtain ⟨v, hc, hv, hF, hp⟩ := h
    obtain ⟨A, c, rfl, hrd, hA, hlc, hcm⟩ := id hv
    have hm : all.length ≤ 9223372036854775807 := by unfold maxLen at hcm; exact Nat.le_trans hlc hcm
    have hpm : pos ≤ all.length := hp
    have hg := fun u (hb : Below w.heap.size w u) => GetRef_any all A c (pos : Int) 4 u (Nat.le_trans hlc hcm) hlc (hrd.rd.below hb)
    have hgv := get_val all pos 4 (by decide) hpm
    rw [show (((4 : Nat)) : Int) = 4 from rfl] at hgv
    rw [hgv] at hg
    have hmix : Tryd.prog.follows .mixedOrders = true := by kernel_rfl
    have hc' : Cs w rb 68 #[.slice A all.length c, .int .i64 (pos : Int), .int .i64 0] := hc
    have c0 := hc'.cell 0 rfl
    have c1 := hc'.cell 1 rfl
    have c2 := hc'.cell 2 rfl
    unfold numR
    rw [if_neg (by simp)]
    clear hgv hv hrd hA hlc hcm hp hc hc' hF
    by_cases hs : all.length < pos + 4
    · rw [if_pos hs] at hg
      rw [if_pos hs]
      have HG := Lib.hid hg
      clear hg hs
      go_enter Tryd.func61, Tryd.ntmps61
      go_wp2_with fail
      refine wp_region_V [] (Below w.heap.size w) hmix ((Below.refl _ _).drew) ?_
      change wpAnyV _ _ _ _ _ _ _ _ _
      refine wpAnyV_take (i := 0) (v := .pointer (some ⟨rb, 0, none⟩)) 8 (kept_below w) rfl (by kernel_rfl) (by kernel_rfl) (fun _ _ _ h => h) (fun _ h => h) (DoesV.reads (by rfl) fun w9 hS => by go_simp) ?_
      try simp only [List.getElem_toArray, List.getElem_cons_succ, List.getElem_cons_zero, Act.put, List.setIfInBounds_toArray, List.set_cons_succ, List.set_cons_zero]
      refine wpAnyV_take (i := 1) (v := .pointer (some ⟨rb, 0, none⟩)) 8 (kept_below w) rfl (by kernel_rfl) (by kernel_rfl) (fun _ _ _ h => h) (fun _ h => h) (DoesV.reads (by rfl) fun w9 hS => by go_simp) ?_
      try simp only [List.getElem_toArray, List.getElem_cons_succ, List.getElem_cons_zero, Act.put, List.setIfInBounds_toArray, List.set_cons_succ, List.set_cons_zero]
      refine wpAnyV_take (i := 2) (v := .pointer (some ⟨rb, 0, none⟩)) 8 (kept_below w) rfl (by kernel_rfl) (by kernel_rfl) (fun _ _ _ h => h) (fun _ h => h) (DoesV.reads (by rfl) fun w9 hS => by go_simp) ?_
      try simp only [List.getElem_toArray, List.getElem_cons_succ, List.getElem_cons_zero, Act.put, List.setIfInBounds_toArray, List.set_cons_succ, List.set_cons_zero]
      refine wpAnyV_take (i := 3) (v := .slice A all.length c) 8 (kept_below w) rfl (by kernel_rfl) (by kernel_rfl) (fun _ _ _ h => h) (fun _ h => h) (DoesV.reads (by rfl) fun w9 hS => by have q0 := cell_b hS c0; go_simp) ?_
      try simp only [List.getElem_toArray, List.getElem_cons_succ, List.getElem_cons_zero, Act.put, List.setIfInBounds_toArray, List.set_cons_succ, List.set_cons_zero]
      refine wpAnyV_take (i := 4) (v := .pointer (some ⟨rb, 0, none⟩)) 8 (kept_below w) rfl (by kernel_rfl) (by kernel_rfl) (fun _ _ _ h => h) (fun _ h => h) (DoesV.reads (by rfl) fun w9 hS => by go_simp) ?_
      try simp only [List.getElem_toArray, List.getElem_cons_succ, List.getElem_cons_zero, Act.put, List.setIfInBounds_toArray, List.set_cons_succ, List.set_cons_zero]
      refine wpAnyV_take (i := 5) (v := .pointer (some ⟨rb, 0, none⟩)) 8 (kept_below w) rfl (by kernel_rfl) (by kernel_rfl) (fun _ _ _ h => h) (fun _ h => h) (DoesV.reads (by rfl) fun w9 hS => by go_simp) ?_
      try simp only [List.getElem_toArray, List.getElem_cons_succ, List.getElem_cons_zero, Act.put, List.setIfInBounds_toArray, List.set_cons_succ, List.set_cons_zero]
      refine wpAnyV_take (i := 6) (v := .pointer (some ⟨rb, 1, none⟩)) 8 (kept_below w) rfl (by kernel_rfl) (by kernel_rfl) (fun _ _ _ h => h) (fun _ h => h) (DoesV.reads (by rfl) fun w9 hS => by go_simp) ?_
      try simp only [List.getElem_toArray, List.getElem_cons_succ, List.getElem_cons_zero, Act.put, List.setIfInBounds_toArray, List.set_cons_succ, List.set_cons_zero]
      refine wpAnyV_take (i := 7) (v := .int .i64 (pos : Int)) 8 (kept_below w) rfl (by kernel_rfl) (by kernel_rfl) (fun _ _ _ h => h) (fun _ h => h) (DoesV.reads (by rfl) fun w9 hS => by have q0 := cell_b hS c1; go_simp) ?_
      try simp only [List.getElem_toArray, List.getElem_cons_succ, List.getElem_cons_zero, Act.put, List.setIfInBounds_toArray, List.set_cons_succ, List.set_cons_zero]
      refine wpAnyV_take (i := 8) (v := .int .i64 4) 8 (kept_below w) rfl (by kernel_rfl) (by kernel_rfl) (fun _ _ _ h => h) (fun _ h => h) (DoesV.reads (by rfl) fun w9 hS => by go_simp) ?_
      try simp only [List.getElem_toArray, List.getElem_cons_succ, List.getElem_cons_zero, Act.put, List.setIfInBounds_toArray, List.set_cons_succ, List.set_cons_zero]
      refine wpAnyV_take (i := 9) (v := .tuple #[.int .u64 0, .int .i64 4]) 8 (kept_below w) rfl (by kernel_rfl) (by kernel_rfl) (fun _ _ _ h => h) (fun _ h => h) (DoesV.calls 70 #[.slice A all.length c, .int .i64 (pos : Int), .int .i64 4] (by rfl) (fun w9 hS => by go_simp) (fun w9 hS => (HG.out w9 hS).mono fun e u ⟨h1, h2⟩ => ⟨h1, h2 ▸ Below.refl _ _⟩)) ?_
      try simp only [List.getElem_toArray, List.getElem_cons_succ, List.getElem_cons_zero, Act.put, List.setIfInBounds_toArray, List.set_cons_succ, List.set_cons_zero]
      refine wpAnyV_take (i := 10) (v := .tuple #[.int .u64 0, .int .i64 4]) 8 (kept_below w) rfl (by kernel_rfl) (by kernel_rfl) (fun _ _ _ h => h) (fun _ h => h) (DoesV.reads (by rfl) fun w9 hS => by go_simp) ?_
      try simp only [List.getElem_toArray, List.getElem_cons_succ, List.getElem_cons_zero, Act.put, List.setIfInBounds_toArray, List.set_cons_succ, List.set_cons_zero]
      refine wpAnyV_take (i := 11) (v := .int .u64 0) 8 (kept_below w) rfl (by kernel_rfl) (by kernel_rfl) (fun _ _ _ h => h) (fun _ h => h) (DoesV.reads (by rfl) fun w9 hS => by go_simp) ?_
      try simp only [List.getElem_toArray, List.getElem_cons_succ, List.getElem_cons_zero, Act.put, List.setIfInBounds_toArray, List.set_cons_succ, List.set_cons_zero]
      refine wpAnyV_take (i := 12) (v := .int .i64 4) 8 (kept_below w) rfl (by kernel_rfl) (by kernel_rfl) (fun _ _ _ h => h) (fun _ h => h) (DoesV.reads (by rfl) fun w9 hS => by go_simp) ?_
      try simp only [List.getElem_toArray, List.getElem_cons_succ, List.getElem_cons_zero, Act.put, List.setIfInBounds_toArray, List.set_cons_succ, List.set_cons_zero]
      refine wpAnyV_take (i := 13) (v := .int .u64 0) 8 (kept_below w) rfl (by kernel_rfl) (by kernel_rfl) (fun _ _ _ h => h) (fun _ h => h) (DoesV.reads (by rfl) fun w9 hS => by go_simp) ?_
      try simp only [List.getElem_toArray, List.getElem_cons_succ, List.getElem_cons_zero, Act.put, List.setIfInBounds_toArray, List.set_cons_succ, List.set_cons_zero]
      refine wpAnyV_take (i := 14) (v := .int .i64 4) 8 (kept_below w) rfl (by kernel_rfl) (by kernel_rfl) (fun _ _ _ h => h) (fun _ h => h) (DoesV.reads (by rfl) fun w9 hS => by go_simp) ?_
      try simp only [List.getElem_toArray, List.getElem_cons_succ, List.getElem_cons_zero, Act.put, List.setIfInBounds_toArray, List.set_cons_succ, List.set_cons_zero]
      refine wpAnyV_done (by kernel_rfl) (fun y hu => ?_) _
      have hk := H.out.below hu
      obtain ⟨d2, f2⟩ := hk.f2
      have HK := Lib.hid hk
      have HU := Lib.hid hu
      clear hk hu
      go_wp2_with fail
      go_ret
      exact ⟨rfl, HK.out.fail rfl, (Turn.of_below HU.out _).trans (Turn.setAt y rb 2 _) fun _ _ h => h⟩
    · rw [if_neg hs] at hg
      rw [if_neg hs]
      have hbd := beSum_64 all pos 4 (by decide)
      have hbd0 := (beSum_bd all pos 4).1
      generalize beSum (seg all pos 4) = nn at *
      have HG := Lib.hid hg
      have HS := Lib.hid (show pos + 4 ≤ all.length by omega)
      have hs' : (pos : Int) + 4 ≤ (all.length : Int) := by omega
      clear hg hs
      go_enter Tryd.func61, Tryd.ntmps61
      go_wp2_with fail
      refine wp_region_V [] (Below w.heap.size w) hmix ((Below.refl _ _).drew) ?_
      change wpAnyV _ _ _ _ _ _ _ _ _
      refine wpAnyV_take (i := 0) (v := .pointer (some ⟨rb, 0, none⟩)) 8 (kept_below w) rfl (by kernel_rfl) (by kernel_rfl) (fun _ _ _ h => h) (fun _ h => h) (DoesV.reads (by rfl) fun w9 hS => by go_simp) ?_
      try simp only [List.getElem_toArray, List.getElem_cons_succ, List.getElem_cons_zero, Act.put, List.setIfInBounds_toArray, List.set_cons_succ, List.set_cons_zero]
      refine wpAnyV_take (i := 1) (v := .pointer (some ⟨rb, 0, none⟩)) 8 (kept_below w) rfl (by kernel_rfl) (by kernel_rfl) (fun _ _ _ h => h) (fun _ h => h) (DoesV.reads (by rfl) fun w9 hS => by go_simp) ?_
      try simp only [List.getElem_toArray, List.getElem_cons_succ, List.getElem_cons_zero, Act.put, List.setIfInBounds_toArray, List.set_cons_succ, List.set_cons_zero]
      refine wpAnyV_take (i := 2) (v := .pointer (some ⟨rb, 0, none⟩)) 8 (kept_below w) rfl (by kernel_rfl) (by kernel_rfl) (fun _ _ _ h => h) (fun _ h => h) (DoesV.reads (by rfl) fun w9 hS => by go_simp) ?_
      try simp only [List.getElem_toArray, List.getElem_cons_succ, List.getElem_cons_zero, Act.put, List.setIfInBounds_toArray, List.set_cons_succ, List.set_cons_zero]
      refine wpAnyV_take (i := 3) (v := .slice A all.length c) 8 (kept_below w) rfl (by kernel_rfl) (by kernel_rfl) (fun _ _ _ h => h) (fun _ h => h) (DoesV.reads (by rfl) fun w9 hS => by have q0 := cell_b hS c0; go_simp) ?_
      try simp only [List.getElem_toArray, List.getElem_cons_succ, List.getElem_cons_zero, Act.put, List.setIfInBounds_toArray, List.set_cons_succ, List.set_cons_zero]
      refine wpAnyV_take (i := 4) (v := .pointer (some ⟨rb, 0, none⟩)) 8 (kept_below w) rfl (by kernel_rfl) (by kernel_rfl) (fun _ _ _ h => h) (fun _ h => h) (DoesV.reads (by rfl) fun w9 hS => by go_simp) ?_
      try simp only [List.getElem_toArray, List.getElem_cons_succ, List.getElem_cons_zero, Act.put, List.setIfInBounds_toArray, List.set_cons_succ, List.set_cons_zero]
      refine wpAnyV_take (i := 5) (v := .pointer (some ⟨rb, 0, none⟩)) 8 (kept_below w) rfl (by kernel_rfl) (by kernel_rfl) (fun _ _ _ h => h) (fun _ h => h) (DoesV.reads (by rfl) fun w9 hS => by go_simp) ?_
      try simp only [List.getElem_toArray, List.getElem_cons_succ, List.getElem_cons_zero, Act.put, List.setIfInBounds_toArray, List.set_cons_succ, List.set_cons_zero]
      refine wpAnyV_take (i := 6) (v := .pointer (some ⟨rb, 1, none⟩)) 8 (kept_below w) rfl (by kernel_rfl) (by kernel_rfl) (fun _ _ _ h => h) (fun _ h => h) (DoesV.reads (by rfl) fun w9 hS => by go_simp) ?_
      try simp only [List.getElem_toArray, List.getElem_cons_succ, List.getElem_cons_zero, Act.put, List.setIfInBounds_toArray, List.set_cons_succ, List.set_cons_zero]
      refine wpAnyV_take (i := 7) (v := .int .i64 (pos : Int)) 8 (kept_below w) rfl (by kernel_rfl) (by kernel_rfl) (fun _ _ _ h => h) (fun _ h => h) (DoesV.reads (by rfl) fun w9 hS => by have q0 := cell_b hS c1; go_simp) ?_
      try simp only [List.getElem_toArray, List.getElem_cons_succ, List.getElem_cons_zero, Act.put, List.setIfInBounds_toArray, List.set_cons_succ, List.set_cons_zero]
      refine wpAnyV_take (i := 8) (v := .int .i64 4) 8 (kept_below w) rfl (by kernel_rfl) (by kernel_rfl) (fun _ _ _ h => h) (fun _ h => h) (DoesV.reads (by rfl) fun w9 hS => by go_simp) ?_
      try simp only [List.getElem_toArray, List.getElem_cons_succ, List.getElem_cons_zero, Act.put, List.setIfInBounds_toArray, List.set_cons_succ, List.set_cons_zero]
      refine wpAnyV_take (i := 9) (v := .tuple #[.int .u64 nn, .int .i64 0]) 8 (kept_below w) rfl (by kernel_rfl) (by kernel_rfl) (fun _ _ _ h => h) (fun _ h => h) (DoesV.calls 70 #[.slice A all.length c, .int .i64 (pos : Int), .int .i64 4] (by rfl) (fun w9 hS => by go_simp) (fun w9 hS => (HG.out w9 hS).mono fun e u ⟨h1, h2⟩ => ⟨h1, h2 ▸ Below.refl _ _⟩)) ?_
      try simp only [List.getElem_toArray, List.getElem_cons_succ, List.getElem_cons_zero, Act.put, List.setIfInBounds_toArray, List.set_cons_succ, List.set_cons_zero]
      refine wpAnyV_take (i := 10) (v := .tuple #[.int .u64 nn, .int .i64 0]) 8 (kept_below w) rfl (by kernel_rfl) (by kernel_rfl) (fun _ _ _ h => h) (fun _ h => h) (DoesV.reads (by rfl) fun w9 hS => by go_simp) ?_
      try simp only [List.getElem_toArray, List.getElem_cons_succ, List.getElem_cons_zero, Act.put, List.setIfInBounds_toArray, List.set_cons_succ, List.set_cons_zero]
      refine wpAnyV_take (i := 11) (v := .int .u64 nn) 8 (kept_below w) rfl (by kernel_rfl) (by kernel_rfl) (fun _ _ _ h => h) (fun _ h => h) (DoesV.reads (by rfl) fun w9 hS => by go_simp) ?_
      try simp only [List.getElem_toArray, List.getElem_cons_succ, List.getElem_cons_zero, Act.put, List.setIfInBounds_toArray, List.set_cons_succ, List.set_cons_zero]
      refine wpAnyV_take (i := 12) (v := .int .i64 0) 8 (kept_below w) rfl (by kernel_rfl) (by kernel_rfl) (fun _ _ _ h => h) (fun _ h => h) (DoesV.reads (by rfl) fun w9 hS => by go_simp) ?_
      try simp only [List.getElem_toArray, List.getElem_cons_succ, List.getElem_cons_zero, Act.put, List.setIfInBounds_toArray, List.set_cons_succ, List.set_cons_zero]
      refine wpAnyV_take (i := 13) (v := .int .u64 nn) 8 (kept_below w) rfl (by kernel_rfl) (by kernel_rfl) (fun _ _ _ h => h) (fun _ h => h) (DoesV.reads (by rfl) fun w9 hS => by go_simp) ?_
      try simp only [List.getElem_toArray, List.getElem_cons_succ, List.getElem_cons_zero, Act.put, List.setIfInBounds_toArray, List.set_cons_succ, List.set_cons_zero]
      refine wpAnyV_take (i := 14) (v := .int .i64 0) 8 (kept_below w) rfl (by kernel_rfl) (by kernel_rfl) (fun _ _ _ h => h) (fun _ h => h) (DoesV.reads (by rfl) fun w9 hS => by go_simp) ?_
      try simp only [List.getElem_toArray, List.getElem_cons_succ, List.getElem_cons_zero, Act.put, List.setIfInBounds_toArray, List.set_cons_succ, List.set_cons_zero]
      refine wpAnyV_done (by kernel_rfl) (fun y hu => ?_) _
      have hk := H.out.below hu
      obtain ⟨d1, f1⟩ := hk.f1
      dsimp only at d1
      have HK := Lib.hid hk
      have HU := Lib.hid hu
      clear hk hu
      go_wp2_with fail
      go_ret
      exact ⟨rfl, HK.out.go (pos + 4) HS.out, (Turn.of_below HU.out _).trans (Turn.setAt y rb 1 _) fun _ _ h => h⟩
  · have e0 : (err == 0) = false := by simpa using h0
    have e1 : (err != 0) = true := by rw [bne, e0]; rfl
    have hz := numR_bad ⟨all, pos, err⟩ 4 h0
    rw [hz]
    obtain ⟨c2, -⟩ := h.f2
    dsimp only at c2
    clear hz h h0
    go_enter Tryd.func61, Tryd.ntmps61
    go_wp2_with fail
    go_ret
    exact ⟨rfl, H.out, Turn.refl _ _⟩
set_option maxHeartbeats 4000000 in
theorem number8_q {w : World} {rb : Nat} {s : RS} {F : Nat → Prop} (h : QAt w rb s F) : Calls Tryd.prog 61 #[.pointer (some ⟨rb, 0, none⟩), .int .i64 8] w fun e w' => ToldQ rb (numR s 8).2 F (.int .u64 (numR s 8).1) w e w' := by
  have H := Lib.hid h
  obtain ⟨all, pos, err⟩ := s
  by_cases h0 : err = 0
  · subst h0
    obtain ⟨v, hc, hv, hF, hp⟩ := h
    obtain ⟨A, c, rfl, hrd, hA, hlc, hcm⟩ := id hv
    have hm : all.length ≤ 9223372036854775807 := by unfold maxLen at hcm; exact Nat.le_trans hlc hcm
    have hpm : pos ≤ all.length := hp
    have hg := fun u (hb : Below w.heap.size w u) => GetRef_any all A c (pos : Int) 8 u (Nat.le_trans hlc hcm) hlc (hrd.rd.below hb)
    have hgv := get_val all pos 8 (by decide) hpm
    rw [show (((8 : Nat)) : Int) = 8 from rfl] at hgv
    rw [hgv] at hg
    have hmix : Tryd.prog.follows .mixedOrders = true := by kernel_rfl
    have hc' : Cs w rb 68 #[.slice A all.length c, .int .i64 (pos : Int), .int .i64 0] := hc
    have c0 := hc'.cell 0 rfl
    have c1 := hc'.cell 1 rfl
    have c2 := hc'.cell 2 rfl
    unfold numR
    rw [if_neg (by simp)]
    clear hgv hv hrd hA hlc hcm hp hc hc' hF
    by_cases hs : all.length < pos + 8
    · rw [if_pos hs] at hg
      rw [if_pos hs]
      have HG := Lib.hid hg
      clear hg hs
      go_enter Tryd.func61, Tryd.ntmps61
      go_wp2_with fail
      refine wp_region_V [] (Below w.heap.size w) hmix ((Below.refl _ _).drew) ?_
      change wpAnyV _ _ _ _ _ _ _ _ _
      refine wpAnyV_take (i := 0) (v := .pointer (some ⟨rb, 0, none⟩)) 8 (kept_below w) rfl (by kernel_rfl) (by kernel_rfl) (fun _ _ _ h => h) (fun _ h => h) (DoesV.reads (by rfl) fun w9 hS => by go_simp) ?_
      try simp only [List.getElem_toArray, List.getElem_cons_succ, List.getElem_cons_zero, Act.put, List.setIfInBounds_toArray, List.set_cons_succ, List.set_cons_zero]
      refine wpAnyV_take (i := 1) (v := .pointer (some ⟨rb, 0, none⟩)) 8 (kept_below w) rfl (by kernel_rfl) (by kernel_rfl) (fun _ _ _ h => h) (fun _ h => h) (DoesV.reads (by rfl) fun w9 hS => by go_simp) ?_
      try simp only [List.getElem_toArray, List.getElem_cons_succ, List.getElem_cons_zero, Act.put, List.setIfInBounds_toArray, List.set_cons_succ, List.set_cons_zero]
      refine wpAnyV_take (i := 2) (v := .pointer (some ⟨rb, 0, none⟩)) 8 (kept_below w) rfl (by kernel_rfl) (by kernel_rfl) (fun _ _ _ h => h) (fun _ h => h) (DoesV.reads (by rfl) fun w9 hS => by go_simp) ?_
      try simp only [List.getElem_toArray, List.getElem_cons_succ, List.getElem_cons_zero, Act.put, List.setIfInBounds_toArray, List.set_cons_succ, List.set_cons_zero]
      refine wpAnyV_take (i := 3) (v := .slice A all.length c) 8 (kept_below w) rfl (by kernel_rfl) (by kernel_rfl) (fun _ _ _ h => h) (fun _ h => h) (DoesV.reads (by rfl) fun w9 hS => by have q0 := cell_b hS c0; go_simp) ?_
      try simp only [List.getElem_toArray, List.getElem_cons_succ, List.getElem_cons_zero, Act.put, List.setIfInBounds_toArray, List.set_cons_succ, List.set_cons_zero]
      refine wpAnyV_take (i := 4) (v := .pointer (some ⟨rb, 0, none⟩)) 8 (kept_below w) rfl (by kernel_rfl) (by kernel_rfl) (fun _ _ _ h => h) (fun _ h => h) (DoesV.reads (by rfl) fun w9 hS => by go_simp) ?_
      try simp only [List.getElem_toArray, List.getElem_cons_succ, List.getElem_cons_zero, Act.put, List.setIfInBounds_toArray, List.set_cons_succ, List.set_cons_zero]
      refine wpAnyV_take (i := 5) (v := .pointer (some ⟨rb, 0, none⟩)) 8 (kept_below w) rfl (by kernel_rfl) (by kernel_rfl) (fun _ _ _ h => h) (fun _ h => h) (DoesV.reads (by rfl) fun w9 hS => by go_simp) ?_
      try simp only [List.getElem_toArray, List.getElem_cons_succ, List.getElem_cons_zero, Act.put, List.setIfInBounds_toArray, List.set_cons_succ, List.set_cons_zero]
      refine wpAnyV_take (i := 6) (v := .pointer (some ⟨rb, 1, none⟩)) 8 (kept_below w) rfl (by kernel_rfl) (by kernel_rfl) (fun _ _ _ h => h) (fun _ h => h) (DoesV.reads (by rfl) fun w9 hS => by go_simp) ?_
      try simp only [List.getElem_toArray, List.getElem_cons_succ, List.getElem_cons_zero, Act.put, List.setIfInBounds_toArray, List.set_cons_succ, List.set_cons_zero]
      refine wpAnyV_take (i := 7) (v := .int .i64 (pos : Int)) 8 (kept_below w) rfl (by kernel_rfl) (by kernel_rfl) (fun _ _ _ h => h) (fun _ h => h) (DoesV.reads (by rfl) fun w9 hS => by have q0 := cell_b hS c1; go_simp) ?_
      try simp only [List.getElem_toArray, List.getElem_cons_succ, List.getElem_cons_zero, Act.put, List.setIfInBounds_toArray, List.set_cons_succ, List.set_cons_zero]
      refine wpAnyV_take (i := 8) (v := .int .i64 8) 8 (kept_below w) rfl (by kernel_rfl) (by kernel_rfl) (fun _ _ _ h => h) (fun _ h => h) (DoesV.reads (by rfl) fun w9 hS => by go_simp) ?_
      try simp only [List.getElem_toArray, List.getElem_cons_succ, List.getElem_cons_zero, Act.put, List.setIfInBounds_toArray, List.set_cons_succ, List.set_cons_zero]
      refine wpAnyV_take (i := 9) (v := .tuple #[.int .u64 0, .int .i64 4]) 8 (kept_below w) rfl (by kernel_rfl) (by kernel_rfl) (fun _ _ _ h => h) (fun _ h => h) (DoesV.calls 70 #[.slice A all.length c, .int .i64 (pos : Int), .int .i64 8] (by rfl) (fun w9 hS => by go_simp) (fun w9 hS => (HG.out w9 hS).mono fun e u ⟨h1, h2⟩ => ⟨h1, h2 ▸ Below.refl _ _⟩)) ?_
      try simp only [List.getElem_toArray, List.getElem_cons_succ, List.getElem_cons_zero, Act.put, List.setIfInBounds_toArray, List.set_cons_succ, List.set_cons_zero]
      refine wpAnyV_take (i := 10) (v := .tuple #[.int .u64 0, .int .i64 4]) 8 (kept_below w) rfl (by kernel_rfl) (by kernel_rfl) (fun _ _ _ h => h) (fun _ h => h) (DoesV.reads (by rfl) fun w9 hS => by go_simp) ?_
      try simp only [List.getElem_toArray, List.getElem_cons_succ, List.getElem_cons_zero, Act.put, List.setIfInBounds_toArray, List.set_cons_succ, List.set_cons_zero]
      refine wpAnyV_take (i := 11) (v := .int .u64 0) 8 (kept_below w) rfl (by kernel_rfl) (by kernel_rfl) (fun _ _ _ h => h) (fun _ h => h) (DoesV.reads (by rfl) fun w9 hS => by go_simp) ?_
      try simp only [List.getElem_toArray, List.getElem_cons_succ, List.getElem_cons_zero, Act.put, List.setIfInBounds_toArray, List.set_cons_succ, List.set_cons_zero]
      refine wpAnyV_take (i := 12) (v := .int .i64 4) 8 (kept_below w) rfl (by kernel_rfl) (by kernel_rfl) (fun _ _ _ h => h) (fun _ h => h) (DoesV.reads (by rfl) fun w9 hS => by go_simp) ?_
      try simp only [List.getElem_toArray, List.getElem_cons_succ, List.getElem_cons_zero, Act.put, List.setIfInBounds_toArray, List.set_cons_succ, List.set_cons_zero]
      refine wpAnyV_take (i := 13) (v := .int .u64 0) 8 (kept_below w) rfl (by kernel_rfl) (by kernel_rfl) (fun _ _ _ h => h) (fun _ h => h) (DoesV.reads (by rfl) fun w9 hS => by go_simp) ?_
      try simp only [List.getElem_toArray, List.getElem_cons_succ, List.getElem_cons_zero, Act.put, List.setIfInBounds_toArray, List.set_cons_succ, List.set_cons_zero]
      refine wpAnyV_take (i := 14) (v := .int .i64 4) 8 (kept_below w) rfl (by kernel_rfl) (by kernel_rfl) (fun _ _ _ h => h) (fun _ h => h) (DoesV.reads (by rfl) fun w9 hS => by go_simp) ?_
      try simp only [List.getElem_toArray, List.getElem_cons_succ, List.getElem_cons_zero, Act.put, List.setIfInBounds_toArray, List.set_cons_succ, List.set_cons_zero]
      refine wpAnyV_done (by kernel_rfl) (fun y hu => ?_) _
      have hk := H.out.below hu
      obtain ⟨d2, f2⟩ := hk.f2
      have HK := Lib.hid hk
      have HU := Lib.hid hu
      clear hk hu
      go_wp2_with fail
      go_ret
      exact ⟨rfl, HK.out.fail rfl, (Turn.of_below HU.out _).trans (Turn.setAt y rb 2 _) fun _ _ h => h⟩
    · rw [if_neg hs] at hg
      rw [if_neg hs]
      have hbd := beSum_64 all pos 8 (by decide)
      have hbd0 := (beSum_bd all pos 8).1
      generalize beSum (seg all pos 8) = nn at *
      have HG := Lib.hid hg
      have HS := Lib.hid (show pos + 8 ≤ all.length by omega)
      have hs' : (pos : Int) + 8 ≤ (all.length : Int) := by omega
      clear hg hs
      go_enter Tryd.func61, Tryd.ntmps61
      go_wp2_with fail
      refine wp_region_V [] (Below w.heap.size w) hmix ((Below.refl _ _).drew) ?_
      change wpAnyV _ _ _ _ _ _ _ _ _
      refine wpAnyV_take (i := 0) (v := .pointer (some ⟨rb, 0, none⟩)) 8 (kept_below w) rfl (by kernel_rfl) (by kernel_rfl) (fun _ _ _ h => h) (fun _ h => h) (DoesV.reads (by rfl) fun w9 hS => by go_simp) ?_
      try simp only [List.getElem_toArray, List.getElem_cons_succ, List.getElem_cons_zero, Act.put, List.setIfInBounds_toArray, List.set_cons_succ, List.set_cons_zero]
      refine wpAnyV_take (i := 1) (v := .pointer (some ⟨rb, 0, none⟩)) 8 (kept_below w) rfl (by kernel_rfl) (by kernel_rfl) (fun _ _ _ h => h) (fun _ h => h) (DoesV.reads (by rfl) fun w9 hS => by go_simp) ?_
      try simp only [List.getElem_toArray, List.getElem_cons_succ, List.getElem_cons_zero, Act.put, List.setIfInBounds_toArray, List.set_cons_succ, List.set_cons_zero]
      refine wpAnyV_take (i := 2) (v := .pointer (some ⟨rb, 0, none⟩)) 8 (kept_below w) rfl (by kernel_rfl) (by kernel_rfl) (fun _ _ _ h => h) (fun _ h => h) (DoesV.reads (by rfl) fun w9 hS => by go_simp) ?_
      try simp only [List.getElem_toArray, List.getElem_cons_succ, List.getElem_cons_zero, Act.put, List.setIfInBounds_toArray, List.set_cons_succ, List.set_cons_zero]
      refine wpAnyV_take (i := 3) (v := .slice A all.length c) 8 (kept_below w) rfl (by kernel_rfl) (by kernel_rfl) (fun _ _ _ h => h) (fun _ h => h) (DoesV.reads (by rfl) fun w9 hS => by have q0 := cell_b hS c0; go_simp) ?_
      try simp only [List.getElem_toArray, List.getElem_cons_succ, List.getElem_cons_zero, Act.put, List.setIfInBounds_toArray, List.set_cons_succ, List.set_cons_zero]
      refine wpAnyV_take (i := 4) (v := .pointer (some ⟨rb, 0, none⟩)) 8 (kept_below w) rfl (by kernel_rfl) (by kernel_rfl) (fun _ _ _ h => h) (fun _ h => h) (DoesV.reads (by rfl) fun w9 hS => by go_simp) ?_
      try simp only [List.getElem_toArray, List.getElem_cons_succ, List.getElem_cons_zero, Act.put, List.setIfInBounds_toArray, List.set_cons_succ, List.set_cons_zero]
      refine wpAnyV_take (i := 5) (v := .pointer (some ⟨rb, 0, none⟩)) 8 (kept_below w) rfl (by kernel_rfl) (by kernel_rfl) (fun _ _ _ h => h) (fun _ h => h) (DoesV.reads (by rfl) fun w9 hS => by go_simp) ?_
      try simp only [List.getElem_toArray, List.getElem_cons_succ, List.getElem_cons_zero, Act.put, List.setIfInBounds_toArray, List.set_cons_succ, List.set_cons_zero]
      refine wpAnyV_take (i := 6) (v := .pointer (some ⟨rb, 1, none⟩)) 8 (kept_below w) rfl (by kernel_rfl) (by kernel_rfl) (fun _ _ _ h => h) (fun _ h => h) (DoesV.reads (by rfl) fun w9 hS => by go_simp) ?_
      try simp only [List.getElem_toArray, List.getElem_cons_succ, List.getElem_cons_zero, Act.put, List.setIfInBounds_toArray, List.set_cons_succ, List.set_cons_zero]
      refine wpAnyV_take (i := 7) (v := .int .i64 (pos : Int)) 8 (kept_below w) rfl (by kernel_rfl) (by kernel_rfl) (fun _ _ _ h => h) (fun _ h => h) (DoesV.reads (by rfl) fun w9 hS => by have q0 := cell_b hS c1; go_simp) ?_
      try simp only [List.getElem_toArray, List.getElem_cons_succ, List.getElem_cons_zero, Act.put, List.setIfInBounds_toArray, List.set_cons_succ, List.set_cons_zero]
      refine wpAnyV_take (i := 8) (v := .int .i64 8) 8 (kept_below w) rfl (by kernel_rfl) (by kernel_rfl) (fun _ _ _ h => h) (fun _ h => h) (DoesV.reads (by rfl) fun w9 hS => by go_simp) ?_
      try simp only [List.getElem_toArray, List.getElem_cons_succ, List.getElem_cons_zero, Act.put, List.setIfInBounds_toArray, List.set_cons_succ, List.set_cons_zero]
      refine wpAnyV_take (i := 9) (v := .tuple #[.int .u64 nn, .int .i64 0]) 8 (kept_below w) rfl (by kernel_rfl) (by kernel_rfl) (fun _ _ _ h => h) (fun _ h => h) (DoesV.calls 70 #[.slice A all.length c, .int .i64 (pos : Int), .int .i64 8] (by rfl) (fun w9 hS => by go_simp) (fun w9 hS => (HG.out w9 hS).mono fun e u ⟨h1, h2⟩ => ⟨h1, h2 ▸ Below.refl _ _⟩)) ?_
      try simp only [List.getElem_toArray, List.getElem_cons_succ, List.getElem_cons_zero, Act.put, List.setIfInBounds_toArray, List.set_cons_succ, List.set_cons_zero]
      refine wpAnyV_take (i := 10) (v := .tuple #[.int .u64 nn, .int .i64 0]) 8 (kept_below w) rfl (by kernel_rfl) (by kernel_rfl) (fun _ _ _ h => h) (fun _ h => h) (DoesV.reads (by rfl) fun w9 hS => by go_simp) ?_
      try simp only [List.getElem_toArray, List.getElem_cons_succ, List.getElem_cons_zero, Act.put, List.setIfInBounds_toArray, List.set_cons_succ, List.set_cons_zero]
      refine wpAnyV_take (i := 11) (v := .int .u64 nn) 8 (kept_below w) rfl (by kernel_rfl) (by kernel_rfl) (fun _ _ _ h => h) (fun _ h => h) (DoesV.reads (by rfl) fun w9 hS => by go_simp) ?_
      try simp only [List.getElem_toArray, List.getElem_cons_succ, List.getElem_cons_zero, Act.put, List.setIfInBounds_toArray, List.set_cons_succ, List.set_cons_zero]
      refine wpAnyV_take (i := 12) (v := .int .i64 0) 8 (kept_below w) rfl (by kernel_rfl) (by kernel_rfl) (fun _ _ _ h => h) (fun _ h => h) (DoesV.reads (by rfl) fun w9 hS => by go_simp) ?_
      try simp only [List.getElem_toArray, List.getElem_cons_succ, List.getElem_cons_zero, Act.put, List.setIfInBounds_toArray, List.set_cons_succ, List.set_cons_zero]
      refine wpAnyV_take (i := 13) (v := .int .u64 nn) 8 (kept_below w) rfl (by kernel_rfl) (by kernel_rfl) (fun _ _ _ h => h) (fun _ h => h) (DoesV.reads (by rfl) fun w9 hS => by go_simp) ?_
      try simp only [List.getElem_toArray, List.getElem_cons_succ, List.getElem_cons_zero, Act.put, List.setIfInBounds_toArray, List.set_cons_succ, List.set_cons_zero]
      refine wpAnyV_take (i := 14) (v := .int .i64 0) 8 (kept_below w) rfl (by kernel_rfl) (by kernel_rfl) (fun _ _ _ h => h) (fun _ h => h) (DoesV.reads (by rfl) fun w9 hS => by go_simp) ?_
      try simp only [List.getElem_toArray, List.getElem_cons_succ, List.getElem_cons_zero, Act.put, List.setIfInBounds_toArray, List.set_cons_succ, List.set_cons_zero]
      refine wpAnyV_done (by kernel_rfl) (fun y hu => ?_) _
      have hk := H.out.below hu
      obtain ⟨d1, f1⟩ := hk.f1
      dsimp only at d1
      have HK := Lib.hid hk
      have HU := Lib.hid hu
      clear hk hu
      go_wp2_with fail
      go_ret
      exact ⟨rfl, HK.out.go (pos + 8) HS.out, (Turn.of_below HU.out _).trans (Turn.setAt y rb 1 _) fun _ _ h => h⟩
  · have e0 : (err == 0) = false := by simpa using h0
    have e1 : (err != 0) = true := by rw [bne, e0]; rfl
    have hz := numR_bad ⟨all, pos, err⟩ 8 h0
    rw [hz]
    obtain ⟨c2, -⟩ := h.f2
    dsimp only at c2
    clear hz h h0
    go_enter Tryd.func61, Tryd.ntmps61
    go_wp2_with fail
    go_ret
    exact ⟨rfl, H.out, Turn.refl _ _⟩
theorem Number_q {w : World} {rb : Nat} {s : RS} {F : Nat → Prop} (h : QAt w rb s F) : Calls Tryd.prog 38 #[.pointer (some ⟨rb, 0, none⟩)] w fun e w' => ToldQ rb (numR s 4).2 F (.int .u32 (numR s 4).1) w e w' := by
  have hn := number4_q h
  obtain ⟨h0, h1⟩ := numR_four s
  clear h
  generalize (numR s 4).1 = n at *
  generalize (numR s 4).2 = t at *
  go_enter Tryd.func38, Tryd.ntmps38
  go_wp2_with fail
  refine hn.mono ?_
  clear hn
  rintro e w1 ⟨rfl, h⟩
  have H := Lib.hid h
  clear h
  go_wp2_with fail
  go_ret
  exact ⟨rfl, H.out⟩
theorem Great_q {w : World} {rb : Nat} {s : RS} {F : Nat → Prop} (h : QAt w rb s F) : Calls Tryd.prog 39 #[.pointer (some ⟨rb, 0, none⟩)] w fun e w' => ToldQ rb (numR s 8).2 F (.int .u64 (numR s 8).1) w e w' := by
  have hn := number8_q h
  clear h
  generalize (numR s 8).1 = n at *
  generalize (numR s 8).2 = t at *
  go_enter Tryd.func39, Tryd.ntmps39
  go_wp2_with fail
  refine hn.mono ?_
  clear hn
  rintro e w1 ⟨rfl, h⟩
  have H := Lib.hid h
  clear h
  go_wp2_with fail
  go_ret
  exact ⟨rfl, H.out⟩
set_option maxHeartbeats 1000000 in
theorem Truth_q {w : World} {rb : Nat} {s : RS} {F : Nat → Prop} (h : QAt w rb s F) : Calls Tryd.prog 40 #[.pointer (some ⟨rb, 0, none⟩)] w fun e w' => ToldQ rb (truthR s).2 F (.bool (truthR s).1) w e w' := by
  have hn := number4_q h
  obtain ⟨h0, h1⟩ := numR_four s
  clear h
  unfold truthR
  generalize (numR s 4).1 = n at *
  generalize (numR s 4).2 = t at *
  by_cases hlt : 1 < n
  · rw [if_pos hlt]
    have e1 : (n == 1) = false := by
      rw [beq_eq_false_iff_ne]
      omega
    rw [e1]
    go_enter Tryd.func40, Tryd.ntmps40
    go_wp2_with fail
    refine hn.mono ?_
    clear hn
    rintro e w1 ⟨rfl, h, ht⟩
    obtain ⟨c2, f2⟩ := h.f2
    have H := Lib.hid h
    have HT := Lib.hid ht
    clear h ht
    go_wp2_with fail
    go_ret
    exact ⟨rfl, H.out.fail rfl, HT.out.trans (Turn.setAt w1 rb 2 _) fun _ _ h => h⟩
  · rw [if_neg hlt]
    go_enter Tryd.func40, Tryd.ntmps40
    go_wp2_with fail
    refine hn.mono ?_
    clear hn
    rintro e w1 ⟨rfl, h⟩
    have H := Lib.hid h
    clear h
    go_wp2_with fail
    go_ret
    exact ⟨rfl, H.out⟩
set_option maxHeartbeats 4000000 in
theorem End_q {w : World} {rb : Nat} {s : RS} {F : Nat → Prop} (h : QAt w rb s F) : Calls Tryd.prog 42 #[.pointer (some ⟨rb, 0, none⟩)] w fun e w' => e = .returned (.int .i64 (endR s)) ∧ Below w.heap.size w w' := by
  obtain ⟨all, pos, err⟩ := s
  unfold endR
  dsimp only
  have hmix : Tryd.prog.follows .mixedOrders = true := by kernel_rfl
  by_cases h0 : err = 0
  · subst h0
    rw [if_neg (by simp)]
    obtain ⟨v, hc, hv, hF, hp⟩ := h
    obtain ⟨A, c, rfl, hrd, hA, hlc, hcm⟩ := id hv
    have hm : all.length ≤ 9223372036854775807 := by unfold maxLen at hcm; exact Nat.le_trans hlc hcm
    have hc' : Cs w rb 68 #[.slice A all.length c, .int .i64 (pos : Int), .int .i64 0] := hc
    have c0 := hc'.cell 0 rfl
    have c1 := hc'.cell 1 rfl
    have c2 := hc'.cell 2 rfl
    obtain ⟨b, hb⟩ : ∃ b : Bool, b = decide (pos < all.length) := ⟨_, rfl⟩
    have hr : (if pos < all.length then (5 : Int) else 0) = if b = true then 5 else 0 := by rw [hb]; simp
    rw [hr]
    have hbd : decide (pos < all.length) = b := hb.symm
    have HB := Lib.hid hbd
    clear hr hb hc hc' hv hrd hA hlc hcm hp hF hbd
    go_enter Tryd.func42, Tryd.ntmps42
    go_wp2_with fail
    refine wp_region_V [] (Below w.heap.size w) hmix ((Below.refl _ _).drew) ?_
    change wpAnyV _ _ _ _ _ _ _ _ _
    refine wpAnyV_take (i := 0) (v := .pointer (some ⟨rb, 0, none⟩)) 8 (kept_below w) rfl (by kernel_rfl) (by kernel_rfl) (fun _ _ _ h => h) (fun _ h => h) (DoesV.reads (by rfl) fun w9 hS => by go_simp) ?_
    try simp only [List.getElem_toArray, List.getElem_cons_succ, List.getElem_cons_zero, Act.put, List.setIfInBounds_toArray, List.set_cons_succ, List.set_cons_zero]
    refine wpAnyV_take (i := 1) (v := .pointer (some ⟨rb, 0, none⟩)) 8 (kept_below w) rfl (by kernel_rfl) (by kernel_rfl) (fun _ _ _ h => h) (fun _ h => h) (DoesV.reads (by rfl) fun w9 hS => by go_simp) ?_
    try simp only [List.getElem_toArray, List.getElem_cons_succ, List.getElem_cons_zero, Act.put, List.setIfInBounds_toArray, List.set_cons_succ, List.set_cons_zero]
    refine wpAnyV_take (i := 2) (v := .pointer (some ⟨rb, 2, none⟩)) 8 (kept_below w) rfl (by kernel_rfl) (by kernel_rfl) (fun _ _ _ h => h) (fun _ h => h) (DoesV.reads (by rfl) fun w9 hS => by go_simp) ?_
    try simp only [List.getElem_toArray, List.getElem_cons_succ, List.getElem_cons_zero, Act.put, List.setIfInBounds_toArray, List.set_cons_succ, List.set_cons_zero]
    refine wpAnyV_take (i := 3) (v := .int .i64 0) 8 (kept_below w) rfl (by kernel_rfl) (by kernel_rfl) (fun _ _ _ h => h) (fun _ h => h) (DoesV.reads (by rfl) fun w9 hS => by have q0 := cell_b hS c2; go_simp) ?_
    try simp only [List.getElem_toArray, List.getElem_cons_succ, List.getElem_cons_zero, Act.put, List.setIfInBounds_toArray, List.set_cons_succ, List.set_cons_zero]
    refine wpAnyV_take (i := 4) (v := .bool true) 8 (kept_below w) rfl (by kernel_rfl) (by kernel_rfl) (fun _ _ _ h => h) (fun _ h => h) (DoesV.reads (by rfl) fun w9 hS => by go_simp) ?_
    try simp only [List.getElem_toArray, List.getElem_cons_succ, List.getElem_cons_zero, Act.put, List.setIfInBounds_toArray, List.set_cons_succ, List.set_cons_zero]
    refine wpAnyV_take (i := 5) (v := .bool true) 8 (kept_below w) rfl (by kernel_rfl) (by kernel_rfl) (fun _ _ _ h => h) (fun _ h => h) (DoesV.reads (by rfl) fun w9 hS => by go_simp) ?_
    try simp only [List.getElem_toArray, List.getElem_cons_succ, List.getElem_cons_zero, Act.put, List.setIfInBounds_toArray, List.set_cons_succ, List.set_cons_zero]
    refine wpAnyV_take (i := 6) (v := .pointer (some ⟨rb, 0, none⟩)) 8 (kept_below w) rfl (by kernel_rfl) (by kernel_rfl) (fun _ _ _ h => h) (fun _ h => h) (DoesV.reads (by rfl) fun w9 hS => by go_simp) ?_
    try simp only [List.getElem_toArray, List.getElem_cons_succ, List.getElem_cons_zero, Act.put, List.setIfInBounds_toArray, List.set_cons_succ, List.set_cons_zero]
    refine wpAnyV_take (i := 7) (v := .pointer (some ⟨rb, 0, none⟩)) 8 (kept_below w) rfl (by kernel_rfl) (by kernel_rfl) (fun _ _ _ h => h) (fun _ h => h) (DoesV.reads (by rfl) fun w9 hS => by go_simp) ?_
    try simp only [List.getElem_toArray, List.getElem_cons_succ, List.getElem_cons_zero, Act.put, List.setIfInBounds_toArray, List.set_cons_succ, List.set_cons_zero]
    refine wpAnyV_take (i := 8) (v := .pointer (some ⟨rb, 1, none⟩)) 8 (kept_below w) rfl (by kernel_rfl) (by kernel_rfl) (fun _ _ _ h => h) (fun _ h => h) (DoesV.reads (by rfl) fun w9 hS => by go_simp) ?_
    try simp only [List.getElem_toArray, List.getElem_cons_succ, List.getElem_cons_zero, Act.put, List.setIfInBounds_toArray, List.set_cons_succ, List.set_cons_zero]
    refine wpAnyV_take (i := 9) (v := .int .i64 (pos : Int)) 8 (kept_below w) rfl (by kernel_rfl) (by kernel_rfl) (fun _ _ _ h => h) (fun _ h => h) (DoesV.reads (by rfl) fun w9 hS => by have q0 := cell_b hS c1; go_simp) ?_
    try simp only [List.getElem_toArray, List.getElem_cons_succ, List.getElem_cons_zero, Act.put, List.setIfInBounds_toArray, List.set_cons_succ, List.set_cons_zero]
    refine wpAnyV_take (i := 10) (v := .pointer (some ⟨rb, 0, none⟩)) 8 (kept_below w) rfl (by kernel_rfl) (by kernel_rfl) (fun _ _ _ h => h) (fun _ h => h) (DoesV.reads (by rfl) fun w9 hS => by go_simp) ?_
    try simp only [List.getElem_toArray, List.getElem_cons_succ, List.getElem_cons_zero, Act.put, List.setIfInBounds_toArray, List.set_cons_succ, List.set_cons_zero]
    refine wpAnyV_take (i := 11) (v := .pointer (some ⟨rb, 0, none⟩)) 8 (kept_below w) rfl (by kernel_rfl) (by kernel_rfl) (fun _ _ _ h => h) (fun _ h => h) (DoesV.reads (by rfl) fun w9 hS => by go_simp) ?_
    try simp only [List.getElem_toArray, List.getElem_cons_succ, List.getElem_cons_zero, Act.put, List.setIfInBounds_toArray, List.set_cons_succ, List.set_cons_zero]
    refine wpAnyV_take (i := 12) (v := .pointer (some ⟨rb, 0, none⟩)) 8 (kept_below w) rfl (by kernel_rfl) (by kernel_rfl) (fun _ _ _ h => h) (fun _ h => h) (DoesV.reads (by rfl) fun w9 hS => by go_simp) ?_
    try simp only [List.getElem_toArray, List.getElem_cons_succ, List.getElem_cons_zero, Act.put, List.setIfInBounds_toArray, List.set_cons_succ, List.set_cons_zero]
    refine wpAnyV_take (i := 13) (v := .slice A all.length c) 8 (kept_below w) rfl (by kernel_rfl) (by kernel_rfl) (fun _ _ _ h => h) (fun _ h => h) (DoesV.reads (by rfl) fun w9 hS => by have q0 := cell_b hS c0; go_simp) ?_
    try simp only [List.getElem_toArray, List.getElem_cons_succ, List.getElem_cons_zero, Act.put, List.setIfInBounds_toArray, List.set_cons_succ, List.set_cons_zero]
    refine wpAnyV_take (i := 14) (v := .int .i64 (all.length : Int)) 8 (kept_below w) rfl (by kernel_rfl) (by kernel_rfl) (fun _ _ _ h => h) (fun _ h => h) (DoesV.reads (by rfl) fun w9 hS => by go_simp) ?_
    try simp only [List.getElem_toArray, List.getElem_cons_succ, List.getElem_cons_zero, Act.put, List.setIfInBounds_toArray, List.set_cons_succ, List.set_cons_zero]
    refine wpAnyV_take (i := 15) (v := .bool b) 8 (kept_below w) rfl (by kernel_rfl) (by kernel_rfl) (fun _ _ _ h => h) (fun _ h => h) (DoesV.reads (by rfl) fun w9 hS => by have q0 := HB.out; go_simp) ?_
    try simp only [List.getElem_toArray, List.getElem_cons_succ, List.getElem_cons_zero, Act.put, List.setIfInBounds_toArray, List.set_cons_succ, List.set_cons_zero]
    refine wpAnyV_take (i := 16) (v := .bool b) 8 (kept_below w) rfl (by kernel_rfl) (by kernel_rfl) (fun _ _ _ h => h) (fun _ h => h) (DoesV.reads (by rfl) fun w9 hS => by go_simp) ?_
    try simp only [List.getElem_toArray, List.getElem_cons_succ, List.getElem_cons_zero, Act.put, List.setIfInBounds_toArray, List.set_cons_succ, List.set_cons_zero]
    refine wpAnyV_done (by kernel_rfl) (fun y hu => ?_) _
    have HU := Lib.hid hu
    have d2 := cell_b hu c2
    clear hu
    cases b
    · go_wp2_with fail
      go_ret
      exact ⟨rfl, HU.out⟩
    · go_wp2_with fail
      go_ret
      exact ⟨rfl, HU.out⟩
  · have e0 : (err == 0) = false := by simpa using h0
    rw [if_pos h0]
    obtain ⟨c2, -⟩ := h.f2
    dsimp only at c2
    clear h h0
    go_enter Tryd.func42, Tryd.ntmps42
    go_wp2_with fail
    refine wp_region_V [] (Below w.heap.size w) hmix ((Below.refl _ _).drew) ?_
    change wpAnyV _ _ _ _ _ _ _ _ _
    refine wpAnyV_take (i := 0) (v := .pointer (some ⟨rb, 0, none⟩)) 8 (kept_below w) rfl (by kernel_rfl) (by kernel_rfl) (fun _ _ _ h => h) (fun _ h => h) (DoesV.reads (by rfl) fun w9 hS => by go_simp) ?_
    try simp only [List.getElem_toArray, List.getElem_cons_succ, List.getElem_cons_zero, Act.put, List.setIfInBounds_toArray, List.set_cons_succ, List.set_cons_zero]
    refine wpAnyV_take (i := 1) (v := .pointer (some ⟨rb, 0, none⟩)) 8 (kept_below w) rfl (by kernel_rfl) (by kernel_rfl) (fun _ _ _ h => h) (fun _ h => h) (DoesV.reads (by rfl) fun w9 hS => by go_simp) ?_
    try simp only [List.getElem_toArray, List.getElem_cons_succ, List.getElem_cons_zero, Act.put, List.setIfInBounds_toArray, List.set_cons_succ, List.set_cons_zero]
    refine wpAnyV_take (i := 2) (v := .pointer (some ⟨rb, 2, none⟩)) 8 (kept_below w) rfl (by kernel_rfl) (by kernel_rfl) (fun _ _ _ h => h) (fun _ h => h) (DoesV.reads (by rfl) fun w9 hS => by go_simp) ?_
    try simp only [List.getElem_toArray, List.getElem_cons_succ, List.getElem_cons_zero, Act.put, List.setIfInBounds_toArray, List.set_cons_succ, List.set_cons_zero]
    refine wpAnyV_take (i := 3) (v := .int .i64 err) 8 (kept_below w) rfl (by kernel_rfl) (by kernel_rfl) (fun _ _ _ h => h) (fun _ h => h) (DoesV.reads (by rfl) fun w9 hS => by have q0 := cell_b hS c2; go_simp) ?_
    try simp only [List.getElem_toArray, List.getElem_cons_succ, List.getElem_cons_zero, Act.put, List.setIfInBounds_toArray, List.set_cons_succ, List.set_cons_zero]
    refine wpAnyV_take (i := 4) (v := .bool false) 8 (kept_below w) rfl (by kernel_rfl) (by kernel_rfl) (fun _ _ _ h => h) (fun _ h => h) (DoesV.reads (by rfl) fun w9 hS => by go_simp) ?_
    try simp only [List.getElem_toArray, List.getElem_cons_succ, List.getElem_cons_zero, Act.put, List.setIfInBounds_toArray, List.set_cons_succ, List.set_cons_zero]
    refine wpAnyV_take (i := 5) (v := .bool false) 8 (kept_below w) rfl (by kernel_rfl) (by kernel_rfl) (fun _ _ _ h => h) (fun _ h => h) (DoesV.reads (by rfl) fun w9 hS => by go_simp) ?_
    try simp only [List.getElem_toArray, List.getElem_cons_succ, List.getElem_cons_zero, Act.put, List.setIfInBounds_toArray, List.set_cons_succ, List.set_cons_zero]
    refine wpAnyV_take (i := 6) (v := undef) 8 (kept_below w) rfl (by kernel_rfl) (by kernel_rfl) (fun _ _ _ h => h) (fun _ h => h) (DoesV.off (by rfl)) ?_
    try simp only [List.getElem_toArray, List.getElem_cons_succ, List.getElem_cons_zero, Act.put, List.setIfInBounds_toArray, List.set_cons_succ, List.set_cons_zero]
    refine wpAnyV_take (i := 7) (v := undef) 8 (kept_below w) rfl (by kernel_rfl) (by kernel_rfl) (fun _ _ _ h => h) (fun _ h => h) (DoesV.off (by rfl)) ?_
    try simp only [List.getElem_toArray, List.getElem_cons_succ, List.getElem_cons_zero, Act.put, List.setIfInBounds_toArray, List.set_cons_succ, List.set_cons_zero]
    refine wpAnyV_take (i := 8) (v := undef) 8 (kept_below w) rfl (by kernel_rfl) (by kernel_rfl) (fun _ _ _ h => h) (fun _ h => h) (DoesV.off (by rfl)) ?_
    try simp only [List.getElem_toArray, List.getElem_cons_succ, List.getElem_cons_zero, Act.put, List.setIfInBounds_toArray, List.set_cons_succ, List.set_cons_zero]
    refine wpAnyV_take (i := 9) (v := undef) 8 (kept_below w) rfl (by kernel_rfl) (by kernel_rfl) (fun _ _ _ h => h) (fun _ h => h) (DoesV.off (by rfl)) ?_
    try simp only [List.getElem_toArray, List.getElem_cons_succ, List.getElem_cons_zero, Act.put, List.setIfInBounds_toArray, List.set_cons_succ, List.set_cons_zero]
    refine wpAnyV_take (i := 10) (v := undef) 8 (kept_below w) rfl (by kernel_rfl) (by kernel_rfl) (fun _ _ _ h => h) (fun _ h => h) (DoesV.off (by rfl)) ?_
    try simp only [List.getElem_toArray, List.getElem_cons_succ, List.getElem_cons_zero, Act.put, List.setIfInBounds_toArray, List.set_cons_succ, List.set_cons_zero]
    refine wpAnyV_take (i := 11) (v := undef) 8 (kept_below w) rfl (by kernel_rfl) (by kernel_rfl) (fun _ _ _ h => h) (fun _ h => h) (DoesV.off (by rfl)) ?_
    try simp only [List.getElem_toArray, List.getElem_cons_succ, List.getElem_cons_zero, Act.put, List.setIfInBounds_toArray, List.set_cons_succ, List.set_cons_zero]
    refine wpAnyV_take (i := 12) (v := undef) 8 (kept_below w) rfl (by kernel_rfl) (by kernel_rfl) (fun _ _ _ h => h) (fun _ h => h) (DoesV.off (by rfl)) ?_
    try simp only [List.getElem_toArray, List.getElem_cons_succ, List.getElem_cons_zero, Act.put, List.setIfInBounds_toArray, List.set_cons_succ, List.set_cons_zero]
    refine wpAnyV_take (i := 13) (v := undef) 8 (kept_below w) rfl (by kernel_rfl) (by kernel_rfl) (fun _ _ _ h => h) (fun _ h => h) (DoesV.off (by rfl)) ?_
    try simp only [List.getElem_toArray, List.getElem_cons_succ, List.getElem_cons_zero, Act.put, List.setIfInBounds_toArray, List.set_cons_succ, List.set_cons_zero]
    refine wpAnyV_take (i := 14) (v := undef) 8 (kept_below w) rfl (by kernel_rfl) (by kernel_rfl) (fun _ _ _ h => h) (fun _ h => h) (DoesV.off (by rfl)) ?_
    try simp only [List.getElem_toArray, List.getElem_cons_succ, List.getElem_cons_zero, Act.put, List.setIfInBounds_toArray, List.set_cons_succ, List.set_cons_zero]
    refine wpAnyV_take (i := 15) (v := undef) 8 (kept_below w) rfl (by kernel_rfl) (by kernel_rfl) (fun _ _ _ h => h) (fun _ h => h) (DoesV.off (by rfl)) ?_
    try simp only [List.getElem_toArray, List.getElem_cons_succ, List.getElem_cons_zero, Act.put, List.setIfInBounds_toArray, List.set_cons_succ, List.set_cons_zero]
    refine wpAnyV_take (i := 16) (v := .bool false) 8 (kept_below w) rfl (by kernel_rfl) (by kernel_rfl) (fun _ _ _ h => h) (fun _ h => h) (DoesV.reads (by rfl) fun w9 hS => by go_simp) ?_
    try simp only [List.getElem_toArray, List.getElem_cons_succ, List.getElem_cons_zero, Act.put, List.setIfInBounds_toArray, List.set_cons_succ, List.set_cons_zero]
    refine wpAnyV_done (by kernel_rfl) (fun y hu => ?_) _
    have HU := Lib.hid hu
    have d2 := cell_b hu c2
    clear hu
    go_wp2_with fail
    go_ret
    exact ⟨rfl, HU.out⟩

end Go.Proofs.YtboalmmpcfiicaaDoor
