/- A reader: Number, Great, Truth, End, NewReader, padded. -/
import Derived.Test.YtboalmmpcfiicaaDoorXd1
namespace Go.Proofs.YtboalmmpcfiicaaDoor
open Go.RowKit Go.Shelf
set_option linter.unusedVariables false
set_option maxRecDepth 100000
set_option linter.unusedSimpArgs false

theorem Number_r {w : World} {rb : Nat} {s : RS} {F : Nat → Prop} (h : RdAt w rb s F) : Calls Tryd.prog 35 #[.pointer (some ⟨rb, 0, none⟩)] w fun e w' => Told rb (numR s 4).2 F (.int .u32 (numR s 4).1) w e w' := by
  have hn := number4_r h
  obtain ⟨h0, h1⟩ := numR_four s
  clear h
  generalize (numR s 4).1 = n at *
  generalize (numR s 4).2 = t at *
  go_enter Tryd.func35, Tryd.ntmps35
  go_wp2_with fail
  refine hn.mono ?_
  clear hn
  rintro e w1 ⟨rfl, h⟩
  have H := Lib.hid h
  clear h
  go_wp2_with fail
  go_ret
  exact ⟨rfl, H.out⟩
theorem Great_r {w : World} {rb : Nat} {s : RS} {F : Nat → Prop} (h : RdAt w rb s F) : Calls Tryd.prog 56 #[.pointer (some ⟨rb, 0, none⟩)] w fun e w' => Told rb (numR s 8).2 F (.int .u64 (numR s 8).1) w e w' := by
  have hn := number8_r h
  clear h
  generalize (numR s 8).1 = n at *
  generalize (numR s 8).2 = t at *
  go_enter Tryd.func56, Tryd.ntmps56
  go_wp2_with fail
  refine hn.mono ?_
  clear hn
  rintro e w1 ⟨rfl, h⟩
  have H := Lib.hid h
  clear h
  go_wp2_with fail
  go_ret
  exact ⟨rfl, H.out⟩
theorem RdAt.fail {w : World} {rb : Nat} {s : RS} {F : Nat → Prop} (h : RdAt w rb s F) (er : Int) : RdAt (w.setCell ⟨rb, 3, none⟩ (.int .i64 er)) rb ⟨s.all, s.pos, er⟩ F := by
  obtain ⟨v, hc, hv, hF, hp⟩ := h
  exact ⟨v, by simpa using hc.set 3 (.int .i64 er), hv.turn (Turn.setAt w rb 3 _) (fun k hk e => hF (e ▸ hk)), hF, hp⟩
theorem RdAt.go {w : World} {rb : Nat} {s : RS} {F : Nat → Prop} (h : RdAt w rb s F) (p : Nat) (hp : p ≤ s.all.length) : RdAt (w.setCell ⟨rb, 2, none⟩ (.int .i64 (p : Int))) rb ⟨s.all, p, s.err⟩ F := by
  obtain ⟨v, hc, hv, hF, -⟩ := h
  exact ⟨v, by simpa using hc.set 2 (.int .i64 (p : Int)), hv.turn (Turn.setAt w rb 2 _) (fun k hk e => hF (e ▸ hk)), hF, hp⟩
theorem RdAt.f3 {w : World} {rb : Nat} {s : RS} {F : Nat → Prop} (h : RdAt w rb s F) : w.cell? ⟨rb, 3, none⟩ = some (.int .i64 s.err) ∧ w.frozen? ⟨rb, 3, none⟩ = false := by
  obtain ⟨v, hc, -⟩ := h
  exact ⟨hc.cell 3 rfl, hc.frozen 3⟩
set_option maxHeartbeats 1000000 in
theorem Truth_r {w : World} {rb : Nat} {s : RS} {F : Nat → Prop} (h : RdAt w rb s F) : Calls Tryd.prog 67 #[.pointer (some ⟨rb, 0, none⟩)] w fun e w' => Told rb (truthR s).2 F (.bool (truthR s).1) w e w' := by
  have hn := Number_r h
  obtain ⟨h0, h1⟩ := numR_four s
  clear h
  unfold truthR
  generalize (numR s 4).1 = n at *
  generalize (numR s 4).2 = t at *
  by_cases hlt : 1 < n
  · rw [if_pos hlt]
    have e1 : (n == 1) = false := by
      rw [beq_eq_false_iff_ne]
      omega
    rw [e1]
    go_enter Tryd.func67, Tryd.ntmps67
    go_wp2_with fail
    refine hn.mono ?_
    clear hn
    rintro e w1 ⟨rfl, h, ht⟩
    obtain ⟨c3, f3⟩ := h.f3
    have H := Lib.hid h
    have HT := Lib.hid ht
    clear h ht
    go_wp2_with fail
    go_ret
    exact ⟨rfl, H.out.fail 5, HT.out.trans (Turn.setAt w1 rb 3 _) fun _ _ h => h⟩
  · rw [if_neg hlt]
    go_enter Tryd.func67, Tryd.ntmps67
    go_wp2_with fail
    refine hn.mono ?_
    clear hn
    rintro e w1 ⟨rfl, h⟩
    have H := Lib.hid h
    clear h
    go_wp2_with fail
    go_ret
    exact ⟨rfl, H.out⟩
set_option maxHeartbeats 4000000 in
theorem End_r {w : World} {rb : Nat} {s : RS} {F : Nat → Prop} (h : RdAt w rb s F) : Calls Tryd.prog 37 #[.pointer (some ⟨rb, 0, none⟩)] w fun e w' => e = .returned (.int .i64 (endR s)) ∧ Below w.heap.size w w' := by
  have hE := Error_r h
  obtain ⟨all, pos, err⟩ := s
  unfold endR
  dsimp only at hE ⊢
  by_cases h0 : err = 0
  · subst h0
    rw [if_neg (by simp)]
    obtain ⟨v, hc, hv, hF, hp⟩ := h
    obtain ⟨A, c, rfl, hrd, hA, hlc, hcm⟩ := id hv
    have hm : all.length ≤ 9223372036854775807 := by unfold maxLen at hcm; exact Nat.le_trans hlc hcm
    have hmix : Tryd.prog.follows .mixedOrders = true := by kernel_rfl
    have hc' : Cs w rb 82 #[.bool true, .slice A all.length c, .int .i64 (pos : Int), .int .i64 0] := hc
    have c1 := hc'.cell 1 rfl
    have c2 := hc'.cell 2 rfl
    obtain ⟨b, hb⟩ : ∃ b : Bool, b = decide (pos < all.length) := ⟨_, rfl⟩
    have hr : (if pos < all.length then (5 : Int) else 0) = if b = true then 5 else 0 := by rw [hb]; simp
    rw [hr]
    have hbd : decide (pos < all.length) = b := hb.symm
    have HB := Lib.hid hbd
    clear hr hb hc hc' hv hrd hA hlc hcm hp hF hbd
    go_enter Tryd.func37, Tryd.ntmps37
    go_wp2_with fail
    refine hE.mono ?_
    clear hE
    rintro e w' ⟨rfl, rfl⟩
    go_wp2_with fail
    refine wp_region_V [] (Below w.heap.size w) hmix ((Below.refl _ _).drew) ?_
    change wpAnyV _ _ _ _ _ _ _ _ _
    refine wpAnyV_take (i := 0) (v := .pointer (some ⟨rb, 0, none⟩)) 8 (kept_below w) rfl (by kernel_rfl) (by kernel_rfl) (fun _ _ _ h => h) (fun _ h => h) (DoesV.reads (by rfl) fun w9 hS => by go_simp) ?_
    try simp only [List.getElem_toArray, List.getElem_cons_succ, List.getElem_cons_zero, Act.put, List.setIfInBounds_toArray, List.set_cons_succ, List.set_cons_zero]
    refine wpAnyV_take (i := 1) (v := .pointer (some ⟨rb, 0, none⟩)) 8 (kept_below w) rfl (by kernel_rfl) (by kernel_rfl) (fun _ _ _ h => h) (fun _ h => h) (DoesV.reads (by rfl) fun w9 hS => by go_simp) ?_
    try simp only [List.getElem_toArray, List.getElem_cons_succ, List.getElem_cons_zero, Act.put, List.setIfInBounds_toArray, List.set_cons_succ, List.set_cons_zero]
    refine wpAnyV_take (i := 2) (v := .pointer (some ⟨rb, 2, none⟩)) 8 (kept_below w) rfl (by kernel_rfl) (by kernel_rfl) (fun _ _ _ h => h) (fun _ h => h) (DoesV.reads (by rfl) fun w9 hS => by go_simp) ?_
    try simp only [List.getElem_toArray, List.getElem_cons_succ, List.getElem_cons_zero, Act.put, List.setIfInBounds_toArray, List.set_cons_succ, List.set_cons_zero]
    refine wpAnyV_take (i := 3) (v := .int .i64 (pos : Int)) 8 (kept_below w) rfl (by kernel_rfl) (by kernel_rfl) (fun _ _ _ h => h) (fun _ h => h) (DoesV.reads (by rfl) fun w9 hS => by have q0 := cell_b hS c2; go_simp) ?_
    try simp only [List.getElem_toArray, List.getElem_cons_succ, List.getElem_cons_zero, Act.put, List.setIfInBounds_toArray, List.set_cons_succ, List.set_cons_zero]
    refine wpAnyV_take (i := 4) (v := .pointer (some ⟨rb, 0, none⟩)) 8 (kept_below w) rfl (by kernel_rfl) (by kernel_rfl) (fun _ _ _ h => h) (fun _ h => h) (DoesV.reads (by rfl) fun w9 hS => by go_simp) ?_
    try simp only [List.getElem_toArray, List.getElem_cons_succ, List.getElem_cons_zero, Act.put, List.setIfInBounds_toArray, List.set_cons_succ, List.set_cons_zero]
    refine wpAnyV_take (i := 5) (v := .pointer (some ⟨rb, 0, none⟩)) 8 (kept_below w) rfl (by kernel_rfl) (by kernel_rfl) (fun _ _ _ h => h) (fun _ h => h) (DoesV.reads (by rfl) fun w9 hS => by go_simp) ?_
    try simp only [List.getElem_toArray, List.getElem_cons_succ, List.getElem_cons_zero, Act.put, List.setIfInBounds_toArray, List.set_cons_succ, List.set_cons_zero]
    refine wpAnyV_take (i := 6) (v := .pointer (some ⟨rb, 1, none⟩)) 8 (kept_below w) rfl (by kernel_rfl) (by kernel_rfl) (fun _ _ _ h => h) (fun _ h => h) (DoesV.reads (by rfl) fun w9 hS => by go_simp) ?_
    try simp only [List.getElem_toArray, List.getElem_cons_succ, List.getElem_cons_zero, Act.put, List.setIfInBounds_toArray, List.set_cons_succ, List.set_cons_zero]
    refine wpAnyV_take (i := 7) (v := .slice A all.length c) 8 (kept_below w) rfl (by kernel_rfl) (by kernel_rfl) (fun _ _ _ h => h) (fun _ h => h) (DoesV.reads (by rfl) fun w9 hS => by have q0 := cell_b hS c1; go_simp) ?_
    try simp only [List.getElem_toArray, List.getElem_cons_succ, List.getElem_cons_zero, Act.put, List.setIfInBounds_toArray, List.set_cons_succ, List.set_cons_zero]
    refine wpAnyV_take (i := 8) (v := .int .i64 (all.length : Int)) 8 (kept_below w) rfl (by kernel_rfl) (by kernel_rfl) (fun _ _ _ h => h) (fun _ h => h) (DoesV.reads (by rfl) fun w9 hS => by go_simp) ?_
    try simp only [List.getElem_toArray, List.getElem_cons_succ, List.getElem_cons_zero, Act.put, List.setIfInBounds_toArray, List.set_cons_succ, List.set_cons_zero]
    refine wpAnyV_take (i := 9) (v := .bool b) 8 (kept_below w) rfl (by kernel_rfl) (by kernel_rfl) (fun _ _ _ h => h) (fun _ h => h) (DoesV.reads (by rfl) fun w9 hS => by have q0 := HB.out; go_simp) ?_
    try simp only [List.getElem_toArray, List.getElem_cons_succ, List.getElem_cons_zero, Act.put, List.setIfInBounds_toArray, List.set_cons_succ, List.set_cons_zero]
    refine wpAnyV_done (by kernel_rfl) (fun y hu => ?_) _
    have HU := Lib.hid hu
    clear hu
    cases b
    · go_wp2_with fail
      go_ret
      exact ⟨rfl, HU.out⟩
    · go_wp2_with fail
      go_ret
      exact ⟨rfl, HU.out⟩
  · have e0 : (err == 0) = false := by simpa using h0
    have e1 : (err != 0) = true := by rw [bne, e0]; rfl
    rw [if_pos h0]
    clear h h0
    go_enter Tryd.func37, Tryd.ntmps37
    go_wp2_with fail
    refine hE.mono ?_
    clear hE
    rintro e w' ⟨rfl, rfl⟩
    go_wp2_with fail
    go_ret
    exact ⟨rfl, Below.refl _ _⟩
/-- what NewReader hands back -/
def NewR (l : List UInt8) (w : World) (e : Ending) (w' : World) : Prop := ∃ rb, e = .returned (.pointer (some ⟨rb, 0, none⟩)) ∧ RdAt w' rb ⟨l, 0, 0⟩ (fun k => w.heap.size ≤ k ∧ k ≠ rb) ∧ w.heap.size ≤ rb ∧ Below w.heap.size w w'
theorem NewReader_v (l : List UInt8) (A : Option Addr) (c : Nat) (w : World) (hl : l.length ≤ 140737488355328) (hr : Rd w A l) (hA : A = none → l = [] ∧ c = 0) :
    Calls Tryd.prog 33 #[.slice A l.length c] w fun e w' => NewR l w e w' := by
  have hcl := Clone_ty l A c w hl hr hA
  clear hr hA
  go_enter Tryd.func33, Tryd.ntmps33
  go_wp2_with fail
  refine hcl.mono ?_
  clear hcl
  rintro e w1 ⟨v, rfl, hv, -, -, hb⟩
  obtain ⟨A1, c1, rfl, -⟩ := id hv
  have HV := Lib.hid hv
  have HB := Lib.hid hb
  clear hv hb
  go_wp2_with fail
  go_ret
  have hba := (Below.refl w1.heap.size w1).alloc (Nat.le_refl _) (.cells #[.bool true, .slice A1 l.length c1, .int .i64 0, .int .i64 0] 82)
  refine ⟨w1.heap.size, rfl, ⟨_, Cs.new w1 82 #[.bool true, .slice A1 l.length c1, .int .i64 0, .int .i64 0], ?_, fun h => h.2 rfl, Nat.zero_le _⟩, HB.out.size, below_new HB.out _⟩
  have h2 : BsV w1 (fun k => w.heap.size ≤ k ∧ k ≠ w1.heap.size) (.slice A1 l.length c1) l := HV.out.mono fun k hk h => ⟨h, by omega⟩
  exact h2.below hba

end Go.Proofs.YtboalmmpcfiicaaDoor
