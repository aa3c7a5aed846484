/- The reference of layer 9: its reader's Bytes. -/
import Derived.Test.YtboalmmpcfiicaaDoorXdQ2
namespace Go.Proofs.YtboalmmpcfiicaaDoor
open Go.RowKit Go.Shelf
set_option linter.unusedVariables false
set_option maxRecDepth 100000
set_option linter.unusedSimpArgs false

/-- the reference's reader, its bytes at v -/
def QV (w : World) (rb : Nat) (v : Value) (s : RS) (F : Nat → Prop) : Prop := Cs w rb 68 #[v, .int .i64 (s.pos : Int), .int .i64 s.err] ∧ BsV w F v s.all ∧ ¬ F rb ∧ s.pos ≤ s.all.length
theorem QV.at {w : World} {rb : Nat} {v : Value} {s : RS} {F : Nat → Prop} (h : QV w rb v s F) : QAt w rb s F := ⟨v, h⟩
theorem QV.turn {w w' : World} {rb : Nat} {v : Value} {s : RS} {F G : Nat → Prop} (h : QV w rb v s F) (ht : Turn w w' G) (hr : ¬ G rb) (hF : ∀ k, F k → ¬ G k) : QV w' rb v s F := ⟨h.1.turn ht hr, h.2.1.turn ht hF, h.2.2⟩
theorem QV.below {w w' : World} {rb : Nat} {v : Value} {s : RS} {F : Nat → Prop} (h : QV w rb v s F) (hb : Below w.heap.size w w') : QV w' rb v s F := h.turn (Turn.of_below hb fun _ => False) (fun h => h) fun _ _ h => h
theorem QV.stored {w w' : World} {rb : Nat} {v : Value} {s : RS} {F : Nat → Prop} {er : Int} (h : QV w rb v s F) (hk : Cs w' rb 68 (#[v, .int .i64 (s.pos : Int), .int .i64 s.err].setIfInBounds 2 (.int .i64 er))) (ht : Turn w w' (· = rb)) : QV w' rb v ⟨s.all, s.pos, er⟩ F :=
  ⟨by simpa using hk, h.2.1.turn ht (fun k hk e => h.2.2.1 (e ▸ hk)), h.2.2⟩
theorem kept_q (rb : Nat) (v : Value) (s : RS) (F : Nat → Prop) : Kept (fun u => QV u rb v s F) := fun u u' h hb => h.below hb
theorem kept_turnQ (W : World) (G : Nat → Prop) : Kept (Turn W · G) := fun u u' h hb => h.trans (Turn.of_below hb G) fun _ _ h => h
theorem kept_bsQ (F : Nat → Prop) (v : Value) (l : List UInt8) : Kept (fun u => BsV u F v l) := fun u u' h hb => h.below hb
/-- what tells bytes in new memory, and leaves the reader as s -/
def ToldBQ (rb : Nat) (s : RS) (F : Nat → Prop) (l : List UInt8) (w : World) (e : Ending) (w' : World) : Prop :=
  ∃ v, e = .returned v ∧ BsV w' (w.heap.size ≤ ·) v l ∧ QAt w' rb s F ∧ Turn w w' (· = rb)
theorem ToldBQ.nil {rb : Nat} {s : RS} {F : Nat → Prop} {w w' : World} (h : QAt w' rb s F) (ht : Turn w w' (· = rb)) : ToldBQ rb s F [] w (.returned (.slice none 0 0)) w' := ⟨_, rfl, BsV.nil _ _, h, ht⟩
theorem zero_at (l : List UInt8) (p n : Nat) (hn : p + (n + padN n) ≤ l.length) : zeroV l ((p : Int) + (n : Int)) (padN n : Int) = padE l p n := by
  unfold zeroV padE
  rw [if_neg (by rw [place_iff.2 ⟨by omega, by omega⟩]; first | (simp; done) | (simp; omega)), if_neg (by omega), if_neg (by omega), Int.toNat_natCast]
  have : ((p : Int) + (n : Int)).toNat = p + n := by omega
  rw [this]
  rfl
theorem padE_cases (l : List UInt8) (p n : Nat) (h : p + (n + padN n) ≤ l.length) : padE l p n = 0 ∨ padE l p n = 5 := by
  unfold padE
  rw [if_neg (by omega)]
  split
  · exact .inl rfl
  · exact .inr rfl
set_option maxHeartbeats 8000000 in
theorem Bytes_qn {w : World} {rb : Nat} {s : RS} {F : Nat → Prop} (most : Int) (hm0 : -9223372036854775808 ≤ most) (hm1 : most ≤ 9223372036854775807) (hneg : most < 0) (hlen : s.all.length ≤ 140737488355328) (h : QAt w rb s F) :
    Calls Tryd.prog 41 #[.pointer (some ⟨rb, 0, none⟩), .int .i64 most] w fun e w' => ToldBQ rb (bytesR s most).2 F (bytesR s most).1 w e w' := by
  have hn := number4_q h
  obtain ⟨h0, h1⟩ := numR_four s
  have hal := numR_all s 4
  have hmix : Tryd.prog.follows .mixedOrders = true := by kernel_rfl
  rw [bytesR_is]
  clear h
  generalize (numR s 4).1 = nn at *
  generalize (numR s 4).2 = t at *
  obtain ⟨n, rfl⟩ := Int.eq_ofNat_of_zero_le h0
  rw [Int.toNat_natCast]
  have hn' : (n : Int) ≤ 4294967295 := h1
  have hn2 : n ≤ 4294967295 := by omega
  rw [← hal] at hlen
  have hM : max most 0 = 0 := by omega
  unfold bytesN
  rw [hM]
  clear h0 h1 hal hM
  obtain ⟨all, pos, err⟩ := t
  dsimp only at hlen hn ⊢
  have HN := Lib.hid hn
  clear hn
  by_cases he : err = 0
  · subst he
    rw [if_neg (by simp)]
    by_cases hlim : 0 < (n : Int)
    · rw [if_pos hlim]
      go_enter Tryd.func41, Tryd.ntmps41
      go_wp2_with fail
      refine HN.out.mono ?_
      rintro e w1 ⟨rfl, h, ht⟩
      obtain ⟨c2, f2⟩ := h.f2
      dsimp only at c2 f2
      have H := Lib.hid h
      have HT := Lib.hid ht
      clear h ht
      go_wp2_with fail
      go_ret
      exact ToldBQ.nil (H.out.fail rfl) (HT.out.trans (Turn.setAt w1 rb 2 _) fun _ _ h => h)
    · rw [if_neg hlim]
      have hlim' : (n : Int) ≤ 0 := by omega
      have hpad := PadRef_nat n (by omega)
      have hp4 := padN_lt n
      have hl9 : all.length ≤ 9223372036854775807 := by omega
      clear hlim
      by_cases hfit : all.length < pos + (n + padN n)
      · have hpe : padE all pos n = 4 := by unfold padE; rw [if_pos hfit]
        rw [hpe, if_neg (by decide)]
        clear hpe
        generalize padN n = p at *
        have HLT := Lib.hid (show (all.length : Int) - (pos : Int) < (n : Int) + (p : Int) by omega)
        clear hfit
        go_enter Tryd.func41, Tryd.ntmps41
        go_wp2_with fail
        refine HN.out.mono ?_
        rintro e w1 ⟨rfl, h, ht⟩
        obtain ⟨c2, f2⟩ := h.f2
        dsimp only at c2 f2
        have H := Lib.hid h
        have HT := Lib.hid ht
        clear h ht
        obtain ⟨v, hq0⟩ := H.out
        obtain ⟨hc, hv, hF, hp⟩ := id (show QV w1 rb v ⟨all, pos, 0⟩ F from hq0)
        dsimp only at hv hp
        obtain ⟨A, c, rfl, hrd, hA, hlc, hcm⟩ := id hv
        have K0 := Lib.hid (show QV w1 rb (.slice A all.length c) ⟨all, pos, 0⟩ F from hq0)
        have hc' : Cs w1 rb 68 #[.slice A all.length c, .int .i64 (pos : Int), .int .i64 0] := hc
        have c0 := hc'.cell 0 rfl
        have c1 := hc'.cell 1 rfl
        have HV := Lib.hid hv
        have HF := Lib.hid hF
        have hpos : pos ≤ all.length := hp
        have hlc' : all.length ≤ c := hlc
        clear hq0 hc hc' hv hrd hA hlc hcm hF hp
        go_wp2_with fail
        refine (hpad _).mono ?_
        rintro e w' ⟨rfl, rfl⟩
        go_wp2_with fail
        refine wp_region_V [] (Below w1.heap.size w1) hmix ((Below.refl _ _).drew) ?_
        change wpAnyV _ _ _ _ _ _ _ _ _
        refine wpAnyV_take (i := 0) (v := .pointer (some ⟨rb, 0, none⟩)) 8 (kept_below w1) rfl (by kernel_rfl) (by kernel_rfl) (fun _ _ _ h => h) (fun _ h => h) (DoesV.reads (by rfl) fun w9 hS => by go_simp) ?_
        try simp only [List.getElem_toArray, List.getElem_cons_succ, List.getElem_cons_zero, Act.put, List.setIfInBounds_toArray, List.set_cons_succ, List.set_cons_zero]
        refine wpAnyV_take (i := 1) (v := .pointer (some ⟨rb, 0, none⟩)) 8 (kept_below w1) rfl (by kernel_rfl) (by kernel_rfl) (fun _ _ _ h => h) (fun _ h => h) (DoesV.reads (by rfl) fun w9 hS => by go_simp) ?_
        try simp only [List.getElem_toArray, List.getElem_cons_succ, List.getElem_cons_zero, Act.put, List.setIfInBounds_toArray, List.set_cons_succ, List.set_cons_zero]
        refine wpAnyV_take (i := 2) (v := .pointer (some ⟨rb, 0, none⟩)) 8 (kept_below w1) rfl (by kernel_rfl) (by kernel_rfl) (fun _ _ _ h => h) (fun _ h => h) (DoesV.reads (by rfl) fun w9 hS => by go_simp) ?_
        try simp only [List.getElem_toArray, List.getElem_cons_succ, List.getElem_cons_zero, Act.put, List.setIfInBounds_toArray, List.set_cons_succ, List.set_cons_zero]
        refine wpAnyV_take (i := 3) (v := .slice A all.length c) 8 (kept_below w1) rfl (by kernel_rfl) (by kernel_rfl) (fun _ _ _ h => h) (fun _ h => h) (DoesV.reads (by rfl) fun w9 hS => by have q0 := cell_b hS c0; go_simp) ?_
        try simp only [List.getElem_toArray, List.getElem_cons_succ, List.getElem_cons_zero, Act.put, List.setIfInBounds_toArray, List.set_cons_succ, List.set_cons_zero]
        refine wpAnyV_take (i := 4) (v := .int .i64 (all.length : Int)) 8 (kept_below w1) rfl (by kernel_rfl) (by kernel_rfl) (fun _ _ _ h => h) (fun _ h => h) (DoesV.reads (by rfl) fun w9 hS => by go_simp) ?_
        try simp only [List.getElem_toArray, List.getElem_cons_succ, List.getElem_cons_zero, Act.put, List.setIfInBounds_toArray, List.set_cons_succ, List.set_cons_zero]
        refine wpAnyV_take (i := 5) (v := .pointer (some ⟨rb, 0, none⟩)) 8 (kept_below w1) rfl (by kernel_rfl) (by kernel_rfl) (fun _ _ _ h => h) (fun _ h => h) (DoesV.reads (by rfl) fun w9 hS => by go_simp) ?_
        try simp only [List.getElem_toArray, List.getElem_cons_succ, List.getElem_cons_zero, Act.put, List.setIfInBounds_toArray, List.set_cons_succ, List.set_cons_zero]
        refine wpAnyV_take (i := 6) (v := .pointer (some ⟨rb, 0, none⟩)) 8 (kept_below w1) rfl (by kernel_rfl) (by kernel_rfl) (fun _ _ _ h => h) (fun _ h => h) (DoesV.reads (by rfl) fun w9 hS => by go_simp) ?_
        try simp only [List.getElem_toArray, List.getElem_cons_succ, List.getElem_cons_zero, Act.put, List.setIfInBounds_toArray, List.set_cons_succ, List.set_cons_zero]
        refine wpAnyV_take (i := 7) (v := .pointer (some ⟨rb, 1, none⟩)) 8 (kept_below w1) rfl (by kernel_rfl) (by kernel_rfl) (fun _ _ _ h => h) (fun _ h => h) (DoesV.reads (by rfl) fun w9 hS => by go_simp) ?_
        try simp only [List.getElem_toArray, List.getElem_cons_succ, List.getElem_cons_zero, Act.put, List.setIfInBounds_toArray, List.set_cons_succ, List.set_cons_zero]
        refine wpAnyV_take (i := 8) (v := .int .i64 (pos : Int)) 8 (kept_below w1) rfl (by kernel_rfl) (by kernel_rfl) (fun _ _ _ h => h) (fun _ h => h) (DoesV.reads (by rfl) fun w9 hS => by have q0 := cell_b hS c1; go_simp) ?_
        try simp only [List.getElem_toArray, List.getElem_cons_succ, List.getElem_cons_zero, Act.put, List.setIfInBounds_toArray, List.set_cons_succ, List.set_cons_zero]
        refine wpAnyV_take (i := 9) (v := .int .i64 ((all.length : Int) - (pos : Int))) 8 (kept_below w1) rfl (by kernel_rfl) (by kernel_rfl) (fun _ _ _ h => h) (fun _ h => h) (DoesV.reads (by rfl) fun w9 hS => by go_simp; simp (disch := omega) only [IntWalk.i64_in, IntWalk.u32_in, IntWalk.u64_in]) ?_
        try simp only [List.getElem_toArray, List.getElem_cons_succ, List.getElem_cons_zero, Act.put, List.setIfInBounds_toArray, List.set_cons_succ, List.set_cons_zero]
        refine wpAnyV_take (i := 10) (v := .int .i64 (n : Int)) 8 (kept_below w1) rfl (by kernel_rfl) (by kernel_rfl) (fun _ _ _ h => h) (fun _ h => h) (DoesV.reads (by rfl) fun w9 hS => by go_simp) ?_
        try simp only [List.getElem_toArray, List.getElem_cons_succ, List.getElem_cons_zero, Act.put, List.setIfInBounds_toArray, List.set_cons_succ, List.set_cons_zero]
        refine wpAnyV_take (i := 11) (v := .int .i64 (p : Int)) 8 (kept_below w1) rfl (by kernel_rfl) (by kernel_rfl) (fun _ _ _ h => h) (fun _ h => h) (DoesV.reads (by rfl) fun w9 hS => by go_simp) ?_
        try simp only [List.getElem_toArray, List.getElem_cons_succ, List.getElem_cons_zero, Act.put, List.setIfInBounds_toArray, List.set_cons_succ, List.set_cons_zero]
        refine wpAnyV_take (i := 12) (v := .int .i64 ((n : Int) + (p : Int))) 8 (kept_below w1) rfl (by kernel_rfl) (by kernel_rfl) (fun _ _ _ h => h) (fun _ h => h) (DoesV.reads (by rfl) fun w9 hS => by go_simp; simp (disch := omega) only [IntWalk.i64_in, IntWalk.u32_in, IntWalk.u64_in]) ?_
        try simp only [List.getElem_toArray, List.getElem_cons_succ, List.getElem_cons_zero, Act.put, List.setIfInBounds_toArray, List.set_cons_succ, List.set_cons_zero]
        refine wpAnyV_take (i := 13) (v := .bool true) 8 (kept_below w1) rfl (by kernel_rfl) (by kernel_rfl) (fun _ _ _ h => h) (fun _ h => h) (DoesV.reads (by rfl) fun w9 hS => by have q0 := HLT.out; go_simp) ?_
        try simp only [List.getElem_toArray, List.getElem_cons_succ, List.getElem_cons_zero, Act.put, List.setIfInBounds_toArray, List.set_cons_succ, List.set_cons_zero]
        refine wpAnyV_done (by kernel_rfl) (fun y hu => ?_) _
        have hq := H.out.below hu
        obtain ⟨d2, g2⟩ := hq.f2
        have HQ := Lib.hid hq
        have HU := Lib.hid hu
        clear hq hu
        go_wp2_with fail
        go_ret
        exact ToldBQ.nil (HQ.out.fail rfl) ((HT.out.trans (Turn.of_below HU.out _) fun _ _ h => h).trans (Turn.setAt y rb 2 _) fun _ _ h => h)
      · have hzero := zero_at all pos n (by omega)
        have hcases := padE_cases all pos n (by omega)
        obtain ⟨pe, hpe⟩ : ∃ pe, pe = padE all pos n := ⟨_, rfl⟩
        rw [← hpe] at hzero hcases ⊢
        clear hpe
        generalize padN n = p at *
        have HLT := Lib.hid (show ¬ (all.length : Int) - (pos : Int) < (n : Int) + (p : Int) by omega)
        have hsum : (pos : Int) + ((n : Int) + (p : Int)) ≤ (all.length : Int) := by omega
        have HZV := Lib.hid hzero
        have hsm : pos + (n + p) ≤ all.length := by omega
        clear hfit hzero
        rcases hcases with rfl | rfl
        · rw [if_pos rfl]
          obtain ⟨X, hX⟩ : ∃ X, X = (all.drop pos).take n := ⟨_, rfl⟩
          have hXl : X.length = n := by rw [hX, List.length_take, List.length_drop]; omega
          rw [← hX]
          have HX := Lib.hid hX
          have HXL := Lib.hid hXl
          clear hX hXl
          go_enter Tryd.func41, Tryd.ntmps41
          go_wp2_with fail
          refine HN.out.mono ?_
          rintro e w1 ⟨rfl, h, ht⟩
          obtain ⟨c2, f2⟩ := h.f2
          dsimp only at c2 f2
          have H := Lib.hid h
          have HT := Lib.hid ht
          clear h ht
          obtain ⟨v, hq0⟩ := H.out
          obtain ⟨hc, hv, hF, hp⟩ := id (show QV w1 rb v ⟨all, pos, 0⟩ F from hq0)
          dsimp only at hv hp
          obtain ⟨A, c, rfl, hrd, hA, hlc, hcm⟩ := id hv
          have K0 := Lib.hid (show QV w1 rb (.slice A all.length c) ⟨all, pos, 0⟩ F from hq0)
          have hc' : Cs w1 rb 68 #[.slice A all.length c, .int .i64 (pos : Int), .int .i64 0] := hc
          have c0 := hc'.cell 0 rfl
          have c1 := hc'.cell 1 rfl
          have HV := Lib.hid hv
          have HF := Lib.hid hF
          have hpos : pos ≤ all.length := hp
          have hlc' : all.length ≤ c := hlc
          clear hq0 hc hc' hv hrd hA hlc hcm hF hp
          have hz : ∀ u, Below w1.heap.size w1 u → Calls Tryd.prog 62 #[.slice A all.length c, .int .i64 ((pos : Int) + (n : Int)), .int .i64 (p : Int)] u fun e w' => e = .returned (.int .i64 0) ∧ u = w' := fun u hb => by
            obtain ⟨A', c', e, h1, h2, h3, h4⟩ := HV.out.below hb
            cases e
            have := ZeroRef_any all A c ((pos : Int) + (n : Int)) (p : Int) u (Nat.le_trans h3 h4) h3 h1.rd
            rwa [HZV.out] at this
          have HZ := Lib.hid hz
          clear hz
          have hsl : ∀ W, (Instr.slice 28 (.slice A all.length c) (some (.int .i64 (pos : Int))) (some (.int .i64 ((pos : Int) + (n : Int)))) none).run Tryd.prog W = .ok (.slice (cutA A pos c) n (c - pos)) W := fun W => by
            have := sl_lh A all.length c pos (pos + n) (by omega) (by omega) W
            rw [show pos + n - pos = n by omega] at this
            simpa using this
          have hcp : ∀ u, QV u rb (.slice A all.length c) ⟨all, pos, 0⟩ F → Calls Tryd.prog 21 #[.slice (cutA A pos c) n (c - pos)] u fun e w' => OwnRet u.heap.size X u e w' := fun u hq => by
            have hwin := hq.2.1.window pos (pos + n) (by omega) (show pos + n ≤ all.length by omega)
            rw [show pos + n - pos = n by omega, ← HX.out] at hwin
            obtain ⟨A', c', e, h1, h2, h3, h4⟩ := hwin
            rw [HXL.out] at e
            cases e
            have := Copy_any X (cutA A pos c) (c - pos) u (by rw [HXL.out]; omega) h1.rd h2
            rwa [HXL.out] at this
          have HCP0 := Lib.hid hcp
          clear hcp
          go_wp2_with fail
          refine (hpad _).mono ?_
          rintro e w' ⟨rfl, rfl⟩
          go_wp2_with fail
          refine wp_region_V [] (Below w1.heap.size w1) hmix ((Below.refl _ _).drew) ?_
          change wpAnyV _ _ _ _ _ _ _ _ _
          refine wpAnyV_take (i := 0) (v := .pointer (some ⟨rb, 0, none⟩)) 8 (kept_below w1) rfl (by kernel_rfl) (by kernel_rfl) (fun _ _ _ h => h) (fun _ h => h) (DoesV.reads (by rfl) fun w9 hS => by go_simp) ?_
          try simp only [List.getElem_toArray, List.getElem_cons_succ, List.getElem_cons_zero, Act.put, List.setIfInBounds_toArray, List.set_cons_succ, List.set_cons_zero]
          refine wpAnyV_take (i := 1) (v := .pointer (some ⟨rb, 0, none⟩)) 8 (kept_below w1) rfl (by kernel_rfl) (by kernel_rfl) (fun _ _ _ h => h) (fun _ h => h) (DoesV.reads (by rfl) fun w9 hS => by go_simp) ?_
          try simp only [List.getElem_toArray, List.getElem_cons_succ, List.getElem_cons_zero, Act.put, List.setIfInBounds_toArray, List.set_cons_succ, List.set_cons_zero]
          refine wpAnyV_take (i := 2) (v := .pointer (some ⟨rb, 0, none⟩)) 8 (kept_below w1) rfl (by kernel_rfl) (by kernel_rfl) (fun _ _ _ h => h) (fun _ h => h) (DoesV.reads (by rfl) fun w9 hS => by go_simp) ?_
          try simp only [List.getElem_toArray, List.getElem_cons_succ, List.getElem_cons_zero, Act.put, List.setIfInBounds_toArray, List.set_cons_succ, List.set_cons_zero]
          refine wpAnyV_take (i := 3) (v := .slice A all.length c) 8 (kept_below w1) rfl (by kernel_rfl) (by kernel_rfl) (fun _ _ _ h => h) (fun _ h => h) (DoesV.reads (by rfl) fun w9 hS => by have q0 := cell_b hS c0; go_simp) ?_
          try simp only [List.getElem_toArray, List.getElem_cons_succ, List.getElem_cons_zero, Act.put, List.setIfInBounds_toArray, List.set_cons_succ, List.set_cons_zero]
          refine wpAnyV_take (i := 4) (v := .int .i64 (all.length : Int)) 8 (kept_below w1) rfl (by kernel_rfl) (by kernel_rfl) (fun _ _ _ h => h) (fun _ h => h) (DoesV.reads (by rfl) fun w9 hS => by go_simp) ?_
          try simp only [List.getElem_toArray, List.getElem_cons_succ, List.getElem_cons_zero, Act.put, List.setIfInBounds_toArray, List.set_cons_succ, List.set_cons_zero]
          refine wpAnyV_take (i := 5) (v := .pointer (some ⟨rb, 0, none⟩)) 8 (kept_below w1) rfl (by kernel_rfl) (by kernel_rfl) (fun _ _ _ h => h) (fun _ h => h) (DoesV.reads (by rfl) fun w9 hS => by go_simp) ?_
          try simp only [List.getElem_toArray, List.getElem_cons_succ, List.getElem_cons_zero, Act.put, List.setIfInBounds_toArray, List.set_cons_succ, List.set_cons_zero]
          refine wpAnyV_take (i := 6) (v := .pointer (some ⟨rb, 0, none⟩)) 8 (kept_below w1) rfl (by kernel_rfl) (by kernel_rfl) (fun _ _ _ h => h) (fun _ h => h) (DoesV.reads (by rfl) fun w9 hS => by go_simp) ?_
          try simp only [List.getElem_toArray, List.getElem_cons_succ, List.getElem_cons_zero, Act.put, List.setIfInBounds_toArray, List.set_cons_succ, List.set_cons_zero]
          refine wpAnyV_take (i := 7) (v := .pointer (some ⟨rb, 1, none⟩)) 8 (kept_below w1) rfl (by kernel_rfl) (by kernel_rfl) (fun _ _ _ h => h) (fun _ h => h) (DoesV.reads (by rfl) fun w9 hS => by go_simp) ?_
          try simp only [List.getElem_toArray, List.getElem_cons_succ, List.getElem_cons_zero, Act.put, List.setIfInBounds_toArray, List.set_cons_succ, List.set_cons_zero]
          refine wpAnyV_take (i := 8) (v := .int .i64 (pos : Int)) 8 (kept_below w1) rfl (by kernel_rfl) (by kernel_rfl) (fun _ _ _ h => h) (fun _ h => h) (DoesV.reads (by rfl) fun w9 hS => by have q0 := cell_b hS c1; go_simp) ?_
          try simp only [List.getElem_toArray, List.getElem_cons_succ, List.getElem_cons_zero, Act.put, List.setIfInBounds_toArray, List.set_cons_succ, List.set_cons_zero]
          refine wpAnyV_take (i := 9) (v := .int .i64 ((all.length : Int) - (pos : Int))) 8 (kept_below w1) rfl (by kernel_rfl) (by kernel_rfl) (fun _ _ _ h => h) (fun _ h => h) (DoesV.reads (by rfl) fun w9 hS => by go_simp; simp (disch := omega) only [IntWalk.i64_in, IntWalk.u32_in, IntWalk.u64_in]) ?_
          try simp only [List.getElem_toArray, List.getElem_cons_succ, List.getElem_cons_zero, Act.put, List.setIfInBounds_toArray, List.set_cons_succ, List.set_cons_zero]
          refine wpAnyV_take (i := 10) (v := .int .i64 (n : Int)) 8 (kept_below w1) rfl (by kernel_rfl) (by kernel_rfl) (fun _ _ _ h => h) (fun _ h => h) (DoesV.reads (by rfl) fun w9 hS => by go_simp) ?_
          try simp only [List.getElem_toArray, List.getElem_cons_succ, List.getElem_cons_zero, Act.put, List.setIfInBounds_toArray, List.set_cons_succ, List.set_cons_zero]
          refine wpAnyV_take (i := 11) (v := .int .i64 (p : Int)) 8 (kept_below w1) rfl (by kernel_rfl) (by kernel_rfl) (fun _ _ _ h => h) (fun _ h => h) (DoesV.reads (by rfl) fun w9 hS => by go_simp) ?_
          try simp only [List.getElem_toArray, List.getElem_cons_succ, List.getElem_cons_zero, Act.put, List.setIfInBounds_toArray, List.set_cons_succ, List.set_cons_zero]
          refine wpAnyV_take (i := 12) (v := .int .i64 ((n : Int) + (p : Int))) 8 (kept_below w1) rfl (by kernel_rfl) (by kernel_rfl) (fun _ _ _ h => h) (fun _ h => h) (DoesV.reads (by rfl) fun w9 hS => by go_simp; simp (disch := omega) only [IntWalk.i64_in, IntWalk.u32_in, IntWalk.u64_in]) ?_
          try simp only [List.getElem_toArray, List.getElem_cons_succ, List.getElem_cons_zero, Act.put, List.setIfInBounds_toArray, List.set_cons_succ, List.set_cons_zero]
          refine wpAnyV_take (i := 13) (v := .bool false) 8 (kept_below w1) rfl (by kernel_rfl) (by kernel_rfl) (fun _ _ _ h => h) (fun _ h => h) (DoesV.reads (by rfl) fun w9 hS => by have q0 := HLT.out; go_simp) ?_
          try simp only [List.getElem_toArray, List.getElem_cons_succ, List.getElem_cons_zero, Act.put, List.setIfInBounds_toArray, List.set_cons_succ, List.set_cons_zero]
          refine wpAnyV_done (by kernel_rfl) (fun y hu => ?_) _
          have B1 := Lib.hid hu
          have e0 := cell_b hu c0
          have e1 := cell_b hu c1
          have K1 := Lib.hid (K0.out.below hu)
          clear hu c0 c1 c2 f2
          go_wp2_with fail
          refine wp_region_V [15] (Below y.heap.size y) hmix ((Below.refl _ _).drew) ?_
          change wpAnyV _ _ _ _ _ _ _ _ _
          refine wpAnyV_take (i := 0) (v := .pointer (some ⟨rb, 0, none⟩)) 8 (kept_below y) rfl (by kernel_rfl) (by kernel_rfl) (fun _ _ _ h => h) (fun _ h => h) (DoesV.reads (by rfl) fun w9 hS => by go_simp) ?_
          try simp only [List.getElem_toArray, List.getElem_cons_succ, List.getElem_cons_zero, Act.put, List.setIfInBounds_toArray, List.set_cons_succ, List.set_cons_zero]
          refine wpAnyV_take (i := 1) (v := .pointer (some ⟨rb, 0, none⟩)) 8 (kept_below y) rfl (by kernel_rfl) (by kernel_rfl) (fun _ _ _ h => h) (fun _ h => h) (DoesV.reads (by rfl) fun w9 hS => by go_simp) ?_
          try simp only [List.getElem_toArray, List.getElem_cons_succ, List.getElem_cons_zero, Act.put, List.setIfInBounds_toArray, List.set_cons_succ, List.set_cons_zero]
          refine wpAnyV_take (i := 2) (v := .pointer (some ⟨rb, 0, none⟩)) 8 (kept_below y) rfl (by kernel_rfl) (by kernel_rfl) (fun _ _ _ h => h) (fun _ h => h) (DoesV.reads (by rfl) fun w9 hS => by go_simp) ?_
          try simp only [List.getElem_toArray, List.getElem_cons_succ, List.getElem_cons_zero, Act.put, List.setIfInBounds_toArray, List.set_cons_succ, List.set_cons_zero]
          refine wpAnyV_take (i := 3) (v := .pointer (some ⟨rb, 0, none⟩)) 8 (kept_below y) rfl (by kernel_rfl) (by kernel_rfl) (fun _ _ _ h => h) (fun _ h => h) (DoesV.reads (by rfl) fun w9 hS => by go_simp) ?_
          try simp only [List.getElem_toArray, List.getElem_cons_succ, List.getElem_cons_zero, Act.put, List.setIfInBounds_toArray, List.set_cons_succ, List.set_cons_zero]
          refine wpAnyV_take (i := 4) (v := .slice A all.length c) 8 (kept_below y) rfl (by kernel_rfl) (by kernel_rfl) (fun _ _ _ h => h) (fun _ h => h) (DoesV.reads (by rfl) fun w9 hS => by have q0 := cell_b hS e0; go_simp) ?_
          try simp only [List.getElem_toArray, List.getElem_cons_succ, List.getElem_cons_zero, Act.put, List.setIfInBounds_toArray, List.set_cons_succ, List.set_cons_zero]
          refine wpAnyV_take (i := 5) (v := .pointer (some ⟨rb, 0, none⟩)) 8 (kept_below y) rfl (by kernel_rfl) (by kernel_rfl) (fun _ _ _ h => h) (fun _ h => h) (DoesV.reads (by rfl) fun w9 hS => by go_simp) ?_
          try simp only [List.getElem_toArray, List.getElem_cons_succ, List.getElem_cons_zero, Act.put, List.setIfInBounds_toArray, List.set_cons_succ, List.set_cons_zero]
          refine wpAnyV_take (i := 6) (v := .pointer (some ⟨rb, 0, none⟩)) 8 (kept_below y) rfl (by kernel_rfl) (by kernel_rfl) (fun _ _ _ h => h) (fun _ h => h) (DoesV.reads (by rfl) fun w9 hS => by go_simp) ?_
          try simp only [List.getElem_toArray, List.getElem_cons_succ, List.getElem_cons_zero, Act.put, List.setIfInBounds_toArray, List.set_cons_succ, List.set_cons_zero]
          refine wpAnyV_take (i := 7) (v := .pointer (some ⟨rb, 1, none⟩)) 8 (kept_below y) rfl (by kernel_rfl) (by kernel_rfl) (fun _ _ _ h => h) (fun _ h => h) (DoesV.reads (by rfl) fun w9 hS => by go_simp) ?_
          try simp only [List.getElem_toArray, List.getElem_cons_succ, List.getElem_cons_zero, Act.put, List.setIfInBounds_toArray, List.set_cons_succ, List.set_cons_zero]
          refine wpAnyV_take (i := 8) (v := .int .i64 (pos : Int)) 8 (kept_below y) rfl (by kernel_rfl) (by kernel_rfl) (fun _ _ _ h => h) (fun _ h => h) (DoesV.reads (by rfl) fun w9 hS => by have q0 := cell_b hS e1; go_simp) ?_
          try simp only [List.getElem_toArray, List.getElem_cons_succ, List.getElem_cons_zero, Act.put, List.setIfInBounds_toArray, List.set_cons_succ, List.set_cons_zero]
          refine wpAnyV_take (i := 9) (v := .int .i64 (n : Int)) 8 (kept_below y) rfl (by kernel_rfl) (by kernel_rfl) (fun _ _ _ h => h) (fun _ h => h) (DoesV.reads (by rfl) fun w9 hS => by go_simp) ?_
          try simp only [List.getElem_toArray, List.getElem_cons_succ, List.getElem_cons_zero, Act.put, List.setIfInBounds_toArray, List.set_cons_succ, List.set_cons_zero]
          refine wpAnyV_take (i := 10) (v := .int .i64 ((pos : Int) + (n : Int))) 8 (kept_below y) rfl (by kernel_rfl) (by kernel_rfl) (fun _ _ _ h => h) (fun _ h => h) (DoesV.reads (by rfl) fun w9 hS => by go_simp; simp (disch := omega) only [IntWalk.i64_in, IntWalk.u32_in, IntWalk.u64_in]) ?_
          try simp only [List.getElem_toArray, List.getElem_cons_succ, List.getElem_cons_zero, Act.put, List.setIfInBounds_toArray, List.set_cons_succ, List.set_cons_zero]
          refine wpAnyV_take (i := 11) (v := .int .i64 (p : Int)) 8 (kept_below y) rfl (by kernel_rfl) (by kernel_rfl) (fun _ _ _ h => h) (fun _ h => h) (DoesV.reads (by rfl) fun w9 hS => by go_simp) ?_
          try simp only [List.getElem_toArray, List.getElem_cons_succ, List.getElem_cons_zero, Act.put, List.setIfInBounds_toArray, List.set_cons_succ, List.set_cons_zero]
          refine wpAnyV_take (i := 12) (v := .int .i64 0) 8 (kept_below y) rfl (by kernel_rfl) (by kernel_rfl) (fun _ _ _ h => h) (fun _ h => h) (DoesV.calls 62 #[.slice A all.length c, .int .i64 ((pos : Int) + (n : Int)), .int .i64 (p : Int)] (by rfl) (fun w9 hS => by go_simp) (fun w9 hS => (HZ.out w9 (below_chain B1.out hS)).mono fun e u ⟨h1, h2⟩ => ⟨h1, h2 ▸ Below.refl _ _⟩)) ?_
          try simp only [List.getElem_toArray, List.getElem_cons_succ, List.getElem_cons_zero, Act.put, List.setIfInBounds_toArray, List.set_cons_succ, List.set_cons_zero]
          refine wpAnyV_take (i := 13) (v := .pointer (some ⟨rb, 0, none⟩)) 8 (kept_below y) rfl (by kernel_rfl) (by kernel_rfl) (fun _ _ _ h => h) (fun _ h => h) (DoesV.reads (by rfl) fun w9 hS => by go_simp) ?_
          try simp only [List.getElem_toArray, List.getElem_cons_succ, List.getElem_cons_zero, Act.put, List.setIfInBounds_toArray, List.set_cons_succ, List.set_cons_zero]
          refine wpAnyV_take (i := 14) (v := .pointer (some ⟨rb, 2, none⟩)) 8 (kept_below y) rfl (by kernel_rfl) (by kernel_rfl) (fun _ _ _ h => h) (fun _ h => h) (DoesV.reads (by rfl) fun w9 hS => by go_simp) ?_
          try simp only [List.getElem_toArray, List.getElem_cons_succ, List.getElem_cons_zero, Act.put, List.setIfInBounds_toArray, List.set_cons_succ, List.set_cons_zero]
          refine wpAnyV_only (i := 15) rfl (by kernel_rfl) rfl (fun u hS => wp_store1 34 _ _ rfl rb 2 rfl (.int .i64 0) rfl rfl (by kernel_rfl) 68 _ (K1.out.below hS).1 (by simp) fun u' hk ht => ⟨fun u => QV u rb (.slice A all.length c) ⟨all, pos, 0⟩ F ∧ Turn y u (· = rb), ⟨(K1.out.below hS).stored hk ht, (Turn.of_below hS _).trans ht fun _ _ h => h⟩, kept_and (kept_q _ _ _ _) (kept_turnQ _ _), fun h => absurd (by simp) h, ?_⟩)
          try simp only [List.getElem_toArray, List.getElem_cons_succ, List.getElem_cons_zero, Act.put, List.setIfInBounds_toArray, List.set_cons_succ, List.set_cons_zero]
          refine wpAnyV_done (by kernel_rfl) (fun y2 hu => ?_) _
          obtain ⟨hq, ht⟩ := hu
          have d0 : y2.cell? ⟨rb, 0, none⟩ = some (.slice A all.length c) := hq.1.cell 0 rfl
          have d1 : y2.cell? ⟨rb, 1, none⟩ = some (.int .i64 (pos : Int)) := hq.1.cell 1 rfl
          have d2 : y2.cell? ⟨rb, 2, none⟩ = some (.int .i64 0) := hq.1.cell 2 rfl
          have K2 := Lib.hid hq
          have T2 := Lib.hid (((HT.out.trans (Turn.of_below B1.out _) fun _ _ h => h).trans ht fun _ _ h => h))
          clear hq ht e0 e1
          go_wp2_with fail
          have HCP := Lib.hid (fun u (hb : Below y2.heap.size y2 u) => HCP0.out u (K2.out.below hb))
          refine wp_region_V [] (Below y2.heap.size y2) hmix ((Below.refl _ _).drew) ?_
          change wpAnyV _ _ _ _ _ _ _ _ _
          refine wpAnyV_take (i := 0) (v := .pointer (some ⟨rb, 0, none⟩)) 8 (kept_below y2) rfl (by kernel_rfl) (by kernel_rfl) (fun _ _ _ h => h) (fun _ h => h) (DoesV.reads (by rfl) fun w9 hS => by go_simp) ?_
          try simp only [List.getElem_toArray, List.getElem_cons_succ, List.getElem_cons_zero, Act.put, List.setIfInBounds_toArray, List.set_cons_succ, List.set_cons_zero]
          refine wpAnyV_take (i := 1) (v := .pointer (some ⟨rb, 0, none⟩)) 8 (kept_below y2) rfl (by kernel_rfl) (by kernel_rfl) (fun _ _ _ h => h) (fun _ h => h) (DoesV.reads (by rfl) fun w9 hS => by go_simp) ?_
          try simp only [List.getElem_toArray, List.getElem_cons_succ, List.getElem_cons_zero, Act.put, List.setIfInBounds_toArray, List.set_cons_succ, List.set_cons_zero]
          refine wpAnyV_take (i := 2) (v := .pointer (some ⟨rb, 0, none⟩)) 8 (kept_below y2) rfl (by kernel_rfl) (by kernel_rfl) (fun _ _ _ h => h) (fun _ h => h) (DoesV.reads (by rfl) fun w9 hS => by go_simp) ?_
          try simp only [List.getElem_toArray, List.getElem_cons_succ, List.getElem_cons_zero, Act.put, List.setIfInBounds_toArray, List.set_cons_succ, List.set_cons_zero]
          refine wpAnyV_take (i := 3) (v := .slice A all.length c) 8 (kept_below y2) rfl (by kernel_rfl) (by kernel_rfl) (fun _ _ _ h => h) (fun _ h => h) (DoesV.reads (by rfl) fun w9 hS => by have q0 := cell_b hS d0; go_simp) ?_
          try simp only [List.getElem_toArray, List.getElem_cons_succ, List.getElem_cons_zero, Act.put, List.setIfInBounds_toArray, List.set_cons_succ, List.set_cons_zero]
          refine wpAnyV_take (i := 4) (v := .pointer (some ⟨rb, 0, none⟩)) 8 (kept_below y2) rfl (by kernel_rfl) (by kernel_rfl) (fun _ _ _ h => h) (fun _ h => h) (DoesV.reads (by rfl) fun w9 hS => by go_simp) ?_
          try simp only [List.getElem_toArray, List.getElem_cons_succ, List.getElem_cons_zero, Act.put, List.setIfInBounds_toArray, List.set_cons_succ, List.set_cons_zero]
          refine wpAnyV_take (i := 5) (v := .pointer (some ⟨rb, 0, none⟩)) 8 (kept_below y2) rfl (by kernel_rfl) (by kernel_rfl) (fun _ _ _ h => h) (fun _ h => h) (DoesV.reads (by rfl) fun w9 hS => by go_simp) ?_
          try simp only [List.getElem_toArray, List.getElem_cons_succ, List.getElem_cons_zero, Act.put, List.setIfInBounds_toArray, List.set_cons_succ, List.set_cons_zero]
          refine wpAnyV_take (i := 6) (v := .pointer (some ⟨rb, 1, none⟩)) 8 (kept_below y2) rfl (by kernel_rfl) (by kernel_rfl) (fun _ _ _ h => h) (fun _ h => h) (DoesV.reads (by rfl) fun w9 hS => by go_simp) ?_
          try simp only [List.getElem_toArray, List.getElem_cons_succ, List.getElem_cons_zero, Act.put, List.setIfInBounds_toArray, List.set_cons_succ, List.set_cons_zero]
          refine wpAnyV_take (i := 7) (v := .int .i64 (pos : Int)) 8 (kept_below y2) rfl (by kernel_rfl) (by kernel_rfl) (fun _ _ _ h => h) (fun _ h => h) (DoesV.reads (by rfl) fun w9 hS => by have q0 := cell_b hS d1; go_simp) ?_
          try simp only [List.getElem_toArray, List.getElem_cons_succ, List.getElem_cons_zero, Act.put, List.setIfInBounds_toArray, List.set_cons_succ, List.set_cons_zero]
          refine wpAnyV_take (i := 8) (v := .pointer (some ⟨rb, 0, none⟩)) 8 (kept_below y2) rfl (by kernel_rfl) (by kernel_rfl) (fun _ _ _ h => h) (fun _ h => h) (DoesV.reads (by rfl) fun w9 hS => by go_simp) ?_
          try simp only [List.getElem_toArray, List.getElem_cons_succ, List.getElem_cons_zero, Act.put, List.setIfInBounds_toArray, List.set_cons_succ, List.set_cons_zero]
          refine wpAnyV_take (i := 9) (v := .pointer (some ⟨rb, 0, none⟩)) 8 (kept_below y2) rfl (by kernel_rfl) (by kernel_rfl) (fun _ _ _ h => h) (fun _ h => h) (DoesV.reads (by rfl) fun w9 hS => by go_simp) ?_
          try simp only [List.getElem_toArray, List.getElem_cons_succ, List.getElem_cons_zero, Act.put, List.setIfInBounds_toArray, List.set_cons_succ, List.set_cons_zero]
          refine wpAnyV_take (i := 10) (v := .pointer (some ⟨rb, 1, none⟩)) 8 (kept_below y2) rfl (by kernel_rfl) (by kernel_rfl) (fun _ _ _ h => h) (fun _ h => h) (DoesV.reads (by rfl) fun w9 hS => by go_simp) ?_
          try simp only [List.getElem_toArray, List.getElem_cons_succ, List.getElem_cons_zero, Act.put, List.setIfInBounds_toArray, List.set_cons_succ, List.set_cons_zero]
          refine wpAnyV_take (i := 11) (v := .int .i64 (pos : Int)) 8 (kept_below y2) rfl (by kernel_rfl) (by kernel_rfl) (fun _ _ _ h => h) (fun _ h => h) (DoesV.reads (by rfl) fun w9 hS => by have q0 := cell_b hS d1; go_simp) ?_
          try simp only [List.getElem_toArray, List.getElem_cons_succ, List.getElem_cons_zero, Act.put, List.setIfInBounds_toArray, List.set_cons_succ, List.set_cons_zero]
          refine wpAnyV_take (i := 12) (v := .int .i64 (n : Int)) 8 (kept_below y2) rfl (by kernel_rfl) (by kernel_rfl) (fun _ _ _ h => h) (fun _ h => h) (DoesV.reads (by rfl) fun w9 hS => by go_simp) ?_
          try simp only [List.getElem_toArray, List.getElem_cons_succ, List.getElem_cons_zero, Act.put, List.setIfInBounds_toArray, List.set_cons_succ, List.set_cons_zero]
          refine wpAnyV_take (i := 13) (v := .int .i64 ((pos : Int) + (n : Int))) 8 (kept_below y2) rfl (by kernel_rfl) (by kernel_rfl) (fun _ _ _ h => h) (fun _ h => h) (DoesV.reads (by rfl) fun w9 hS => by go_simp; simp (disch := omega) only [IntWalk.i64_in, IntWalk.u32_in, IntWalk.u64_in]) ?_
          try simp only [List.getElem_toArray, List.getElem_cons_succ, List.getElem_cons_zero, Act.put, List.setIfInBounds_toArray, List.set_cons_succ, List.set_cons_zero]
          refine wpAnyV_take (i := 14) (v := .slice (cutA A pos c) n (c - pos)) 8 (kept_below y2) rfl (by kernel_rfl) (by kernel_rfl) (fun _ _ _ h => h) (fun _ h => h) (DoesV.reads (by rfl) fun w9 hS => by go_simp) ?_
          try simp only [List.getElem_toArray, List.getElem_cons_succ, List.getElem_cons_zero, Act.put, List.setIfInBounds_toArray, List.set_cons_succ, List.set_cons_zero]
          refine wpAnyV_only (i := 15) rfl (by kernel_rfl) rfl (fun u hS => wp_of_call (by go_simp) (HCP.out u hS) fun e u' ⟨v1, he, ho, hb⟩ => ⟨v1, he, fun x => Below y2.heap.size y2 x ∧ BsV x (y2.heap.size ≤ ·) v1 X, ⟨below_chain hS hb, (BsV.own ho).mono fun k _ hk => Nat.le_trans hS.size hk⟩, kept_and (kept_below y2) (kept_bsQ _ _ _), fun _ u h => h.1, ?_⟩)
          try simp only [List.getElem_toArray, List.getElem_cons_succ, List.getElem_cons_zero, Act.put, List.setIfInBounds_toArray, List.set_cons_succ, List.set_cons_zero]
          obtain ⟨A1, N1, c1, rfl⟩ := (BsV.own ho).slice
          refine wpAnyV_pure (i := 16) (v := .slice A1 N1 c1) (kept_and (kept_below y2) (kept_bsQ _ _ _)) rfl (by kernel_rfl) (by kernel_rfl) (fun _ _ _ h => h) (DoesV.reads (by rfl) fun w9 hS => by go_simp) ?_
          try simp only [List.getElem_toArray, List.getElem_cons_succ, List.getElem_cons_zero, Act.put, List.setIfInBounds_toArray, List.set_cons_succ, List.set_cons_zero]
          refine wpAnyV_done (by kernel_rfl) (fun y3 hu => ?_) _
          obtain ⟨hb3, hbs⟩ := hu
          have K3 := Lib.hid (K2.out.below hb3)
          obtain ⟨g1, h1⟩ := K3.out.at.f1
          dsimp only at g1
          have B3 := Lib.hid hb3
          have S3 := Lib.hid hbs
          clear hb3 hbs d0 d1 d2
          go_wp2_with fail
          go_ret
          have hT : Turn w y3 (· = rb) := T2.out.trans (Turn.of_below B3.out _) fun _ _ h => h
          have hgo := K3.out.at.go (pos + (n + p)) hsm
          have e9 : ((pos + (n + p) : Nat) : Int) = (pos : Int) + (n : Int) + (p : Int) := by omega
          rw [e9] at hgo
          have hs2 := T2.out.size
          exact ⟨_, rfl, (S3.out.mono (G := fun k => w.heap.size ≤ k ∧ k ≠ rb) fun k _ h => ⟨by omega, fun e => by have := K2.out.1.lt; omega⟩).turn (Turn.setAt y3 rb 1 _) (fun k hk e => hk.2 e) |>.mono fun k _ h => h.1, hgo, hT.trans (Turn.setAt y3 rb 1 _) fun _ _ h => h⟩
        · rw [if_neg (by decide)]
          go_enter Tryd.func41, Tryd.ntmps41
          go_wp2_with fail
          refine HN.out.mono ?_
          rintro e w1 ⟨rfl, h, ht⟩
          obtain ⟨c2, f2⟩ := h.f2
          dsimp only at c2 f2
          have H := Lib.hid h
          have HT := Lib.hid ht
          clear h ht
          obtain ⟨v, hq0⟩ := H.out
          obtain ⟨hc, hv, hF, hp⟩ := id (show QV w1 rb v ⟨all, pos, 0⟩ F from hq0)
          dsimp only at hv hp
          obtain ⟨A, c, rfl, hrd, hA, hlc, hcm⟩ := id hv
          have K0 := Lib.hid (show QV w1 rb (.slice A all.length c) ⟨all, pos, 0⟩ F from hq0)
          have hc' : Cs w1 rb 68 #[.slice A all.length c, .int .i64 (pos : Int), .int .i64 0] := hc
          have c0 := hc'.cell 0 rfl
          have c1 := hc'.cell 1 rfl
          have HV := Lib.hid hv
          have HF := Lib.hid hF
          have hpos : pos ≤ all.length := hp
          have hlc' : all.length ≤ c := hlc
          clear hq0 hc hc' hv hrd hA hlc hcm hF hp
          have hz : ∀ u, Below w1.heap.size w1 u → Calls Tryd.prog 62 #[.slice A all.length c, .int .i64 ((pos : Int) + (n : Int)), .int .i64 (p : Int)] u fun e w' => e = .returned (.int .i64 5) ∧ u = w' := fun u hb => by
            obtain ⟨A', c', e, h1, h2, h3, h4⟩ := HV.out.below hb
            cases e
            have := ZeroRef_any all A c ((pos : Int) + (n : Int)) (p : Int) u (Nat.le_trans h3 h4) h3 h1.rd
            rwa [HZV.out] at this
          have HZ := Lib.hid hz
          clear hz
          go_wp2_with fail
          refine (hpad _).mono ?_
          rintro e w' ⟨rfl, rfl⟩
          go_wp2_with fail
          refine wp_region_V [] (Below w1.heap.size w1) hmix ((Below.refl _ _).drew) ?_
          change wpAnyV _ _ _ _ _ _ _ _ _
          refine wpAnyV_take (i := 0) (v := .pointer (some ⟨rb, 0, none⟩)) 8 (kept_below w1) rfl (by kernel_rfl) (by kernel_rfl) (fun _ _ _ h => h) (fun _ h => h) (DoesV.reads (by rfl) fun w9 hS => by go_simp) ?_
          try simp only [List.getElem_toArray, List.getElem_cons_succ, List.getElem_cons_zero, Act.put, List.setIfInBounds_toArray, List.set_cons_succ, List.set_cons_zero]
          refine wpAnyV_take (i := 1) (v := .pointer (some ⟨rb, 0, none⟩)) 8 (kept_below w1) rfl (by kernel_rfl) (by kernel_rfl) (fun _ _ _ h => h) (fun _ h => h) (DoesV.reads (by rfl) fun w9 hS => by go_simp) ?_
          try simp only [List.getElem_toArray, List.getElem_cons_succ, List.getElem_cons_zero, Act.put, List.setIfInBounds_toArray, List.set_cons_succ, List.set_cons_zero]
          refine wpAnyV_take (i := 2) (v := .pointer (some ⟨rb, 0, none⟩)) 8 (kept_below w1) rfl (by kernel_rfl) (by kernel_rfl) (fun _ _ _ h => h) (fun _ h => h) (DoesV.reads (by rfl) fun w9 hS => by go_simp) ?_
          try simp only [List.getElem_toArray, List.getElem_cons_succ, List.getElem_cons_zero, Act.put, List.setIfInBounds_toArray, List.set_cons_succ, List.set_cons_zero]
          refine wpAnyV_take (i := 3) (v := .slice A all.length c) 8 (kept_below w1) rfl (by kernel_rfl) (by kernel_rfl) (fun _ _ _ h => h) (fun _ h => h) (DoesV.reads (by rfl) fun w9 hS => by have q0 := cell_b hS c0; go_simp) ?_
          try simp only [List.getElem_toArray, List.getElem_cons_succ, List.getElem_cons_zero, Act.put, List.setIfInBounds_toArray, List.set_cons_succ, List.set_cons_zero]
          refine wpAnyV_take (i := 4) (v := .int .i64 (all.length : Int)) 8 (kept_below w1) rfl (by kernel_rfl) (by kernel_rfl) (fun _ _ _ h => h) (fun _ h => h) (DoesV.reads (by rfl) fun w9 hS => by go_simp) ?_
          try simp only [List.getElem_toArray, List.getElem_cons_succ, List.getElem_cons_zero, Act.put, List.setIfInBounds_toArray, List.set_cons_succ, List.set_cons_zero]
          refine wpAnyV_take (i := 5) (v := .pointer (some ⟨rb, 0, none⟩)) 8 (kept_below w1) rfl (by kernel_rfl) (by kernel_rfl) (fun _ _ _ h => h) (fun _ h => h) (DoesV.reads (by rfl) fun w9 hS => by go_simp) ?_
          try simp only [List.getElem_toArray, List.getElem_cons_succ, List.getElem_cons_zero, Act.put, List.setIfInBounds_toArray, List.set_cons_succ, List.set_cons_zero]
          refine wpAnyV_take (i := 6) (v := .pointer (some ⟨rb, 0, none⟩)) 8 (kept_below w1) rfl (by kernel_rfl) (by kernel_rfl) (fun _ _ _ h => h) (fun _ h => h) (DoesV.reads (by rfl) fun w9 hS => by go_simp) ?_
          try simp only [List.getElem_toArray, List.getElem_cons_succ, List.getElem_cons_zero, Act.put, List.setIfInBounds_toArray, List.set_cons_succ, List.set_cons_zero]
          refine wpAnyV_take (i := 7) (v := .pointer (some ⟨rb, 1, none⟩)) 8 (kept_below w1) rfl (by kernel_rfl) (by kernel_rfl) (fun _ _ _ h => h) (fun _ h => h) (DoesV.reads (by rfl) fun w9 hS => by go_simp) ?_
          try simp only [List.getElem_toArray, List.getElem_cons_succ, List.getElem_cons_zero, Act.put, List.setIfInBounds_toArray, List.set_cons_succ, List.set_cons_zero]
          refine wpAnyV_take (i := 8) (v := .int .i64 (pos : Int)) 8 (kept_below w1) rfl (by kernel_rfl) (by kernel_rfl) (fun _ _ _ h => h) (fun _ h => h) (DoesV.reads (by rfl) fun w9 hS => by have q0 := cell_b hS c1; go_simp) ?_
          try simp only [List.getElem_toArray, List.getElem_cons_succ, List.getElem_cons_zero, Act.put, List.setIfInBounds_toArray, List.set_cons_succ, List.set_cons_zero]
          refine wpAnyV_take (i := 9) (v := .int .i64 ((all.length : Int) - (pos : Int))) 8 (kept_below w1) rfl (by kernel_rfl) (by kernel_rfl) (fun _ _ _ h => h) (fun _ h => h) (DoesV.reads (by rfl) fun w9 hS => by go_simp; simp (disch := omega) only [IntWalk.i64_in, IntWalk.u32_in, IntWalk.u64_in]) ?_
          try simp only [List.getElem_toArray, List.getElem_cons_succ, List.getElem_cons_zero, Act.put, List.setIfInBounds_toArray, List.set_cons_succ, List.set_cons_zero]
          refine wpAnyV_take (i := 10) (v := .int .i64 (n : Int)) 8 (kept_below w1) rfl (by kernel_rfl) (by kernel_rfl) (fun _ _ _ h => h) (fun _ h => h) (DoesV.reads (by rfl) fun w9 hS => by go_simp) ?_
          try simp only [List.getElem_toArray, List.getElem_cons_succ, List.getElem_cons_zero, Act.put, List.setIfInBounds_toArray, List.set_cons_succ, List.set_cons_zero]
          refine wpAnyV_take (i := 11) (v := .int .i64 (p : Int)) 8 (kept_below w1) rfl (by kernel_rfl) (by kernel_rfl) (fun _ _ _ h => h) (fun _ h => h) (DoesV.reads (by rfl) fun w9 hS => by go_simp) ?_
          try simp only [List.getElem_toArray, List.getElem_cons_succ, List.getElem_cons_zero, Act.put, List.setIfInBounds_toArray, List.set_cons_succ, List.set_cons_zero]
          refine wpAnyV_take (i := 12) (v := .int .i64 ((n : Int) + (p : Int))) 8 (kept_below w1) rfl (by kernel_rfl) (by kernel_rfl) (fun _ _ _ h => h) (fun _ h => h) (DoesV.reads (by rfl) fun w9 hS => by go_simp; simp (disch := omega) only [IntWalk.i64_in, IntWalk.u32_in, IntWalk.u64_in]) ?_
          try simp only [List.getElem_toArray, List.getElem_cons_succ, List.getElem_cons_zero, Act.put, List.setIfInBounds_toArray, List.set_cons_succ, List.set_cons_zero]
          refine wpAnyV_take (i := 13) (v := .bool false) 8 (kept_below w1) rfl (by kernel_rfl) (by kernel_rfl) (fun _ _ _ h => h) (fun _ h => h) (DoesV.reads (by rfl) fun w9 hS => by have q0 := HLT.out; go_simp) ?_
          try simp only [List.getElem_toArray, List.getElem_cons_succ, List.getElem_cons_zero, Act.put, List.setIfInBounds_toArray, List.set_cons_succ, List.set_cons_zero]
          refine wpAnyV_done (by kernel_rfl) (fun y hu => ?_) _
          have B1 := Lib.hid hu
          have e0 := cell_b hu c0
          have e1 := cell_b hu c1
          have K1 := Lib.hid (K0.out.below hu)
          clear hu c0 c1 c2 f2
          go_wp2_with fail
          refine wp_region_V [15] (Below y.heap.size y) hmix ((Below.refl _ _).drew) ?_
          change wpAnyV _ _ _ _ _ _ _ _ _
          refine wpAnyV_take (i := 0) (v := .pointer (some ⟨rb, 0, none⟩)) 8 (kept_below y) rfl (by kernel_rfl) (by kernel_rfl) (fun _ _ _ h => h) (fun _ h => h) (DoesV.reads (by rfl) fun w9 hS => by go_simp) ?_
          try simp only [List.getElem_toArray, List.getElem_cons_succ, List.getElem_cons_zero, Act.put, List.setIfInBounds_toArray, List.set_cons_succ, List.set_cons_zero]
          refine wpAnyV_take (i := 1) (v := .pointer (some ⟨rb, 0, none⟩)) 8 (kept_below y) rfl (by kernel_rfl) (by kernel_rfl) (fun _ _ _ h => h) (fun _ h => h) (DoesV.reads (by rfl) fun w9 hS => by go_simp) ?_
          try simp only [List.getElem_toArray, List.getElem_cons_succ, List.getElem_cons_zero, Act.put, List.setIfInBounds_toArray, List.set_cons_succ, List.set_cons_zero]
          refine wpAnyV_take (i := 2) (v := .pointer (some ⟨rb, 0, none⟩)) 8 (kept_below y) rfl (by kernel_rfl) (by kernel_rfl) (fun _ _ _ h => h) (fun _ h => h) (DoesV.reads (by rfl) fun w9 hS => by go_simp) ?_
          try simp only [List.getElem_toArray, List.getElem_cons_succ, List.getElem_cons_zero, Act.put, List.setIfInBounds_toArray, List.set_cons_succ, List.set_cons_zero]
          refine wpAnyV_take (i := 3) (v := .pointer (some ⟨rb, 0, none⟩)) 8 (kept_below y) rfl (by kernel_rfl) (by kernel_rfl) (fun _ _ _ h => h) (fun _ h => h) (DoesV.reads (by rfl) fun w9 hS => by go_simp) ?_
          try simp only [List.getElem_toArray, List.getElem_cons_succ, List.getElem_cons_zero, Act.put, List.setIfInBounds_toArray, List.set_cons_succ, List.set_cons_zero]
          refine wpAnyV_take (i := 4) (v := .slice A all.length c) 8 (kept_below y) rfl (by kernel_rfl) (by kernel_rfl) (fun _ _ _ h => h) (fun _ h => h) (DoesV.reads (by rfl) fun w9 hS => by have q0 := cell_b hS e0; go_simp) ?_
          try simp only [List.getElem_toArray, List.getElem_cons_succ, List.getElem_cons_zero, Act.put, List.setIfInBounds_toArray, List.set_cons_succ, List.set_cons_zero]
          refine wpAnyV_take (i := 5) (v := .pointer (some ⟨rb, 0, none⟩)) 8 (kept_below y) rfl (by kernel_rfl) (by kernel_rfl) (fun _ _ _ h => h) (fun _ h => h) (DoesV.reads (by rfl) fun w9 hS => by go_simp) ?_
          try simp only [List.getElem_toArray, List.getElem_cons_succ, List.getElem_cons_zero, Act.put, List.setIfInBounds_toArray, List.set_cons_succ, List.set_cons_zero]
          refine wpAnyV_take (i := 6) (v := .pointer (some ⟨rb, 0, none⟩)) 8 (kept_below y) rfl (by kernel_rfl) (by kernel_rfl) (fun _ _ _ h => h) (fun _ h => h) (DoesV.reads (by rfl) fun w9 hS => by go_simp) ?_
          try simp only [List.getElem_toArray, List.getElem_cons_succ, List.getElem_cons_zero, Act.put, List.setIfInBounds_toArray, List.set_cons_succ, List.set_cons_zero]
          refine wpAnyV_take (i := 7) (v := .pointer (some ⟨rb, 1, none⟩)) 8 (kept_below y) rfl (by kernel_rfl) (by kernel_rfl) (fun _ _ _ h => h) (fun _ h => h) (DoesV.reads (by rfl) fun w9 hS => by go_simp) ?_
          try simp only [List.getElem_toArray, List.getElem_cons_succ, List.getElem_cons_zero, Act.put, List.setIfInBounds_toArray, List.set_cons_succ, List.set_cons_zero]
          refine wpAnyV_take (i := 8) (v := .int .i64 (pos : Int)) 8 (kept_below y) rfl (by kernel_rfl) (by kernel_rfl) (fun _ _ _ h => h) (fun _ h => h) (DoesV.reads (by rfl) fun w9 hS => by have q0 := cell_b hS e1; go_simp) ?_
          try simp only [List.getElem_toArray, List.getElem_cons_succ, List.getElem_cons_zero, Act.put, List.setIfInBounds_toArray, List.set_cons_succ, List.set_cons_zero]
          refine wpAnyV_take (i := 9) (v := .int .i64 (n : Int)) 8 (kept_below y) rfl (by kernel_rfl) (by kernel_rfl) (fun _ _ _ h => h) (fun _ h => h) (DoesV.reads (by rfl) fun w9 hS => by go_simp) ?_
          try simp only [List.getElem_toArray, List.getElem_cons_succ, List.getElem_cons_zero, Act.put, List.setIfInBounds_toArray, List.set_cons_succ, List.set_cons_zero]
          refine wpAnyV_take (i := 10) (v := .int .i64 ((pos : Int) + (n : Int))) 8 (kept_below y) rfl (by kernel_rfl) (by kernel_rfl) (fun _ _ _ h => h) (fun _ h => h) (DoesV.reads (by rfl) fun w9 hS => by go_simp; simp (disch := omega) only [IntWalk.i64_in, IntWalk.u32_in, IntWalk.u64_in]) ?_
          try simp only [List.getElem_toArray, List.getElem_cons_succ, List.getElem_cons_zero, Act.put, List.setIfInBounds_toArray, List.set_cons_succ, List.set_cons_zero]
          refine wpAnyV_take (i := 11) (v := .int .i64 (p : Int)) 8 (kept_below y) rfl (by kernel_rfl) (by kernel_rfl) (fun _ _ _ h => h) (fun _ h => h) (DoesV.reads (by rfl) fun w9 hS => by go_simp) ?_
          try simp only [List.getElem_toArray, List.getElem_cons_succ, List.getElem_cons_zero, Act.put, List.setIfInBounds_toArray, List.set_cons_succ, List.set_cons_zero]
          refine wpAnyV_take (i := 12) (v := .int .i64 5) 8 (kept_below y) rfl (by kernel_rfl) (by kernel_rfl) (fun _ _ _ h => h) (fun _ h => h) (DoesV.calls 62 #[.slice A all.length c, .int .i64 ((pos : Int) + (n : Int)), .int .i64 (p : Int)] (by rfl) (fun w9 hS => by go_simp) (fun w9 hS => (HZ.out w9 (below_chain B1.out hS)).mono fun e u ⟨h1, h2⟩ => ⟨h1, h2 ▸ Below.refl _ _⟩)) ?_
          try simp only [List.getElem_toArray, List.getElem_cons_succ, List.getElem_cons_zero, Act.put, List.setIfInBounds_toArray, List.set_cons_succ, List.set_cons_zero]
          refine wpAnyV_take (i := 13) (v := .pointer (some ⟨rb, 0, none⟩)) 8 (kept_below y) rfl (by kernel_rfl) (by kernel_rfl) (fun _ _ _ h => h) (fun _ h => h) (DoesV.reads (by rfl) fun w9 hS => by go_simp) ?_
          try simp only [List.getElem_toArray, List.getElem_cons_succ, List.getElem_cons_zero, Act.put, List.setIfInBounds_toArray, List.set_cons_succ, List.set_cons_zero]
          refine wpAnyV_take (i := 14) (v := .pointer (some ⟨rb, 2, none⟩)) 8 (kept_below y) rfl (by kernel_rfl) (by kernel_rfl) (fun _ _ _ h => h) (fun _ h => h) (DoesV.reads (by rfl) fun w9 hS => by go_simp) ?_
          try simp only [List.getElem_toArray, List.getElem_cons_succ, List.getElem_cons_zero, Act.put, List.setIfInBounds_toArray, List.set_cons_succ, List.set_cons_zero]
          refine wpAnyV_only (i := 15) rfl (by kernel_rfl) rfl (fun u hS => wp_store1 34 _ _ rfl rb 2 rfl (.int .i64 5) rfl rfl (by kernel_rfl) 68 _ (K1.out.below hS).1 (by simp) fun u' hk ht => ⟨fun u => QV u rb (.slice A all.length c) ⟨all, pos, 5⟩ F ∧ Turn y u (· = rb), ⟨(K1.out.below hS).stored hk ht, (Turn.of_below hS _).trans ht fun _ _ h => h⟩, kept_and (kept_q _ _ _ _) (kept_turnQ _ _), fun h => absurd (by simp) h, ?_⟩)
          try simp only [List.getElem_toArray, List.getElem_cons_succ, List.getElem_cons_zero, Act.put, List.setIfInBounds_toArray, List.set_cons_succ, List.set_cons_zero]
          refine wpAnyV_done (by kernel_rfl) (fun y2 hu => ?_) _
          obtain ⟨hq, ht⟩ := hu
          have d0 : y2.cell? ⟨rb, 0, none⟩ = some (.slice A all.length c) := hq.1.cell 0 rfl
          have d1 : y2.cell? ⟨rb, 1, none⟩ = some (.int .i64 (pos : Int)) := hq.1.cell 1 rfl
          have d2 : y2.cell? ⟨rb, 2, none⟩ = some (.int .i64 5) := hq.1.cell 2 rfl
          have K2 := Lib.hid hq
          have T2 := Lib.hid (((HT.out.trans (Turn.of_below B1.out _) fun _ _ h => h).trans ht fun _ _ h => h))
          clear hq ht e0 e1
          go_wp2_with fail
          go_ret
          exact ToldBQ.nil K2.out.at T2.out
  · have e0 : (err == 0) = false := by simpa using he
    have e1 : (err != 0) = true := by rw [bne, e0]; rfl
    rw [if_pos he]
    clear he
    go_enter Tryd.func41, Tryd.ntmps41
    go_wp2_with fail
    refine HN.out.mono ?_
    rintro e w1 ⟨rfl, h, ht⟩
    obtain ⟨c2, f2⟩ := h.f2
    dsimp only at c2 f2
    have H := Lib.hid h
    have HT := Lib.hid ht
    clear h ht
    go_wp2_with fail
    go_ret
    exact ToldBQ.nil H.out HT.out
set_option maxHeartbeats 8000000 in
theorem Bytes_qp {w : World} {rb : Nat} {s : RS} {F : Nat → Prop} (most : Int) (hm0 : -9223372036854775808 ≤ most) (hm1 : most ≤ 9223372036854775807) (hneg : 0 ≤ most) (hlen : s.all.length ≤ 140737488355328) (h : QAt w rb s F) :
    Calls Tryd.prog 41 #[.pointer (some ⟨rb, 0, none⟩), .int .i64 most] w fun e w' => ToldBQ rb (bytesR s most).2 F (bytesR s most).1 w e w' := by
  have hn := number4_q h
  obtain ⟨h0, h1⟩ := numR_four s
  have hal := numR_all s 4
  have hmix : Tryd.prog.follows .mixedOrders = true := by kernel_rfl
  rw [bytesR_is]
  clear h
  generalize (numR s 4).1 = nn at *
  generalize (numR s 4).2 = t at *
  obtain ⟨n, rfl⟩ := Int.eq_ofNat_of_zero_le h0
  rw [Int.toNat_natCast]
  have hn' : (n : Int) ≤ 4294967295 := h1
  have hn2 : n ≤ 4294967295 := by omega
  rw [← hal] at hlen
  have hM : max most 0 = most := by omega
  unfold bytesN
  rw [hM]
  clear h0 h1 hal hM
  obtain ⟨all, pos, err⟩ := t
  dsimp only at hlen hn ⊢
  have HN := Lib.hid hn
  clear hn
  by_cases he : err = 0
  · subst he
    rw [if_neg (by simp)]
    by_cases hlim : most < (n : Int)
    · rw [if_pos hlim]
      go_enter Tryd.func41, Tryd.ntmps41
      go_wp2_with fail
      refine HN.out.mono ?_
      rintro e w1 ⟨rfl, h, ht⟩
      obtain ⟨c2, f2⟩ := h.f2
      dsimp only at c2 f2
      have H := Lib.hid h
      have HT := Lib.hid ht
      clear h ht
      go_wp2_with fail
      go_ret
      exact ToldBQ.nil (H.out.fail rfl) (HT.out.trans (Turn.setAt w1 rb 2 _) fun _ _ h => h)
    · rw [if_neg hlim]
      have hlim' : (n : Int) ≤ most := by omega
      have hpad := PadRef_nat n (by omega)
      have hp4 := padN_lt n
      have hl9 : all.length ≤ 9223372036854775807 := by omega
      clear hlim
      by_cases hfit : all.length < pos + (n + padN n)
      · have hpe : padE all pos n = 4 := by unfold padE; rw [if_pos hfit]
        rw [hpe, if_neg (by decide)]
        clear hpe
        generalize padN n = p at *
        have HLT := Lib.hid (show (all.length : Int) - (pos : Int) < (n : Int) + (p : Int) by omega)
        clear hfit
        go_enter Tryd.func41, Tryd.ntmps41
        go_wp2_with fail
        refine HN.out.mono ?_
        rintro e w1 ⟨rfl, h, ht⟩
        obtain ⟨c2, f2⟩ := h.f2
        dsimp only at c2 f2
        have H := Lib.hid h
        have HT := Lib.hid ht
        clear h ht
        obtain ⟨v, hq0⟩ := H.out
        obtain ⟨hc, hv, hF, hp⟩ := id (show QV w1 rb v ⟨all, pos, 0⟩ F from hq0)
        dsimp only at hv hp
        obtain ⟨A, c, rfl, hrd, hA, hlc, hcm⟩ := id hv
        have K0 := Lib.hid (show QV w1 rb (.slice A all.length c) ⟨all, pos, 0⟩ F from hq0)
        have hc' : Cs w1 rb 68 #[.slice A all.length c, .int .i64 (pos : Int), .int .i64 0] := hc
        have c0 := hc'.cell 0 rfl
        have c1 := hc'.cell 1 rfl
        have HV := Lib.hid hv
        have HF := Lib.hid hF
        have hpos : pos ≤ all.length := hp
        have hlc' : all.length ≤ c := hlc
        clear hq0 hc hc' hv hrd hA hlc hcm hF hp
        go_wp2_with fail
        refine (hpad _).mono ?_
        rintro e w' ⟨rfl, rfl⟩
        go_wp2_with fail
        refine wp_region_V [] (Below w1.heap.size w1) hmix ((Below.refl _ _).drew) ?_
        change wpAnyV _ _ _ _ _ _ _ _ _
        refine wpAnyV_take (i := 0) (v := .pointer (some ⟨rb, 0, none⟩)) 8 (kept_below w1) rfl (by kernel_rfl) (by kernel_rfl) (fun _ _ _ h => h) (fun _ h => h) (DoesV.reads (by rfl) fun w9 hS => by go_simp) ?_
        try simp only [List.getElem_toArray, List.getElem_cons_succ, List.getElem_cons_zero, Act.put, List.setIfInBounds_toArray, List.set_cons_succ, List.set_cons_zero]
        refine wpAnyV_take (i := 1) (v := .pointer (some ⟨rb, 0, none⟩)) 8 (kept_below w1) rfl (by kernel_rfl) (by kernel_rfl) (fun _ _ _ h => h) (fun _ h => h) (DoesV.reads (by rfl) fun w9 hS => by go_simp) ?_
        try simp only [List.getElem_toArray, List.getElem_cons_succ, List.getElem_cons_zero, Act.put, List.setIfInBounds_toArray, List.set_cons_succ, List.set_cons_zero]
        refine wpAnyV_take (i := 2) (v := .pointer (some ⟨rb, 0, none⟩)) 8 (kept_below w1) rfl (by kernel_rfl) (by kernel_rfl) (fun _ _ _ h => h) (fun _ h => h) (DoesV.reads (by rfl) fun w9 hS => by go_simp) ?_
        try simp only [List.getElem_toArray, List.getElem_cons_succ, List.getElem_cons_zero, Act.put, List.setIfInBounds_toArray, List.set_cons_succ, List.set_cons_zero]
        refine wpAnyV_take (i := 3) (v := .slice A all.length c) 8 (kept_below w1) rfl (by kernel_rfl) (by kernel_rfl) (fun _ _ _ h => h) (fun _ h => h) (DoesV.reads (by rfl) fun w9 hS => by have q0 := cell_b hS c0; go_simp) ?_
        try simp only [List.getElem_toArray, List.getElem_cons_succ, List.getElem_cons_zero, Act.put, List.setIfInBounds_toArray, List.set_cons_succ, List.set_cons_zero]
        refine wpAnyV_take (i := 4) (v := .int .i64 (all.length : Int)) 8 (kept_below w1) rfl (by kernel_rfl) (by kernel_rfl) (fun _ _ _ h => h) (fun _ h => h) (DoesV.reads (by rfl) fun w9 hS => by go_simp) ?_
        try simp only [List.getElem_toArray, List.getElem_cons_succ, List.getElem_cons_zero, Act.put, List.setIfInBounds_toArray, List.set_cons_succ, List.set_cons_zero]
        refine wpAnyV_take (i := 5) (v := .pointer (some ⟨rb, 0, none⟩)) 8 (kept_below w1) rfl (by kernel_rfl) (by kernel_rfl) (fun _ _ _ h => h) (fun _ h => h) (DoesV.reads (by rfl) fun w9 hS => by go_simp) ?_
        try simp only [List.getElem_toArray, List.getElem_cons_succ, List.getElem_cons_zero, Act.put, List.setIfInBounds_toArray, List.set_cons_succ, List.set_cons_zero]
        refine wpAnyV_take (i := 6) (v := .pointer (some ⟨rb, 0, none⟩)) 8 (kept_below w1) rfl (by kernel_rfl) (by kernel_rfl) (fun _ _ _ h => h) (fun _ h => h) (DoesV.reads (by rfl) fun w9 hS => by go_simp) ?_
        try simp only [List.getElem_toArray, List.getElem_cons_succ, List.getElem_cons_zero, Act.put, List.setIfInBounds_toArray, List.set_cons_succ, List.set_cons_zero]
        refine wpAnyV_take (i := 7) (v := .pointer (some ⟨rb, 1, none⟩)) 8 (kept_below w1) rfl (by kernel_rfl) (by kernel_rfl) (fun _ _ _ h => h) (fun _ h => h) (DoesV.reads (by rfl) fun w9 hS => by go_simp) ?_
        try simp only [List.getElem_toArray, List.getElem_cons_succ, List.getElem_cons_zero, Act.put, List.setIfInBounds_toArray, List.set_cons_succ, List.set_cons_zero]
        refine wpAnyV_take (i := 8) (v := .int .i64 (pos : Int)) 8 (kept_below w1) rfl (by kernel_rfl) (by kernel_rfl) (fun _ _ _ h => h) (fun _ h => h) (DoesV.reads (by rfl) fun w9 hS => by have q0 := cell_b hS c1; go_simp) ?_
        try simp only [List.getElem_toArray, List.getElem_cons_succ, List.getElem_cons_zero, Act.put, List.setIfInBounds_toArray, List.set_cons_succ, List.set_cons_zero]
        refine wpAnyV_take (i := 9) (v := .int .i64 ((all.length : Int) - (pos : Int))) 8 (kept_below w1) rfl (by kernel_rfl) (by kernel_rfl) (fun _ _ _ h => h) (fun _ h => h) (DoesV.reads (by rfl) fun w9 hS => by go_simp; simp (disch := omega) only [IntWalk.i64_in, IntWalk.u32_in, IntWalk.u64_in]) ?_
        try simp only [List.getElem_toArray, List.getElem_cons_succ, List.getElem_cons_zero, Act.put, List.setIfInBounds_toArray, List.set_cons_succ, List.set_cons_zero]
        refine wpAnyV_take (i := 10) (v := .int .i64 (n : Int)) 8 (kept_below w1) rfl (by kernel_rfl) (by kernel_rfl) (fun _ _ _ h => h) (fun _ h => h) (DoesV.reads (by rfl) fun w9 hS => by go_simp) ?_
        try simp only [List.getElem_toArray, List.getElem_cons_succ, List.getElem_cons_zero, Act.put, List.setIfInBounds_toArray, List.set_cons_succ, List.set_cons_zero]
        refine wpAnyV_take (i := 11) (v := .int .i64 (p : Int)) 8 (kept_below w1) rfl (by kernel_rfl) (by kernel_rfl) (fun _ _ _ h => h) (fun _ h => h) (DoesV.reads (by rfl) fun w9 hS => by go_simp) ?_
        try simp only [List.getElem_toArray, List.getElem_cons_succ, List.getElem_cons_zero, Act.put, List.setIfInBounds_toArray, List.set_cons_succ, List.set_cons_zero]
        refine wpAnyV_take (i := 12) (v := .int .i64 ((n : Int) + (p : Int))) 8 (kept_below w1) rfl (by kernel_rfl) (by kernel_rfl) (fun _ _ _ h => h) (fun _ h => h) (DoesV.reads (by rfl) fun w9 hS => by go_simp; simp (disch := omega) only [IntWalk.i64_in, IntWalk.u32_in, IntWalk.u64_in]) ?_
        try simp only [List.getElem_toArray, List.getElem_cons_succ, List.getElem_cons_zero, Act.put, List.setIfInBounds_toArray, List.set_cons_succ, List.set_cons_zero]
        refine wpAnyV_take (i := 13) (v := .bool true) 8 (kept_below w1) rfl (by kernel_rfl) (by kernel_rfl) (fun _ _ _ h => h) (fun _ h => h) (DoesV.reads (by rfl) fun w9 hS => by have q0 := HLT.out; go_simp) ?_
        try simp only [List.getElem_toArray, List.getElem_cons_succ, List.getElem_cons_zero, Act.put, List.setIfInBounds_toArray, List.set_cons_succ, List.set_cons_zero]
        refine wpAnyV_done (by kernel_rfl) (fun y hu => ?_) _
        have hq := H.out.below hu
        obtain ⟨d2, g2⟩ := hq.f2
        have HQ := Lib.hid hq
        have HU := Lib.hid hu
        clear hq hu
        go_wp2_with fail
        go_ret
        exact ToldBQ.nil (HQ.out.fail rfl) ((HT.out.trans (Turn.of_below HU.out _) fun _ _ h => h).trans (Turn.setAt y rb 2 _) fun _ _ h => h)
      · have hzero := zero_at all pos n (by omega)
        have hcases := padE_cases all pos n (by omega)
        obtain ⟨pe, hpe⟩ : ∃ pe, pe = padE all pos n := ⟨_, rfl⟩
        rw [← hpe] at hzero hcases ⊢
        clear hpe
        generalize padN n = p at *
        have HLT := Lib.hid (show ¬ (all.length : Int) - (pos : Int) < (n : Int) + (p : Int) by omega)
        have hsum : (pos : Int) + ((n : Int) + (p : Int)) ≤ (all.length : Int) := by omega
        have HZV := Lib.hid hzero
        have hsm : pos + (n + p) ≤ all.length := by omega
        clear hfit hzero
        rcases hcases with rfl | rfl
        · rw [if_pos rfl]
          obtain ⟨X, hX⟩ : ∃ X, X = (all.drop pos).take n := ⟨_, rfl⟩
          have hXl : X.length = n := by rw [hX, List.length_take, List.length_drop]; omega
          rw [← hX]
          have HX := Lib.hid hX
          have HXL := Lib.hid hXl
          clear hX hXl
          go_enter Tryd.func41, Tryd.ntmps41
          go_wp2_with fail
          refine HN.out.mono ?_
          rintro e w1 ⟨rfl, h, ht⟩
          obtain ⟨c2, f2⟩ := h.f2
          dsimp only at c2 f2
          have H := Lib.hid h
          have HT := Lib.hid ht
          clear h ht
          obtain ⟨v, hq0⟩ := H.out
          obtain ⟨hc, hv, hF, hp⟩ := id (show QV w1 rb v ⟨all, pos, 0⟩ F from hq0)
          dsimp only at hv hp
          obtain ⟨A, c, rfl, hrd, hA, hlc, hcm⟩ := id hv
          have K0 := Lib.hid (show QV w1 rb (.slice A all.length c) ⟨all, pos, 0⟩ F from hq0)
          have hc' : Cs w1 rb 68 #[.slice A all.length c, .int .i64 (pos : Int), .int .i64 0] := hc
          have c0 := hc'.cell 0 rfl
          have c1 := hc'.cell 1 rfl
          have HV := Lib.hid hv
          have HF := Lib.hid hF
          have hpos : pos ≤ all.length := hp
          have hlc' : all.length ≤ c := hlc
          clear hq0 hc hc' hv hrd hA hlc hcm hF hp
          have hz : ∀ u, Below w1.heap.size w1 u → Calls Tryd.prog 62 #[.slice A all.length c, .int .i64 ((pos : Int) + (n : Int)), .int .i64 (p : Int)] u fun e w' => e = .returned (.int .i64 0) ∧ u = w' := fun u hb => by
            obtain ⟨A', c', e, h1, h2, h3, h4⟩ := HV.out.below hb
            cases e
            have := ZeroRef_any all A c ((pos : Int) + (n : Int)) (p : Int) u (Nat.le_trans h3 h4) h3 h1.rd
            rwa [HZV.out] at this
          have HZ := Lib.hid hz
          clear hz
          have hsl : ∀ W, (Instr.slice 28 (.slice A all.length c) (some (.int .i64 (pos : Int))) (some (.int .i64 ((pos : Int) + (n : Int)))) none).run Tryd.prog W = .ok (.slice (cutA A pos c) n (c - pos)) W := fun W => by
            have := sl_lh A all.length c pos (pos + n) (by omega) (by omega) W
            rw [show pos + n - pos = n by omega] at this
            simpa using this
          have hcp : ∀ u, QV u rb (.slice A all.length c) ⟨all, pos, 0⟩ F → Calls Tryd.prog 21 #[.slice (cutA A pos c) n (c - pos)] u fun e w' => OwnRet u.heap.size X u e w' := fun u hq => by
            have hwin := hq.2.1.window pos (pos + n) (by omega) (show pos + n ≤ all.length by omega)
            rw [show pos + n - pos = n by omega, ← HX.out] at hwin
            obtain ⟨A', c', e, h1, h2, h3, h4⟩ := hwin
            rw [HXL.out] at e
            cases e
            have := Copy_any X (cutA A pos c) (c - pos) u (by rw [HXL.out]; omega) h1.rd h2
            rwa [HXL.out] at this
          have HCP0 := Lib.hid hcp
          clear hcp
          go_wp2_with fail
          refine (hpad _).mono ?_
          rintro e w' ⟨rfl, rfl⟩
          go_wp2_with fail
          refine wp_region_V [] (Below w1.heap.size w1) hmix ((Below.refl _ _).drew) ?_
          change wpAnyV _ _ _ _ _ _ _ _ _
          refine wpAnyV_take (i := 0) (v := .pointer (some ⟨rb, 0, none⟩)) 8 (kept_below w1) rfl (by kernel_rfl) (by kernel_rfl) (fun _ _ _ h => h) (fun _ h => h) (DoesV.reads (by rfl) fun w9 hS => by go_simp) ?_
          try simp only [List.getElem_toArray, List.getElem_cons_succ, List.getElem_cons_zero, Act.put, List.setIfInBounds_toArray, List.set_cons_succ, List.set_cons_zero]
          refine wpAnyV_take (i := 1) (v := .pointer (some ⟨rb, 0, none⟩)) 8 (kept_below w1) rfl (by kernel_rfl) (by kernel_rfl) (fun _ _ _ h => h) (fun _ h => h) (DoesV.reads (by rfl) fun w9 hS => by go_simp) ?_
          try simp only [List.getElem_toArray, List.getElem_cons_succ, List.getElem_cons_zero, Act.put, List.setIfInBounds_toArray, List.set_cons_succ, List.set_cons_zero]
          refine wpAnyV_take (i := 2) (v := .pointer (some ⟨rb, 0, none⟩)) 8 (kept_below w1) rfl (by kernel_rfl) (by kernel_rfl) (fun _ _ _ h => h) (fun _ h => h) (DoesV.reads (by rfl) fun w9 hS => by go_simp) ?_
          try simp only [List.getElem_toArray, List.getElem_cons_succ, List.getElem_cons_zero, Act.put, List.setIfInBounds_toArray, List.set_cons_succ, List.set_cons_zero]
          refine wpAnyV_take (i := 3) (v := .slice A all.length c) 8 (kept_below w1) rfl (by kernel_rfl) (by kernel_rfl) (fun _ _ _ h => h) (fun _ h => h) (DoesV.reads (by rfl) fun w9 hS => by have q0 := cell_b hS c0; go_simp) ?_
          try simp only [List.getElem_toArray, List.getElem_cons_succ, List.getElem_cons_zero, Act.put, List.setIfInBounds_toArray, List.set_cons_succ, List.set_cons_zero]
          refine wpAnyV_take (i := 4) (v := .int .i64 (all.length : Int)) 8 (kept_below w1) rfl (by kernel_rfl) (by kernel_rfl) (fun _ _ _ h => h) (fun _ h => h) (DoesV.reads (by rfl) fun w9 hS => by go_simp) ?_
          try simp only [List.getElem_toArray, List.getElem_cons_succ, List.getElem_cons_zero, Act.put, List.setIfInBounds_toArray, List.set_cons_succ, List.set_cons_zero]
          refine wpAnyV_take (i := 5) (v := .pointer (some ⟨rb, 0, none⟩)) 8 (kept_below w1) rfl (by kernel_rfl) (by kernel_rfl) (fun _ _ _ h => h) (fun _ h => h) (DoesV.reads (by rfl) fun w9 hS => by go_simp) ?_
          try simp only [List.getElem_toArray, List.getElem_cons_succ, List.getElem_cons_zero, Act.put, List.setIfInBounds_toArray, List.set_cons_succ, List.set_cons_zero]
          refine wpAnyV_take (i := 6) (v := .pointer (some ⟨rb, 0, none⟩)) 8 (kept_below w1) rfl (by kernel_rfl) (by kernel_rfl) (fun _ _ _ h => h) (fun _ h => h) (DoesV.reads (by rfl) fun w9 hS => by go_simp) ?_
          try simp only [List.getElem_toArray, List.getElem_cons_succ, List.getElem_cons_zero, Act.put, List.setIfInBounds_toArray, List.set_cons_succ, List.set_cons_zero]
          refine wpAnyV_take (i := 7) (v := .pointer (some ⟨rb, 1, none⟩)) 8 (kept_below w1) rfl (by kernel_rfl) (by kernel_rfl) (fun _ _ _ h => h) (fun _ h => h) (DoesV.reads (by rfl) fun w9 hS => by go_simp) ?_
          try simp only [List.getElem_toArray, List.getElem_cons_succ, List.getElem_cons_zero, Act.put, List.setIfInBounds_toArray, List.set_cons_succ, List.set_cons_zero]
          refine wpAnyV_take (i := 8) (v := .int .i64 (pos : Int)) 8 (kept_below w1) rfl (by kernel_rfl) (by kernel_rfl) (fun _ _ _ h => h) (fun _ h => h) (DoesV.reads (by rfl) fun w9 hS => by have q0 := cell_b hS c1; go_simp) ?_
          try simp only [List.getElem_toArray, List.getElem_cons_succ, List.getElem_cons_zero, Act.put, List.setIfInBounds_toArray, List.set_cons_succ, List.set_cons_zero]
          refine wpAnyV_take (i := 9) (v := .int .i64 ((all.length : Int) - (pos : Int))) 8 (kept_below w1) rfl (by kernel_rfl) (by kernel_rfl) (fun _ _ _ h => h) (fun _ h => h) (DoesV.reads (by rfl) fun w9 hS => by go_simp; simp (disch := omega) only [IntWalk.i64_in, IntWalk.u32_in, IntWalk.u64_in]) ?_
          try simp only [List.getElem_toArray, List.getElem_cons_succ, List.getElem_cons_zero, Act.put, List.setIfInBounds_toArray, List.set_cons_succ, List.set_cons_zero]
          refine wpAnyV_take (i := 10) (v := .int .i64 (n : Int)) 8 (kept_below w1) rfl (by kernel_rfl) (by kernel_rfl) (fun _ _ _ h => h) (fun _ h => h) (DoesV.reads (by rfl) fun w9 hS => by go_simp) ?_
          try simp only [List.getElem_toArray, List.getElem_cons_succ, List.getElem_cons_zero, Act.put, List.setIfInBounds_toArray, List.set_cons_succ, List.set_cons_zero]
          refine wpAnyV_take (i := 11) (v := .int .i64 (p : Int)) 8 (kept_below w1) rfl (by kernel_rfl) (by kernel_rfl) (fun _ _ _ h => h) (fun _ h => h) (DoesV.reads (by rfl) fun w9 hS => by go_simp) ?_
          try simp only [List.getElem_toArray, List.getElem_cons_succ, List.getElem_cons_zero, Act.put, List.setIfInBounds_toArray, List.set_cons_succ, List.set_cons_zero]
          refine wpAnyV_take (i := 12) (v := .int .i64 ((n : Int) + (p : Int))) 8 (kept_below w1) rfl (by kernel_rfl) (by kernel_rfl) (fun _ _ _ h => h) (fun _ h => h) (DoesV.reads (by rfl) fun w9 hS => by go_simp; simp (disch := omega) only [IntWalk.i64_in, IntWalk.u32_in, IntWalk.u64_in]) ?_
          try simp only [List.getElem_toArray, List.getElem_cons_succ, List.getElem_cons_zero, Act.put, List.setIfInBounds_toArray, List.set_cons_succ, List.set_cons_zero]
          refine wpAnyV_take (i := 13) (v := .bool false) 8 (kept_below w1) rfl (by kernel_rfl) (by kernel_rfl) (fun _ _ _ h => h) (fun _ h => h) (DoesV.reads (by rfl) fun w9 hS => by have q0 := HLT.out; go_simp) ?_
          try simp only [List.getElem_toArray, List.getElem_cons_succ, List.getElem_cons_zero, Act.put, List.setIfInBounds_toArray, List.set_cons_succ, List.set_cons_zero]
          refine wpAnyV_done (by kernel_rfl) (fun y hu => ?_) _
          have B1 := Lib.hid hu
          have e0 := cell_b hu c0
          have e1 := cell_b hu c1
          have K1 := Lib.hid (K0.out.below hu)
          clear hu c0 c1 c2 f2
          go_wp2_with fail
          refine wp_region_V [15] (Below y.heap.size y) hmix ((Below.refl _ _).drew) ?_
          change wpAnyV _ _ _ _ _ _ _ _ _
          refine wpAnyV_take (i := 0) (v := .pointer (some ⟨rb, 0, none⟩)) 8 (kept_below y) rfl (by kernel_rfl) (by kernel_rfl) (fun _ _ _ h => h) (fun _ h => h) (DoesV.reads (by rfl) fun w9 hS => by go_simp) ?_
          try simp only [List.getElem_toArray, List.getElem_cons_succ, List.getElem_cons_zero, Act.put, List.setIfInBounds_toArray, List.set_cons_succ, List.set_cons_zero]
          refine wpAnyV_take (i := 1) (v := .pointer (some ⟨rb, 0, none⟩)) 8 (kept_below y) rfl (by kernel_rfl) (by kernel_rfl) (fun _ _ _ h => h) (fun _ h => h) (DoesV.reads (by rfl) fun w9 hS => by go_simp) ?_
          try simp only [List.getElem_toArray, List.getElem_cons_succ, List.getElem_cons_zero, Act.put, List.setIfInBounds_toArray, List.set_cons_succ, List.set_cons_zero]
          refine wpAnyV_take (i := 2) (v := .pointer (some ⟨rb, 0, none⟩)) 8 (kept_below y) rfl (by kernel_rfl) (by kernel_rfl) (fun _ _ _ h => h) (fun _ h => h) (DoesV.reads (by rfl) fun w9 hS => by go_simp) ?_
          try simp only [List.getElem_toArray, List.getElem_cons_succ, List.getElem_cons_zero, Act.put, List.setIfInBounds_toArray, List.set_cons_succ, List.set_cons_zero]
          refine wpAnyV_take (i := 3) (v := .pointer (some ⟨rb, 0, none⟩)) 8 (kept_below y) rfl (by kernel_rfl) (by kernel_rfl) (fun _ _ _ h => h) (fun _ h => h) (DoesV.reads (by rfl) fun w9 hS => by go_simp) ?_
          try simp only [List.getElem_toArray, List.getElem_cons_succ, List.getElem_cons_zero, Act.put, List.setIfInBounds_toArray, List.set_cons_succ, List.set_cons_zero]
          refine wpAnyV_take (i := 4) (v := .slice A all.length c) 8 (kept_below y) rfl (by kernel_rfl) (by kernel_rfl) (fun _ _ _ h => h) (fun _ h => h) (DoesV.reads (by rfl) fun w9 hS => by have q0 := cell_b hS e0; go_simp) ?_
          try simp only [List.getElem_toArray, List.getElem_cons_succ, List.getElem_cons_zero, Act.put, List.setIfInBounds_toArray, List.set_cons_succ, List.set_cons_zero]
          refine wpAnyV_take (i := 5) (v := .pointer (some ⟨rb, 0, none⟩)) 8 (kept_below y) rfl (by kernel_rfl) (by kernel_rfl) (fun _ _ _ h => h) (fun _ h => h) (DoesV.reads (by rfl) fun w9 hS => by go_simp) ?_
          try simp only [List.getElem_toArray, List.getElem_cons_succ, List.getElem_cons_zero, Act.put, List.setIfInBounds_toArray, List.set_cons_succ, List.set_cons_zero]
          refine wpAnyV_take (i := 6) (v := .pointer (some ⟨rb, 0, none⟩)) 8 (kept_below y) rfl (by kernel_rfl) (by kernel_rfl) (fun _ _ _ h => h) (fun _ h => h) (DoesV.reads (by rfl) fun w9 hS => by go_simp) ?_
          try simp only [List.getElem_toArray, List.getElem_cons_succ, List.getElem_cons_zero, Act.put, List.setIfInBounds_toArray, List.set_cons_succ, List.set_cons_zero]
          refine wpAnyV_take (i := 7) (v := .pointer (some ⟨rb, 1, none⟩)) 8 (kept_below y) rfl (by kernel_rfl) (by kernel_rfl) (fun _ _ _ h => h) (fun _ h => h) (DoesV.reads (by rfl) fun w9 hS => by go_simp) ?_
          try simp only [List.getElem_toArray, List.getElem_cons_succ, List.getElem_cons_zero, Act.put, List.setIfInBounds_toArray, List.set_cons_succ, List.set_cons_zero]
          refine wpAnyV_take (i := 8) (v := .int .i64 (pos : Int)) 8 (kept_below y) rfl (by kernel_rfl) (by kernel_rfl) (fun _ _ _ h => h) (fun _ h => h) (DoesV.reads (by rfl) fun w9 hS => by have q0 := cell_b hS e1; go_simp) ?_
          try simp only [List.getElem_toArray, List.getElem_cons_succ, List.getElem_cons_zero, Act.put, List.setIfInBounds_toArray, List.set_cons_succ, List.set_cons_zero]
          refine wpAnyV_take (i := 9) (v := .int .i64 (n : Int)) 8 (kept_below y) rfl (by kernel_rfl) (by kernel_rfl) (fun _ _ _ h => h) (fun _ h => h) (DoesV.reads (by rfl) fun w9 hS => by go_simp) ?_
          try simp only [List.getElem_toArray, List.getElem_cons_succ, List.getElem_cons_zero, Act.put, List.setIfInBounds_toArray, List.set_cons_succ, List.set_cons_zero]
          refine wpAnyV_take (i := 10) (v := .int .i64 ((pos : Int) + (n : Int))) 8 (kept_below y) rfl (by kernel_rfl) (by kernel_rfl) (fun _ _ _ h => h) (fun _ h => h) (DoesV.reads (by rfl) fun w9 hS => by go_simp; simp (disch := omega) only [IntWalk.i64_in, IntWalk.u32_in, IntWalk.u64_in]) ?_
          try simp only [List.getElem_toArray, List.getElem_cons_succ, List.getElem_cons_zero, Act.put, List.setIfInBounds_toArray, List.set_cons_succ, List.set_cons_zero]
          refine wpAnyV_take (i := 11) (v := .int .i64 (p : Int)) 8 (kept_below y) rfl (by kernel_rfl) (by kernel_rfl) (fun _ _ _ h => h) (fun _ h => h) (DoesV.reads (by rfl) fun w9 hS => by go_simp) ?_
          try simp only [List.getElem_toArray, List.getElem_cons_succ, List.getElem_cons_zero, Act.put, List.setIfInBounds_toArray, List.set_cons_succ, List.set_cons_zero]
          refine wpAnyV_take (i := 12) (v := .int .i64 0) 8 (kept_below y) rfl (by kernel_rfl) (by kernel_rfl) (fun _ _ _ h => h) (fun _ h => h) (DoesV.calls 62 #[.slice A all.length c, .int .i64 ((pos : Int) + (n : Int)), .int .i64 (p : Int)] (by rfl) (fun w9 hS => by go_simp) (fun w9 hS => (HZ.out w9 (below_chain B1.out hS)).mono fun e u ⟨h1, h2⟩ => ⟨h1, h2 ▸ Below.refl _ _⟩)) ?_
          try simp only [List.getElem_toArray, List.getElem_cons_succ, List.getElem_cons_zero, Act.put, List.setIfInBounds_toArray, List.set_cons_succ, List.set_cons_zero]
          refine wpAnyV_take (i := 13) (v := .pointer (some ⟨rb, 0, none⟩)) 8 (kept_below y) rfl (by kernel_rfl) (by kernel_rfl) (fun _ _ _ h => h) (fun _ h => h) (DoesV.reads (by rfl) fun w9 hS => by go_simp) ?_
          try simp only [List.getElem_toArray, List.getElem_cons_succ, List.getElem_cons_zero, Act.put, List.setIfInBounds_toArray, List.set_cons_succ, List.set_cons_zero]
          refine wpAnyV_take (i := 14) (v := .pointer (some ⟨rb, 2, none⟩)) 8 (kept_below y) rfl (by kernel_rfl) (by kernel_rfl) (fun _ _ _ h => h) (fun _ h => h) (DoesV.reads (by rfl) fun w9 hS => by go_simp) ?_
          try simp only [List.getElem_toArray, List.getElem_cons_succ, List.getElem_cons_zero, Act.put, List.setIfInBounds_toArray, List.set_cons_succ, List.set_cons_zero]
          refine wpAnyV_only (i := 15) rfl (by kernel_rfl) rfl (fun u hS => wp_store1 34 _ _ rfl rb 2 rfl (.int .i64 0) rfl rfl (by kernel_rfl) 68 _ (K1.out.below hS).1 (by simp) fun u' hk ht => ⟨fun u => QV u rb (.slice A all.length c) ⟨all, pos, 0⟩ F ∧ Turn y u (· = rb), ⟨(K1.out.below hS).stored hk ht, (Turn.of_below hS _).trans ht fun _ _ h => h⟩, kept_and (kept_q _ _ _ _) (kept_turnQ _ _), fun h => absurd (by simp) h, ?_⟩)
          try simp only [List.getElem_toArray, List.getElem_cons_succ, List.getElem_cons_zero, Act.put, List.setIfInBounds_toArray, List.set_cons_succ, List.set_cons_zero]
          refine wpAnyV_done (by kernel_rfl) (fun y2 hu => ?_) _
          obtain ⟨hq, ht⟩ := hu
          have d0 : y2.cell? ⟨rb, 0, none⟩ = some (.slice A all.length c) := hq.1.cell 0 rfl
          have d1 : y2.cell? ⟨rb, 1, none⟩ = some (.int .i64 (pos : Int)) := hq.1.cell 1 rfl
          have d2 : y2.cell? ⟨rb, 2, none⟩ = some (.int .i64 0) := hq.1.cell 2 rfl
          have K2 := Lib.hid hq
          have T2 := Lib.hid (((HT.out.trans (Turn.of_below B1.out _) fun _ _ h => h).trans ht fun _ _ h => h))
          clear hq ht e0 e1
          go_wp2_with fail
          have HCP := Lib.hid (fun u (hb : Below y2.heap.size y2 u) => HCP0.out u (K2.out.below hb))
          refine wp_region_V [] (Below y2.heap.size y2) hmix ((Below.refl _ _).drew) ?_
          change wpAnyV _ _ _ _ _ _ _ _ _
          refine wpAnyV_take (i := 0) (v := .pointer (some ⟨rb, 0, none⟩)) 8 (kept_below y2) rfl (by kernel_rfl) (by kernel_rfl) (fun _ _ _ h => h) (fun _ h => h) (DoesV.reads (by rfl) fun w9 hS => by go_simp) ?_
          try simp only [List.getElem_toArray, List.getElem_cons_succ, List.getElem_cons_zero, Act.put, List.setIfInBounds_toArray, List.set_cons_succ, List.set_cons_zero]
          refine wpAnyV_take (i := 1) (v := .pointer (some ⟨rb, 0, none⟩)) 8 (kept_below y2) rfl (by kernel_rfl) (by kernel_rfl) (fun _ _ _ h => h) (fun _ h => h) (DoesV.reads (by rfl) fun w9 hS => by go_simp) ?_
          try simp only [List.getElem_toArray, List.getElem_cons_succ, List.getElem_cons_zero, Act.put, List.setIfInBounds_toArray, List.set_cons_succ, List.set_cons_zero]
          refine wpAnyV_take (i := 2) (v := .pointer (some ⟨rb, 0, none⟩)) 8 (kept_below y2) rfl (by kernel_rfl) (by kernel_rfl) (fun _ _ _ h => h) (fun _ h => h) (DoesV.reads (by rfl) fun w9 hS => by go_simp) ?_
          try simp only [List.getElem_toArray, List.getElem_cons_succ, List.getElem_cons_zero, Act.put, List.setIfInBounds_toArray, List.set_cons_succ, List.set_cons_zero]
          refine wpAnyV_take (i := 3) (v := .slice A all.length c) 8 (kept_below y2) rfl (by kernel_rfl) (by kernel_rfl) (fun _ _ _ h => h) (fun _ h => h) (DoesV.reads (by rfl) fun w9 hS => by have q0 := cell_b hS d0; go_simp) ?_
          try simp only [List.getElem_toArray, List.getElem_cons_succ, List.getElem_cons_zero, Act.put, List.setIfInBounds_toArray, List.set_cons_succ, List.set_cons_zero]
          refine wpAnyV_take (i := 4) (v := .pointer (some ⟨rb, 0, none⟩)) 8 (kept_below y2) rfl (by kernel_rfl) (by kernel_rfl) (fun _ _ _ h => h) (fun _ h => h) (DoesV.reads (by rfl) fun w9 hS => by go_simp) ?_
          try simp only [List.getElem_toArray, List.getElem_cons_succ, List.getElem_cons_zero, Act.put, List.setIfInBounds_toArray, List.set_cons_succ, List.set_cons_zero]
          refine wpAnyV_take (i := 5) (v := .pointer (some ⟨rb, 0, none⟩)) 8 (kept_below y2) rfl (by kernel_rfl) (by kernel_rfl) (fun _ _ _ h => h) (fun _ h => h) (DoesV.reads (by rfl) fun w9 hS => by go_simp) ?_
          try simp only [List.getElem_toArray, List.getElem_cons_succ, List.getElem_cons_zero, Act.put, List.setIfInBounds_toArray, List.set_cons_succ, List.set_cons_zero]
          refine wpAnyV_take (i := 6) (v := .pointer (some ⟨rb, 1, none⟩)) 8 (kept_below y2) rfl (by kernel_rfl) (by kernel_rfl) (fun _ _ _ h => h) (fun _ h => h) (DoesV.reads (by rfl) fun w9 hS => by go_simp) ?_
          try simp only [List.getElem_toArray, List.getElem_cons_succ, List.getElem_cons_zero, Act.put, List.setIfInBounds_toArray, List.set_cons_succ, List.set_cons_zero]
          refine wpAnyV_take (i := 7) (v := .int .i64 (pos : Int)) 8 (kept_below y2) rfl (by kernel_rfl) (by kernel_rfl) (fun _ _ _ h => h) (fun _ h => h) (DoesV.reads (by rfl) fun w9 hS => by have q0 := cell_b hS d1; go_simp) ?_
          try simp only [List.getElem_toArray, List.getElem_cons_succ, List.getElem_cons_zero, Act.put, List.setIfInBounds_toArray, List.set_cons_succ, List.set_cons_zero]
          refine wpAnyV_take (i := 8) (v := .pointer (some ⟨rb, 0, none⟩)) 8 (kept_below y2) rfl (by kernel_rfl) (by kernel_rfl) (fun _ _ _ h => h) (fun _ h => h) (DoesV.reads (by rfl) fun w9 hS => by go_simp) ?_
          try simp only [List.getElem_toArray, List.getElem_cons_succ, List.getElem_cons_zero, Act.put, List.setIfInBounds_toArray, List.set_cons_succ, List.set_cons_zero]
          refine wpAnyV_take (i := 9) (v := .pointer (some ⟨rb, 0, none⟩)) 8 (kept_below y2) rfl (by kernel_rfl) (by kernel_rfl) (fun _ _ _ h => h) (fun _ h => h) (DoesV.reads (by rfl) fun w9 hS => by go_simp) ?_
          try simp only [List.getElem_toArray, List.getElem_cons_succ, List.getElem_cons_zero, Act.put, List.setIfInBounds_toArray, List.set_cons_succ, List.set_cons_zero]
          refine wpAnyV_take (i := 10) (v := .pointer (some ⟨rb, 1, none⟩)) 8 (kept_below y2) rfl (by kernel_rfl) (by kernel_rfl) (fun _ _ _ h => h) (fun _ h => h) (DoesV.reads (by rfl) fun w9 hS => by go_simp) ?_
          try simp only [List.getElem_toArray, List.getElem_cons_succ, List.getElem_cons_zero, Act.put, List.setIfInBounds_toArray, List.set_cons_succ, List.set_cons_zero]
          refine wpAnyV_take (i := 11) (v := .int .i64 (pos : Int)) 8 (kept_below y2) rfl (by kernel_rfl) (by kernel_rfl) (fun _ _ _ h => h) (fun _ h => h) (DoesV.reads (by rfl) fun w9 hS => by have q0 := cell_b hS d1; go_simp) ?_
          try simp only [List.getElem_toArray, List.getElem_cons_succ, List.getElem_cons_zero, Act.put, List.setIfInBounds_toArray, List.set_cons_succ, List.set_cons_zero]
          refine wpAnyV_take (i := 12) (v := .int .i64 (n : Int)) 8 (kept_below y2) rfl (by kernel_rfl) (by kernel_rfl) (fun _ _ _ h => h) (fun _ h => h) (DoesV.reads (by rfl) fun w9 hS => by go_simp) ?_
          try simp only [List.getElem_toArray, List.getElem_cons_succ, List.getElem_cons_zero, Act.put, List.setIfInBounds_toArray, List.set_cons_succ, List.set_cons_zero]
          refine wpAnyV_take (i := 13) (v := .int .i64 ((pos : Int) + (n : Int))) 8 (kept_below y2) rfl (by kernel_rfl) (by kernel_rfl) (fun _ _ _ h => h) (fun _ h => h) (DoesV.reads (by rfl) fun w9 hS => by go_simp; simp (disch := omega) only [IntWalk.i64_in, IntWalk.u32_in, IntWalk.u64_in]) ?_
          try simp only [List.getElem_toArray, List.getElem_cons_succ, List.getElem_cons_zero, Act.put, List.setIfInBounds_toArray, List.set_cons_succ, List.set_cons_zero]
          refine wpAnyV_take (i := 14) (v := .slice (cutA A pos c) n (c - pos)) 8 (kept_below y2) rfl (by kernel_rfl) (by kernel_rfl) (fun _ _ _ h => h) (fun _ h => h) (DoesV.reads (by rfl) fun w9 hS => by go_simp) ?_
          try simp only [List.getElem_toArray, List.getElem_cons_succ, List.getElem_cons_zero, Act.put, List.setIfInBounds_toArray, List.set_cons_succ, List.set_cons_zero]
          refine wpAnyV_only (i := 15) rfl (by kernel_rfl) rfl (fun u hS => wp_of_call (by go_simp) (HCP.out u hS) fun e u' ⟨v1, he, ho, hb⟩ => ⟨v1, he, fun x => Below y2.heap.size y2 x ∧ BsV x (y2.heap.size ≤ ·) v1 X, ⟨below_chain hS hb, (BsV.own ho).mono fun k _ hk => Nat.le_trans hS.size hk⟩, kept_and (kept_below y2) (kept_bsQ _ _ _), fun _ u h => h.1, ?_⟩)
          try simp only [List.getElem_toArray, List.getElem_cons_succ, List.getElem_cons_zero, Act.put, List.setIfInBounds_toArray, List.set_cons_succ, List.set_cons_zero]
          obtain ⟨A1, N1, c1, rfl⟩ := (BsV.own ho).slice
          refine wpAnyV_pure (i := 16) (v := .slice A1 N1 c1) (kept_and (kept_below y2) (kept_bsQ _ _ _)) rfl (by kernel_rfl) (by kernel_rfl) (fun _ _ _ h => h) (DoesV.reads (by rfl) fun w9 hS => by go_simp) ?_
          try simp only [List.getElem_toArray, List.getElem_cons_succ, List.getElem_cons_zero, Act.put, List.setIfInBounds_toArray, List.set_cons_succ, List.set_cons_zero]
          refine wpAnyV_done (by kernel_rfl) (fun y3 hu => ?_) _
          obtain ⟨hb3, hbs⟩ := hu
          have K3 := Lib.hid (K2.out.below hb3)
          obtain ⟨g1, h1⟩ := K3.out.at.f1
          dsimp only at g1
          have B3 := Lib.hid hb3
          have S3 := Lib.hid hbs
          clear hb3 hbs d0 d1 d2
          go_wp2_with fail
          go_ret
          have hT : Turn w y3 (· = rb) := T2.out.trans (Turn.of_below B3.out _) fun _ _ h => h
          have hgo := K3.out.at.go (pos + (n + p)) hsm
          have e9 : ((pos + (n + p) : Nat) : Int) = (pos : Int) + (n : Int) + (p : Int) := by omega
          rw [e9] at hgo
          have hs2 := T2.out.size
          exact ⟨_, rfl, (S3.out.mono (G := fun k => w.heap.size ≤ k ∧ k ≠ rb) fun k _ h => ⟨by omega, fun e => by have := K2.out.1.lt; omega⟩).turn (Turn.setAt y3 rb 1 _) (fun k hk e => hk.2 e) |>.mono fun k _ h => h.1, hgo, hT.trans (Turn.setAt y3 rb 1 _) fun _ _ h => h⟩
        · rw [if_neg (by decide)]
          go_enter Tryd.func41, Tryd.ntmps41
          go_wp2_with fail
          refine HN.out.mono ?_
          rintro e w1 ⟨rfl, h, ht⟩
          obtain ⟨c2, f2⟩ := h.f2
          dsimp only at c2 f2
          have H := Lib.hid h
          have HT := Lib.hid ht
          clear h ht
          obtain ⟨v, hq0⟩ := H.out
          obtain ⟨hc, hv, hF, hp⟩ := id (show QV w1 rb v ⟨all, pos, 0⟩ F from hq0)
          dsimp only at hv hp
          obtain ⟨A, c, rfl, hrd, hA, hlc, hcm⟩ := id hv
          have K0 := Lib.hid (show QV w1 rb (.slice A all.length c) ⟨all, pos, 0⟩ F from hq0)
          have hc' : Cs w1 rb 68 #[.slice A all.length c, .int .i64 (pos : Int), .int .i64 0] := hc
          have c0 := hc'.cell 0 rfl
          have c1 := hc'.cell 1 rfl
          have HV := Lib.hid hv
          have HF := Lib.hid hF
          have hpos : pos ≤ all.length := hp
          have hlc' : all.length ≤ c := hlc
          clear hq0 hc hc' hv hrd hA hlc hcm hF hp
          have hz : ∀ u, Below w1.heap.size w1 u → Calls Tryd.prog 62 #[.slice A all.length c, .int .i64 ((pos : Int) + (n : Int)), .int .i64 (p : Int)] u fun e w' => e = .returned (.int .i64 5) ∧ u = w' := fun u hb => by
            obtain ⟨A', c', e, h1, h2, h3, h4⟩ := HV.out.below hb
            cases e
            have := ZeroRef_any all A c ((pos : Int) + (n : Int)) (p : Int) u (Nat.le_trans h3 h4) h3 h1.rd
            rwa [HZV.out] at this
          have HZ := Lib.hid hz
          clear hz
          go_wp2_with fail
          refine (hpad _).mono ?_
          rintro e w' ⟨rfl, rfl⟩
          go_wp2_with fail
          refine wp_region_V [] (Below w1.heap.size w1) hmix ((Below.refl _ _).drew) ?_
          change wpAnyV _ _ _ _ _ _ _ _ _
          refine wpAnyV_take (i := 0) (v := .pointer (some ⟨rb, 0, none⟩)) 8 (kept_below w1) rfl (by kernel_rfl) (by kernel_rfl) (fun _ _ _ h => h) (fun _ h => h) (DoesV.reads (by rfl) fun w9 hS => by go_simp) ?_
          try simp only [List.getElem_toArray, List.getElem_cons_succ, List.getElem_cons_zero, Act.put, List.setIfInBounds_toArray, List.set_cons_succ, List.set_cons_zero]
          refine wpAnyV_take (i := 1) (v := .pointer (some ⟨rb, 0, none⟩)) 8 (kept_below w1) rfl (by kernel_rfl) (by kernel_rfl) (fun _ _ _ h => h) (fun _ h => h) (DoesV.reads (by rfl) fun w9 hS => by go_simp) ?_
          try simp only [List.getElem_toArray, List.getElem_cons_succ, List.getElem_cons_zero, Act.put, List.setIfInBounds_toArray, List.set_cons_succ, List.set_cons_zero]
          refine wpAnyV_take (i := 2) (v := .pointer (some ⟨rb, 0, none⟩)) 8 (kept_below w1) rfl (by kernel_rfl) (by kernel_rfl) (fun _ _ _ h => h) (fun _ h => h) (DoesV.reads (by rfl) fun w9 hS => by go_simp) ?_
          try simp only [List.getElem_toArray, List.getElem_cons_succ, List.getElem_cons_zero, Act.put, List.setIfInBounds_toArray, List.set_cons_succ, List.set_cons_zero]
          refine wpAnyV_take (i := 3) (v := .slice A all.length c) 8 (kept_below w1) rfl (by kernel_rfl) (by kernel_rfl) (fun _ _ _ h => h) (fun _ h => h) (DoesV.reads (by rfl) fun w9 hS => by have q0 := cell_b hS c0; go_simp) ?_
          try simp only [List.getElem_toArray, List.getElem_cons_succ, List.getElem_cons_zero, Act.put, List.setIfInBounds_toArray, List.set_cons_succ, List.set_cons_zero]
          refine wpAnyV_take (i := 4) (v := .int .i64 (all.length : Int)) 8 (kept_below w1) rfl (by kernel_rfl) (by kernel_rfl) (fun _ _ _ h => h) (fun _ h => h) (DoesV.reads (by rfl) fun w9 hS => by go_simp) ?_
          try simp only [List.getElem_toArray, List.getElem_cons_succ, List.getElem_cons_zero, Act.put, List.setIfInBounds_toArray, List.set_cons_succ, List.set_cons_zero]
          refine wpAnyV_take (i := 5) (v := .pointer (some ⟨rb, 0, none⟩)) 8 (kept_below w1) rfl (by kernel_rfl) (by kernel_rfl) (fun _ _ _ h => h) (fun _ h => h) (DoesV.reads (by rfl) fun w9 hS => by go_simp) ?_
          try simp only [List.getElem_toArray, List.getElem_cons_succ, List.getElem_cons_zero, Act.put, List.setIfInBounds_toArray, List.set_cons_succ, List.set_cons_zero]
          refine wpAnyV_take (i := 6) (v := .pointer (some ⟨rb, 0, none⟩)) 8 (kept_below w1) rfl (by kernel_rfl) (by kernel_rfl) (fun _ _ _ h => h) (fun _ h => h) (DoesV.reads (by rfl) fun w9 hS => by go_simp) ?_
          try simp only [List.getElem_toArray, List.getElem_cons_succ, List.getElem_cons_zero, Act.put, List.setIfInBounds_toArray, List.set_cons_succ, List.set_cons_zero]
          refine wpAnyV_take (i := 7) (v := .pointer (some ⟨rb, 1, none⟩)) 8 (kept_below w1) rfl (by kernel_rfl) (by kernel_rfl) (fun _ _ _ h => h) (fun _ h => h) (DoesV.reads (by rfl) fun w9 hS => by go_simp) ?_
          try simp only [List.getElem_toArray, List.getElem_cons_succ, List.getElem_cons_zero, Act.put, List.setIfInBounds_toArray, List.set_cons_succ, List.set_cons_zero]
          refine wpAnyV_take (i := 8) (v := .int .i64 (pos : Int)) 8 (kept_below w1) rfl (by kernel_rfl) (by kernel_rfl) (fun _ _ _ h => h) (fun _ h => h) (DoesV.reads (by rfl) fun w9 hS => by have q0 := cell_b hS c1; go_simp) ?_
          try simp only [List.getElem_toArray, List.getElem_cons_succ, List.getElem_cons_zero, Act.put, List.setIfInBounds_toArray, List.set_cons_succ, List.set_cons_zero]
          refine wpAnyV_take (i := 9) (v := .int .i64 ((all.length : Int) - (pos : Int))) 8 (kept_below w1) rfl (by kernel_rfl) (by kernel_rfl) (fun _ _ _ h => h) (fun _ h => h) (DoesV.reads (by rfl) fun w9 hS => by go_simp; simp (disch := omega) only [IntWalk.i64_in, IntWalk.u32_in, IntWalk.u64_in]) ?_
          try simp only [List.getElem_toArray, List.getElem_cons_succ, List.getElem_cons_zero, Act.put, List.setIfInBounds_toArray, List.set_cons_succ, List.set_cons_zero]
          refine wpAnyV_take (i := 10) (v := .int .i64 (n : Int)) 8 (kept_below w1) rfl (by kernel_rfl) (by kernel_rfl) (fun _ _ _ h => h) (fun _ h => h) (DoesV.reads (by rfl) fun w9 hS => by go_simp) ?_
          try simp only [List.getElem_toArray, List.getElem_cons_succ, List.getElem_cons_zero, Act.put, List.setIfInBounds_toArray, List.set_cons_succ, List.set_cons_zero]
          refine wpAnyV_take (i := 11) (v := .int .i64 (p : Int)) 8 (kept_below w1) rfl (by kernel_rfl) (by kernel_rfl) (fun _ _ _ h => h) (fun _ h => h) (DoesV.reads (by rfl) fun w9 hS => by go_simp) ?_
          try simp only [List.getElem_toArray, List.getElem_cons_succ, List.getElem_cons_zero, Act.put, List.setIfInBounds_toArray, List.set_cons_succ, List.set_cons_zero]
          refine wpAnyV_take (i := 12) (v := .int .i64 ((n : Int) + (p : Int))) 8 (kept_below w1) rfl (by kernel_rfl) (by kernel_rfl) (fun _ _ _ h => h) (fun _ h => h) (DoesV.reads (by rfl) fun w9 hS => by go_simp; simp (disch := omega) only [IntWalk.i64_in, IntWalk.u32_in, IntWalk.u64_in]) ?_
          try simp only [List.getElem_toArray, List.getElem_cons_succ, List.getElem_cons_zero, Act.put, List.setIfInBounds_toArray, List.set_cons_succ, List.set_cons_zero]
          refine wpAnyV_take (i := 13) (v := .bool false) 8 (kept_below w1) rfl (by kernel_rfl) (by kernel_rfl) (fun _ _ _ h => h) (fun _ h => h) (DoesV.reads (by rfl) fun w9 hS => by have q0 := HLT.out; go_simp) ?_
          try simp only [List.getElem_toArray, List.getElem_cons_succ, List.getElem_cons_zero, Act.put, List.setIfInBounds_toArray, List.set_cons_succ, List.set_cons_zero]
          refine wpAnyV_done (by kernel_rfl) (fun y hu => ?_) _
          have B1 := Lib.hid hu
          have e0 := cell_b hu c0
          have e1 := cell_b hu c1
          have K1 := Lib.hid (K0.out.below hu)
          clear hu c0 c1 c2 f2
          go_wp2_with fail
          refine wp_region_V [15] (Below y.heap.size y) hmix ((Below.refl _ _).drew) ?_
          change wpAnyV _ _ _ _ _ _ _ _ _
          refine wpAnyV_take (i := 0) (v := .pointer (some ⟨rb, 0, none⟩)) 8 (kept_below y) rfl (by kernel_rfl) (by kernel_rfl) (fun _ _ _ h => h) (fun _ h => h) (DoesV.reads (by rfl) fun w9 hS => by go_simp) ?_
          try simp only [List.getElem_toArray, List.getElem_cons_succ, List.getElem_cons_zero, Act.put, List.setIfInBounds_toArray, List.set_cons_succ, List.set_cons_zero]
          refine wpAnyV_take (i := 1) (v := .pointer (some ⟨rb, 0, none⟩)) 8 (kept_below y) rfl (by kernel_rfl) (by kernel_rfl) (fun _ _ _ h => h) (fun _ h => h) (DoesV.reads (by rfl) fun w9 hS => by go_simp) ?_
          try simp only [List.getElem_toArray, List.getElem_cons_succ, List.getElem_cons_zero, Act.put, List.setIfInBounds_toArray, List.set_cons_succ, List.set_cons_zero]
          refine wpAnyV_take (i := 2) (v := .pointer (some ⟨rb, 0, none⟩)) 8 (kept_below y) rfl (by kernel_rfl) (by kernel_rfl) (fun _ _ _ h => h) (fun _ h => h) (DoesV.reads (by rfl) fun w9 hS => by go_simp) ?_
          try simp only [List.getElem_toArray, List.getElem_cons_succ, List.getElem_cons_zero, Act.put, List.setIfInBounds_toArray, List.set_cons_succ, List.set_cons_zero]
          refine wpAnyV_take (i := 3) (v := .pointer (some ⟨rb, 0, none⟩)) 8 (kept_below y) rfl (by kernel_rfl) (by kernel_rfl) (fun _ _ _ h => h) (fun _ h => h) (DoesV.reads (by rfl) fun w9 hS => by go_simp) ?_
          try simp only [List.getElem_toArray, List.getElem_cons_succ, List.getElem_cons_zero, Act.put, List.setIfInBounds_toArray, List.set_cons_succ, List.set_cons_zero]
          refine wpAnyV_take (i := 4) (v := .slice A all.length c) 8 (kept_below y) rfl (by kernel_rfl) (by kernel_rfl) (fun _ _ _ h => h) (fun _ h => h) (DoesV.reads (by rfl) fun w9 hS => by have q0 := cell_b hS e0; go_simp) ?_
          try simp only [List.getElem_toArray, List.getElem_cons_succ, List.getElem_cons_zero, Act.put, List.setIfInBounds_toArray, List.set_cons_succ, List.set_cons_zero]
          refine wpAnyV_take (i := 5) (v := .pointer (some ⟨rb, 0, none⟩)) 8 (kept_below y) rfl (by kernel_rfl) (by kernel_rfl) (fun _ _ _ h => h) (fun _ h => h) (DoesV.reads (by rfl) fun w9 hS => by go_simp) ?_
          try simp only [List.getElem_toArray, List.getElem_cons_succ, List.getElem_cons_zero, Act.put, List.setIfInBounds_toArray, List.set_cons_succ, List.set_cons_zero]
          refine wpAnyV_take (i := 6) (v := .pointer (some ⟨rb, 0, none⟩)) 8 (kept_below y) rfl (by kernel_rfl) (by kernel_rfl) (fun _ _ _ h => h) (fun _ h => h) (DoesV.reads (by rfl) fun w9 hS => by go_simp) ?_
          try simp only [List.getElem_toArray, List.getElem_cons_succ, List.getElem_cons_zero, Act.put, List.setIfInBounds_toArray, List.set_cons_succ, List.set_cons_zero]
          refine wpAnyV_take (i := 7) (v := .pointer (some ⟨rb, 1, none⟩)) 8 (kept_below y) rfl (by kernel_rfl) (by kernel_rfl) (fun _ _ _ h => h) (fun _ h => h) (DoesV.reads (by rfl) fun w9 hS => by go_simp) ?_
          try simp only [List.getElem_toArray, List.getElem_cons_succ, List.getElem_cons_zero, Act.put, List.setIfInBounds_toArray, List.set_cons_succ, List.set_cons_zero]
          refine wpAnyV_take (i := 8) (v := .int .i64 (pos : Int)) 8 (kept_below y) rfl (by kernel_rfl) (by kernel_rfl) (fun _ _ _ h => h) (fun _ h => h) (DoesV.reads (by rfl) fun w9 hS => by have q0 := cell_b hS e1; go_simp) ?_
          try simp only [List.getElem_toArray, List.getElem_cons_succ, List.getElem_cons_zero, Act.put, List.setIfInBounds_toArray, List.set_cons_succ, List.set_cons_zero]
          refine wpAnyV_take (i := 9) (v := .int .i64 (n : Int)) 8 (kept_below y) rfl (by kernel_rfl) (by kernel_rfl) (fun _ _ _ h => h) (fun _ h => h) (DoesV.reads (by rfl) fun w9 hS => by go_simp) ?_
          try simp only [List.getElem_toArray, List.getElem_cons_succ, List.getElem_cons_zero, Act.put, List.setIfInBounds_toArray, List.set_cons_succ, List.set_cons_zero]
          refine wpAnyV_take (i := 10) (v := .int .i64 ((pos : Int) + (n : Int))) 8 (kept_below y) rfl (by kernel_rfl) (by kernel_rfl) (fun _ _ _ h => h) (fun _ h => h) (DoesV.reads (by rfl) fun w9 hS => by go_simp; simp (disch := omega) only [IntWalk.i64_in, IntWalk.u32_in, IntWalk.u64_in]) ?_
          try simp only [List.getElem_toArray, List.getElem_cons_succ, List.getElem_cons_zero, Act.put, List.setIfInBounds_toArray, List.set_cons_succ, List.set_cons_zero]
          refine wpAnyV_take (i := 11) (v := .int .i64 (p : Int)) 8 (kept_below y) rfl (by kernel_rfl) (by kernel_rfl) (fun _ _ _ h => h) (fun _ h => h) (DoesV.reads (by rfl) fun w9 hS => by go_simp) ?_
          try simp only [List.getElem_toArray, List.getElem_cons_succ, List.getElem_cons_zero, Act.put, List.setIfInBounds_toArray, List.set_cons_succ, List.set_cons_zero]
          refine wpAnyV_take (i := 12) (v := .int .i64 5) 8 (kept_below y) rfl (by kernel_rfl) (by kernel_rfl) (fun _ _ _ h => h) (fun _ h => h) (DoesV.calls 62 #[.slice A all.length c, .int .i64 ((pos : Int) + (n : Int)), .int .i64 (p : Int)] (by rfl) (fun w9 hS => by go_simp) (fun w9 hS => (HZ.out w9 (below_chain B1.out hS)).mono fun e u ⟨h1, h2⟩ => ⟨h1, h2 ▸ Below.refl _ _⟩)) ?_
          try simp only [List.getElem_toArray, List.getElem_cons_succ, List.getElem_cons_zero, Act.put, List.setIfInBounds_toArray, List.set_cons_succ, List.set_cons_zero]
          refine wpAnyV_take (i := 13) (v := .pointer (some ⟨rb, 0, none⟩)) 8 (kept_below y) rfl (by kernel_rfl) (by kernel_rfl) (fun _ _ _ h => h) (fun _ h => h) (DoesV.reads (by rfl) fun w9 hS => by go_simp) ?_
          try simp only [List.getElem_toArray, List.getElem_cons_succ, List.getElem_cons_zero, Act.put, List.setIfInBounds_toArray, List.set_cons_succ, List.set_cons_zero]
          refine wpAnyV_take (i := 14) (v := .pointer (some ⟨rb, 2, none⟩)) 8 (kept_below y) rfl (by kernel_rfl) (by kernel_rfl) (fun _ _ _ h => h) (fun _ h => h) (DoesV.reads (by rfl) fun w9 hS => by go_simp) ?_
          try simp only [List.getElem_toArray, List.getElem_cons_succ, List.getElem_cons_zero, Act.put, List.setIfInBounds_toArray, List.set_cons_succ, List.set_cons_zero]
          refine wpAnyV_only (i := 15) rfl (by kernel_rfl) rfl (fun u hS => wp_store1 34 _ _ rfl rb 2 rfl (.int .i64 5) rfl rfl (by kernel_rfl) 68 _ (K1.out.below hS).1 (by simp) fun u' hk ht => ⟨fun u => QV u rb (.slice A all.length c) ⟨all, pos, 5⟩ F ∧ Turn y u (· = rb), ⟨(K1.out.below hS).stored hk ht, (Turn.of_below hS _).trans ht fun _ _ h => h⟩, kept_and (kept_q _ _ _ _) (kept_turnQ _ _), fun h => absurd (by simp) h, ?_⟩)
          try simp only [List.getElem_toArray, List.getElem_cons_succ, List.getElem_cons_zero, Act.put, List.setIfInBounds_toArray, List.set_cons_succ, List.set_cons_zero]
          refine wpAnyV_done (by kernel_rfl) (fun y2 hu => ?_) _
          obtain ⟨hq, ht⟩ := hu
          have d0 : y2.cell? ⟨rb, 0, none⟩ = some (.slice A all.length c) := hq.1.cell 0 rfl
          have d1 : y2.cell? ⟨rb, 1, none⟩ = some (.int .i64 (pos : Int)) := hq.1.cell 1 rfl
          have d2 : y2.cell? ⟨rb, 2, none⟩ = some (.int .i64 5) := hq.1.cell 2 rfl
          have K2 := Lib.hid hq
          have T2 := Lib.hid (((HT.out.trans (Turn.of_below B1.out _) fun _ _ h => h).trans ht fun _ _ h => h))
          clear hq ht e0 e1
          go_wp2_with fail
          go_ret
          exact ToldBQ.nil K2.out.at T2.out
  · have e0 : (err == 0) = false := by simpa using he
    have e1 : (err != 0) = true := by rw [bne, e0]; rfl
    rw [if_pos he]
    clear he
    go_enter Tryd.func41, Tryd.ntmps41
    go_wp2_with fail
    refine HN.out.mono ?_
    rintro e w1 ⟨rfl, h, ht⟩
    obtain ⟨c2, f2⟩ := h.f2
    dsimp only at c2 f2
    have H := Lib.hid h
    have HT := Lib.hid ht
    clear h ht
    go_wp2_with fail
    go_ret
    exact ToldBQ.nil H.out HT.out
theorem Bytes_q {w : World} {rb : Nat} {s : RS} {F : Nat → Prop} (most : Int) (hm0 : -9223372036854775808 ≤ most) (hm1 : most ≤ 9223372036854775807) (hlen : s.all.length ≤ 140737488355328) (h : QAt w rb s F) :
    Calls Tryd.prog 41 #[.pointer (some ⟨rb, 0, none⟩), .int .i64 most] w fun e w' => ToldBQ rb (bytesR s most).2 F (bytesR s most).1 w e w' := by
  by_cases hn : most < 0
  · exact Bytes_qn most hm0 hm1 hn hlen h
  · exact Bytes_qp most hm0 hm1 (by omega) hlen h

end Go.Proofs.YtboalmmpcfiicaaDoor
