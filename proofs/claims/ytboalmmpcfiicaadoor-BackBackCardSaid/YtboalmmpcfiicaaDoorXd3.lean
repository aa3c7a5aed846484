/- A reader: padded, Bytes. -/
import Derived.Test.YtboalmmpcfiicaaDoorXd2
namespace Go.Proofs.YtboalmmpcfiicaaDoor
open Go.RowKit Go.Shelf
set_option linter.unusedVariables false
set_option maxRecDepth 100000
set_option linter.unusedSimpArgs false

theorem byteAt_drop (l : List UInt8) (p j : Nat) : byteAt (l.drop p) j = byteAt l (p + j) := by
  unfold byteAt
  rw [List.getD_eq_getElem?_getD, List.getD_eq_getElem?_getD, List.getElem?_drop]
theorem allZ_drop (l : List UInt8) (p i n : Nat) : allZ (l.drop p) i n = allZ l (p + i) n := by
  unfold allZ
  congr 1
  funext j
  rw [byteAt_drop, Nat.add_assoc]
/-- the error of bytes that are n -/
def padE (l : List UInt8) (p n : Nat) : Int := if l.length < p + (n + padN n) then 4 else if allZ l (p + n) (padN n) = true then 0 else 5
theorem zero_pad (l : List UInt8) (p n : Nat) (hn : n ≤ l.length - p) : zeroV (l.drop p) (n : Int) (padN n : Int) = padE l p n ∨ ¬ p ≤ l.length := by
  by_cases hp : p ≤ l.length
  · left
    unfold zeroV padE
    have hl : (l.drop p).length = l.length - p := List.length_drop
    rw [if_neg (by rw [place_iff.2 ⟨by omega, by omega⟩]; first | (simp; done) | (simp; omega)), hl]
    by_cases h : l.length < p + (n + padN n)
    · rw [if_pos (by omega), if_pos h]
    · rw [if_neg (by omega), if_neg h, Int.toNat_natCast, Int.toNat_natCast, allZ_drop]
      rfl
  · exact .inr hp
/-- bytes that are told, in new memory, or an error -/
def PadRet (rb : Nat) (s : RS) (F : Nat → Prop) (n : Nat) (w : World) (e : Ending) (w' : World) : Prop :=
  (padE s.all s.pos n ≠ 0 ∧ e = .returned (.tuple #[.slice none 0 0, .int .i64 (padE s.all s.pos n)]) ∧ RdAt w' rb s F ∧ Below w.heap.size w w') ∨
  (padE s.all s.pos n = 0 ∧ ∃ v, e = .returned (.tuple #[v, .int .i64 0]) ∧ BsV w' (fun k => w.heap.size ≤ k) v ((s.all.drop s.pos).take n) ∧ TyB w' v ∧ (∀ k, v.ownBlock = some k → w.heap.size ≤ k) ∧ RdAt w' rb ⟨s.all, s.pos + (n + padN n), s.err⟩ F ∧ Turn w w' (· = rb))
set_option maxHeartbeats 8000000 in
theorem padded_r {w : World} {rb : Nat} {s : RS} {F : Nat → Prop} (n : Nat) (hn : n ≤ 4294967295) (hlen : s.all.length ≤ 140737488355328) (h : RdAt w rb s F) : Calls Tryd.prog 68 #[.pointer (some ⟨rb, 0, none⟩), .int .u64 (n : Int)] w fun e w' => PadRet rb s F n w e w' := by
  have HR := Lib.hid h
  obtain ⟨all, pos, err⟩ := s
  obtain ⟨v, hc, hv, hF, hp⟩ := h
  obtain ⟨A, c, rfl, hrd, hA, hlc, hcm⟩ := id hv
  dsimp only at hlen hp hv hlc hrd hA
  have hm : all.length ≤ 9223372036854775807 := by omega
  have hmix : Tryd.prog.follows .mixedOrders = true := by kernel_rfl
  have hc' : Cs w rb 82 #[.bool true, .slice A all.length c, .int .i64 (pos : Int), .int .i64 err] := hc
  have c1 := hc'.cell 1 rfl
  have c2 := hc'.cell 2 rfl
  have hsl := sl_l A all.length c pos hp
  have hvc := hv.cut pos hp
  have hll : (all.drop pos).length = all.length - pos := List.length_drop
  have hpad := Pad_nat n (by omega)
  have hp4 := padN_lt n
  have HC := Lib.hid hc'
  have HV := Lib.hid hv
  have HVC := Lib.hid hvc
  have HF := Lib.hid hF
  have HLL := Lib.hid hll
  have hsub : (all.length : Int) - (pos : Int) ≤ 9223372036854775807 := by omega
  have hn' : (n : Int) ≤ 4294967295 := by omega
  clear hc hv hrd hA hc' hF hvc hll
  by_cases hlt : all.length - pos < n
  · have hE : padE all pos n = 4 := by unfold padE; rw [if_pos (by omega)]
    have HE := Lib.hid hE
    have hlt' : ((all.length - pos : Nat) : Int) < (n : Int) := by omega
    clear hE
    go_enter Tryd.func68, Tryd.ntmps68
    go_wp2_with fail
    refine wp_region_V [] (Below w.heap.size w) hmix ((Below.refl _ _).drew) ?_
    change wpAnyV _ _ _ _ _ _ _ _ _
    refine wpAnyV_take (i := 0) (v := .pointer (some ⟨rb, 0, none⟩)) 8 (kept_below w) rfl (by kernel_rfl) (by kernel_rfl) (fun _ _ _ h => h) (fun _ h => h) (DoesV.reads (by rfl) fun w9 hS => by go_simp) ?_
    try simp only [List.getElem_toArray, List.getElem_cons_succ, List.getElem_cons_zero, Act.put, List.setIfInBounds_toArray, List.set_cons_succ, List.set_cons_zero]
    refine wpAnyV_take (i := 1) (v := .pointer (some ⟨rb, 0, none⟩)) 8 (kept_below w) rfl (by kernel_rfl) (by kernel_rfl) (fun _ _ _ h => h) (fun _ h => h) (DoesV.reads (by rfl) fun w9 hS => by go_simp) ?_
    try simp only [List.getElem_toArray, List.getElem_cons_succ, List.getElem_cons_zero, Act.put, List.setIfInBounds_toArray, List.set_cons_succ, List.set_cons_zero]
    refine wpAnyV_take (i := 2) (v := .pointer (some ⟨rb, 1, none⟩)) 8 (kept_below w) rfl (by kernel_rfl) (by kernel_rfl) (fun _ _ _ h => h) (fun _ h => h) (DoesV.reads (by rfl) fun w9 hS => by go_simp) ?_
    try simp only [List.getElem_toArray, List.getElem_cons_succ, List.getElem_cons_zero, Act.put, List.setIfInBounds_toArray, List.set_cons_succ, List.set_cons_zero]
    refine wpAnyV_take (i := 3) (v := .slice A all.length c) 8 (kept_below w) rfl (by kernel_rfl) (by kernel_rfl) (fun _ _ _ h => h) (fun _ h => h) (DoesV.reads (by rfl) fun w9 hS => by have q0 := cell_b hS c1; go_simp) ?_
    try simp only [List.getElem_toArray, List.getElem_cons_succ, List.getElem_cons_zero, Act.put, List.setIfInBounds_toArray, List.set_cons_succ, List.set_cons_zero]
    refine wpAnyV_take (i := 4) (v := .pointer (some ⟨rb, 0, none⟩)) 8 (kept_below w) rfl (by kernel_rfl) (by kernel_rfl) (fun _ _ _ h => h) (fun _ h => h) (DoesV.reads (by rfl) fun w9 hS => by go_simp) ?_
    try simp only [List.getElem_toArray, List.getElem_cons_succ, List.getElem_cons_zero, Act.put, List.setIfInBounds_toArray, List.set_cons_succ, List.set_cons_zero]
    refine wpAnyV_take (i := 5) (v := .pointer (some ⟨rb, 0, none⟩)) 8 (kept_below w) rfl (by kernel_rfl) (by kernel_rfl) (fun _ _ _ h => h) (fun _ h => h) (DoesV.reads (by rfl) fun w9 hS => by go_simp) ?_
    try simp only [List.getElem_toArray, List.getElem_cons_succ, List.getElem_cons_zero, Act.put, List.setIfInBounds_toArray, List.set_cons_succ, List.set_cons_zero]
    refine wpAnyV_take (i := 6) (v := .pointer (some ⟨rb, 2, none⟩)) 8 (kept_below w) rfl (by kernel_rfl) (by kernel_rfl) (fun _ _ _ h => h) (fun _ h => h) (DoesV.reads (by rfl) fun w9 hS => by go_simp) ?_
    try simp only [List.getElem_toArray, List.getElem_cons_succ, List.getElem_cons_zero, Act.put, List.setIfInBounds_toArray, List.set_cons_succ, List.set_cons_zero]
    refine wpAnyV_take (i := 7) (v := .int .i64 (pos : Int)) 8 (kept_below w) rfl (by kernel_rfl) (by kernel_rfl) (fun _ _ _ h => h) (fun _ h => h) (DoesV.reads (by rfl) fun w9 hS => by have q0 := cell_b hS c2; go_simp) ?_
    try simp only [List.getElem_toArray, List.getElem_cons_succ, List.getElem_cons_zero, Act.put, List.setIfInBounds_toArray, List.set_cons_succ, List.set_cons_zero]
    refine wpAnyV_take (i := 8) (v := .slice (cutA A pos c) (all.length - pos) (c - pos)) 8 (kept_below w) rfl (by kernel_rfl) (by kernel_rfl) (fun _ _ _ h => h) (fun _ h => h) (DoesV.reads (by rfl) fun w9 hS => by go_simp) ?_
    try simp only [List.getElem_toArray, List.getElem_cons_succ, List.getElem_cons_zero, Act.put, List.setIfInBounds_toArray, List.set_cons_succ, List.set_cons_zero]
    refine wpAnyV_take (i := 9) (v := .slice (cutA A pos c) (all.length - pos) (c - pos)) 8 (kept_below w) rfl (by kernel_rfl) (by kernel_rfl) (fun _ _ _ h => h) (fun _ h => h) (DoesV.reads (by rfl) fun w9 hS => by go_simp) ?_
    try simp only [List.getElem_toArray, List.getElem_cons_succ, List.getElem_cons_zero, Act.put, List.setIfInBounds_toArray, List.set_cons_succ, List.set_cons_zero]
    refine wpAnyV_done (by kernel_rfl) (fun y hu => ?_) _
    have HU := Lib.hid hu
    clear hu
    go_wp2_with fail
    go_ret2
    exact .inl ⟨by rw [HE.out]; decide, by rw [HE.out]; rfl, HR.out.below HU.out, HU.out⟩
  · have hge : n ≤ all.length - pos := Nat.le_of_not_lt hlt
    have hz : ∀ u, Below w.heap.size w u → Calls Tryd.prog 77 #[.slice (cutA A pos c) (all.length - pos) (c - pos), .int .i64 (n : Int), .int .i64 (padN n : Int)] u fun e w' => e = .returned (.int .i64 (padE all pos n)) ∧ u = w' := fun u hb => by
      obtain ⟨A', c', e, h1, h2, h3, h4⟩ := HVC.out.below hb
      rw [HLL.out] at e
      cases e
      have hq := Zero_any (all.drop pos) (cutA A pos c) (c - pos) (n : Int) (padN n : Int) u (by rw [HLL.out]; unfold maxLen; omega) h3 h1.rd
      rw [(zero_pad all pos n hge).resolve_right (by omega), HLL.out] at hq
      exact hq
    have hvu := HVC.out.upto n (by rw [HLL.out]; exact hge)
    have HVU := Lib.hid hvu
    have hslh := sl_h (cutA A pos c) (all.length - pos) (c - pos) n (by omega)
    have hlt' : ¬ ((all.length - pos : Nat) : Int) < (n : Int) := by omega
    have HPE := Lib.hid (show padE all pos n = 0 → pos + (n + padN n) ≤ all.length from fun h => by
      unfold padE at h
      split at h
      · cases h
      · omega)
    have HPN := Lib.hid (show padE all pos n = 0 ∨ padE all pos n = 4 ∨ padE all pos n = 5 by
      unfold padE
      split
      · exact .inr (.inl rfl)
      · split
        · exact .inl rfl
        · exact .inr (.inr rfl))
    have hpe : padE (RS.mk all pos err).all (RS.mk all pos err).pos n = padE all pos n := rfl
    unfold PadRet
    rw [hpe]
    dsimp only
    clear hpe hlt hvu
    generalize padN n = p at *
    obtain ⟨x, hx⟩ : ∃ x, x = (all.drop pos).take n := ⟨_, rfl⟩
    have hxl : x.length = n := by rw [hx, List.length_take, List.length_drop]; omega
    rw [← hx] at HVU ⊢
    have HXL := Lib.hid hxl
    clear hx hxl
    generalize padE all pos n = pe at *
    have HZ := Lib.hid hz
    clear hz
    by_cases h0 : pe = 0
    · subst h0
      have hfit := HPE.out rfl
      have hfit' : (pos : Int) + ((n : Int) + (p : Int)) ≤ (all.length : Int) := by omega
      go_enter Tryd.func68, Tryd.ntmps68
      go_wp2_with fail
      refine wp_region_V [] (Below w.heap.size w) hmix ((Below.refl _ _).drew) ?_
      change wpAnyV _ _ _ _ _ _ _ _ _
      refine wpAnyV_take (i := 0) (v := .pointer (some ⟨rb, 0, none⟩)) 8 (kept_below w) rfl (by kernel_rfl) (by kernel_rfl) (fun _ _ _ h => h) (fun _ h => h) (DoesV.reads (by rfl) fun w9 hS => by go_simp) ?_
      try simp only [List.getElem_toArray, List.getElem_cons_succ, List.getElem_cons_zero, Act.put, List.setIfInBounds_toArray, List.set_cons_succ, List.set_cons_zero]
      refine wpAnyV_take (i := 1) (v := .pointer (some ⟨rb, 0, none⟩)) 8 (kept_below w) rfl (by kernel_rfl) (by kernel_rfl) (fun _ _ _ h => h) (fun _ h => h) (DoesV.reads (by rfl) fun w9 hS => by go_simp) ?_
      try simp only [List.getElem_toArray, List.getElem_cons_succ, List.getElem_cons_zero, Act.put, List.setIfInBounds_toArray, List.set_cons_succ, List.set_cons_zero]
      refine wpAnyV_take (i := 2) (v := .pointer (some ⟨rb, 1, none⟩)) 8 (kept_below w) rfl (by kernel_rfl) (by kernel_rfl) (fun _ _ _ h => h) (fun _ h => h) (DoesV.reads (by rfl) fun w9 hS => by go_simp) ?_
      try simp only [List.getElem_toArray, List.getElem_cons_succ, List.getElem_cons_zero, Act.put, List.setIfInBounds_toArray, List.set_cons_succ, List.set_cons_zero]
      refine wpAnyV_take (i := 3) (v := .slice A all.length c) 8 (kept_below w) rfl (by kernel_rfl) (by kernel_rfl) (fun _ _ _ h => h) (fun _ h => h) (DoesV.reads (by rfl) fun w9 hS => by have q0 := cell_b hS c1; go_simp) ?_
      try simp only [List.getElem_toArray, List.getElem_cons_succ, List.getElem_cons_zero, Act.put, List.setIfInBounds_toArray, List.set_cons_succ, List.set_cons_zero]
      refine wpAnyV_take (i := 4) (v := .pointer (some ⟨rb, 0, none⟩)) 8 (kept_below w) rfl (by kernel_rfl) (by kernel_rfl) (fun _ _ _ h => h) (fun _ h => h) (DoesV.reads (by rfl) fun w9 hS => by go_simp) ?_
      try simp only [List.getElem_toArray, List.getElem_cons_succ, List.getElem_cons_zero, Act.put, List.setIfInBounds_toArray, List.set_cons_succ, List.set_cons_zero]
      refine wpAnyV_take (i := 5) (v := .pointer (some ⟨rb, 0, none⟩)) 8 (kept_below w) rfl (by kernel_rfl) (by kernel_rfl) (fun _ _ _ h => h) (fun _ h => h) (DoesV.reads (by rfl) fun w9 hS => by go_simp) ?_
      try simp only [List.getElem_toArray, List.getElem_cons_succ, List.getElem_cons_zero, Act.put, List.setIfInBounds_toArray, List.set_cons_succ, List.set_cons_zero]
      refine wpAnyV_take (i := 6) (v := .pointer (some ⟨rb, 2, none⟩)) 8 (kept_below w) rfl (by kernel_rfl) (by kernel_rfl) (fun _ _ _ h => h) (fun _ h => h) (DoesV.reads (by rfl) fun w9 hS => by go_simp) ?_
      try simp only [List.getElem_toArray, List.getElem_cons_succ, List.getElem_cons_zero, Act.put, List.setIfInBounds_toArray, List.set_cons_succ, List.set_cons_zero]
      refine wpAnyV_take (i := 7) (v := .int .i64 (pos : Int)) 8 (kept_below w) rfl (by kernel_rfl) (by kernel_rfl) (fun _ _ _ h => h) (fun _ h => h) (DoesV.reads (by rfl) fun w9 hS => by have q0 := cell_b hS c2; go_simp) ?_
      try simp only [List.getElem_toArray, List.getElem_cons_succ, List.getElem_cons_zero, Act.put, List.setIfInBounds_toArray, List.set_cons_succ, List.set_cons_zero]
      refine wpAnyV_take (i := 8) (v := .slice (cutA A pos c) (all.length - pos) (c - pos)) 8 (kept_below w) rfl (by kernel_rfl) (by kernel_rfl) (fun _ _ _ h => h) (fun _ h => h) (DoesV.reads (by rfl) fun w9 hS => by go_simp) ?_
      try simp only [List.getElem_toArray, List.getElem_cons_succ, List.getElem_cons_zero, Act.put, List.setIfInBounds_toArray, List.set_cons_succ, List.set_cons_zero]
      refine wpAnyV_take (i := 9) (v := .slice (cutA A pos c) (all.length - pos) (c - pos)) 8 (kept_below w) rfl (by kernel_rfl) (by kernel_rfl) (fun _ _ _ h => h) (fun _ h => h) (DoesV.reads (by rfl) fun w9 hS => by go_simp) ?_
      try simp only [List.getElem_toArray, List.getElem_cons_succ, List.getElem_cons_zero, Act.put, List.setIfInBounds_toArray, List.set_cons_succ, List.set_cons_zero]
      refine wpAnyV_done (by kernel_rfl) (fun y hu => ?_) _
      have HU := Lib.hid hu
      have c2y := cell_b hu c2
      have f2y := (HC.out.below hu HC.out.lt).frozen 2
      clear hu
      go_wp2_with fail
      refine (hpad _).mono ?_
      rintro e w' ⟨rfl, rfl⟩
      go_wp2_with fail
      refine (HZ.out _ HU.out).mono ?_
      rintro e w' ⟨rfl, rfl⟩
      go_wp2_with fail
      have HW : Hid (RdAt (y.setCell ⟨rb, 2, none⟩ (.int .i64 ((pos : Int) + ((n : Int) + (p : Int))))) rb ⟨all, pos + (n + p), err⟩ F) := by
        have := (HR.out.below HU.out).go (pos + (n + p)) hfit
        exact Lib.hid (by simpa using this)
      have HT : Hid (Turn y (y.setCell ⟨rb, 2, none⟩ (.int .i64 ((pos : Int) + ((n : Int) + (p : Int))))) (· = rb)) := Lib.hid (Turn.setAt y rb 2 _)
      generalize y.setCell ⟨rb, 2, none⟩ (.int .i64 ((pos : Int) + ((n : Int) + (p : Int)))) = y2 at *
      have hxv := (HVU.out.below HU.out).turn HT.out (fun k hk e => HF.out (e ▸ hk))
      obtain ⟨A', c', e, h1, h2, h3, h4⟩ := id hxv
      have hcl := Clone_ty x A' c' y2 (by rw [HXL.out]; omega) h1.rd h2
      rw [HXL.out] at e hcl
      cases e
      clear hxv h1 h2 h3 h4
      refine hcl.mono ?_
      clear hcl
      rintro e w3 ⟨v, rfl, hv, hty, hown, hb⟩
      obtain ⟨A3, c3, rfl, -⟩ := id hv
      have K := Lib.hid (And.intro hv (And.intro hty (And.intro hown hb)))
      clear hv hty hown hb
      go_wp2_with fail
      go_ret2
      have hs1 := HU.out.size
      have hs2 := HT.out.size
      exact .inr ⟨by first | trivial | rfl, _, rfl, K.out.1.mono fun k _ h => by omega, K.out.2.1, fun k hk => by have := K.out.2.2.1 k hk; omega, HW.out.below K.out.2.2.2, ((Turn.of_below HU.out _).trans HT.out fun _ _ h => h).trans (Turn.of_below K.out.2.2.2 _) fun _ _ h => h⟩
    · have e0 : (pe == 0) = false := by simpa using h0
      have e1 : (pe != 0) = true := by rw [bne, e0]; rfl
      have H0 := Lib.hid h0
      clear h0
      go_enter Tryd.func68, Tryd.ntmps68
      go_wp2_with fail
      refine wp_region_V [] (Below w.heap.size w) hmix ((Below.refl _ _).drew) ?_
      change wpAnyV _ _ _ _ _ _ _ _ _
      refine wpAnyV_take (i := 0) (v := .pointer (some ⟨rb, 0, none⟩)) 8 (kept_below w) rfl (by kernel_rfl) (by kernel_rfl) (fun _ _ _ h => h) (fun _ h => h) (DoesV.reads (by rfl) fun w9 hS => by go_simp) ?_
      try simp only [List.getElem_toArray, List.getElem_cons_succ, List.getElem_cons_zero, Act.put, List.setIfInBounds_toArray, List.set_cons_succ, List.set_cons_zero]
      refine wpAnyV_take (i := 1) (v := .pointer (some ⟨rb, 0, none⟩)) 8 (kept_below w) rfl (by kernel_rfl) (by kernel_rfl) (fun _ _ _ h => h) (fun _ h => h) (DoesV.reads (by rfl) fun w9 hS => by go_simp) ?_
      try simp only [List.getElem_toArray, List.getElem_cons_succ, List.getElem_cons_zero, Act.put, List.setIfInBounds_toArray, List.set_cons_succ, List.set_cons_zero]
      refine wpAnyV_take (i := 2) (v := .pointer (some ⟨rb, 1, none⟩)) 8 (kept_below w) rfl (by kernel_rfl) (by kernel_rfl) (fun _ _ _ h => h) (fun _ h => h) (DoesV.reads (by rfl) fun w9 hS => by go_simp) ?_
      try simp only [List.getElem_toArray, List.getElem_cons_succ, List.getElem_cons_zero, Act.put, List.setIfInBounds_toArray, List.set_cons_succ, List.set_cons_zero]
      refine wpAnyV_take (i := 3) (v := .slice A all.length c) 8 (kept_below w) rfl (by kernel_rfl) (by kernel_rfl) (fun _ _ _ h => h) (fun _ h => h) (DoesV.reads (by rfl) fun w9 hS => by have q0 := cell_b hS c1; go_simp) ?_
      try simp only [List.getElem_toArray, List.getElem_cons_succ, List.getElem_cons_zero, Act.put, List.setIfInBounds_toArray, List.set_cons_succ, List.set_cons_zero]
      refine wpAnyV_take (i := 4) (v := .pointer (some ⟨rb, 0, none⟩)) 8 (kept_below w) rfl (by kernel_rfl) (by kernel_rfl) (fun _ _ _ h => h) (fun _ h => h) (DoesV.reads (by rfl) fun w9 hS => by go_simp) ?_
      try simp only [List.getElem_toArray, List.getElem_cons_succ, List.getElem_cons_zero, Act.put, List.setIfInBounds_toArray, List.set_cons_succ, List.set_cons_zero]
      refine wpAnyV_take (i := 5) (v := .pointer (some ⟨rb, 0, none⟩)) 8 (kept_below w) rfl (by kernel_rfl) (by kernel_rfl) (fun _ _ _ h => h) (fun _ h => h) (DoesV.reads (by rfl) fun w9 hS => by go_simp) ?_
      try simp only [List.getElem_toArray, List.getElem_cons_succ, List.getElem_cons_zero, Act.put, List.setIfInBounds_toArray, List.set_cons_succ, List.set_cons_zero]
      refine wpAnyV_take (i := 6) (v := .pointer (some ⟨rb, 2, none⟩)) 8 (kept_below w) rfl (by kernel_rfl) (by kernel_rfl) (fun _ _ _ h => h) (fun _ h => h) (DoesV.reads (by rfl) fun w9 hS => by go_simp) ?_
      try simp only [List.getElem_toArray, List.getElem_cons_succ, List.getElem_cons_zero, Act.put, List.setIfInBounds_toArray, List.set_cons_succ, List.set_cons_zero]
      refine wpAnyV_take (i := 7) (v := .int .i64 (pos : Int)) 8 (kept_below w) rfl (by kernel_rfl) (by kernel_rfl) (fun _ _ _ h => h) (fun _ h => h) (DoesV.reads (by rfl) fun w9 hS => by have q0 := cell_b hS c2; go_simp) ?_
      try simp only [List.getElem_toArray, List.getElem_cons_succ, List.getElem_cons_zero, Act.put, List.setIfInBounds_toArray, List.set_cons_succ, List.set_cons_zero]
      refine wpAnyV_take (i := 8) (v := .slice (cutA A pos c) (all.length - pos) (c - pos)) 8 (kept_below w) rfl (by kernel_rfl) (by kernel_rfl) (fun _ _ _ h => h) (fun _ h => h) (DoesV.reads (by rfl) fun w9 hS => by go_simp) ?_
      try simp only [List.getElem_toArray, List.getElem_cons_succ, List.getElem_cons_zero, Act.put, List.setIfInBounds_toArray, List.set_cons_succ, List.set_cons_zero]
      refine wpAnyV_take (i := 9) (v := .slice (cutA A pos c) (all.length - pos) (c - pos)) 8 (kept_below w) rfl (by kernel_rfl) (by kernel_rfl) (fun _ _ _ h => h) (fun _ h => h) (DoesV.reads (by rfl) fun w9 hS => by go_simp) ?_
      try simp only [List.getElem_toArray, List.getElem_cons_succ, List.getElem_cons_zero, Act.put, List.setIfInBounds_toArray, List.set_cons_succ, List.set_cons_zero]
      refine wpAnyV_done (by kernel_rfl) (fun y hu => ?_) _
      have HU := Lib.hid hu
      clear hu
      go_wp2_with fail
      refine (hpad _).mono ?_
      rintro e w' ⟨rfl, rfl⟩
      go_wp2_with fail
      refine (HZ.out _ HU.out).mono ?_
      rintro e w' ⟨rfl, rfl⟩
      go_wp2_with fail
      go_ret2
      exact .inl ⟨H0.out, rfl, HR.out.below HU.out, HU.out⟩

end Go.Proofs.YtboalmmpcfiicaaDoor
