/- BatchLeads: the walk. -/
import Derived.Test.YtiemphfikfigdaaBatSlice
namespace Go.Proofs.Ytiemphfikfigdaa
open Go.RowKit Go.Shelf
set_option linter.unusedVariables false
set_option maxRecDepth 100000
set_option linter.unusedSimpArgs false

theorem may_small : ∀ (t : List Rw) (last : Key), mayFrom last t = true → ∀ z ∈ t, z.1.length ≤ 16
  | [], _, _ => by simp
  | x :: r, last, h => by
    simp only [mayFrom, Bool.and_eq_true] at h
    intro z hz
    rcases List.mem_cons.1 hz with rfl | hz
    · exact (fitsK_iff.1 h.1).2.1
    · exact may_small r x.1 h.2 z hz
theorem smallR_of {t : List Rw} (h : mayP t = true) (hl : t.length ≤ 1000) : SmallR t := ⟨by omega, fun z hz => by have := may_small t [] h z hz; omega⟩
theorem smallC_of {t : List Ch} (h : mayCP t = true) (hl : t.length ≤ 1000) : SmallC t := ⟨by omega, fun z hz => by have := mayC_small h z hz; omega⟩
theorem slice_rest {w : World} {F : Nat → Prop} {bc oc cc k : Nat} {lc : List Ch} (h : LsV chgN w F (.slice (some ⟨bc, oc, none⟩) lc.length cc) lc) (hk : k < lc.length) : ∃ A9 : Addr, (∀ W, (Instr.slice 22 (.slice (some ⟨bc, oc, none⟩) lc.length cc) (some (.int .i64 ((k : Int) + 1))) none none).run Try.prog W = .ok (.slice (some A9) (lc.length - (k + 1)) (cc - (k + 1))) W) ∧ A9.spot = none ∧ RdX chgE w (· < w.heap.size) (some A9) (lc.drop (k + 1)) := by
  have hc := h.at.2.2.1
  have hR := (h.chgE.at.2.1).mono (G := (· < w.heap.size)) fun _ hk _ => hk
  by_cases hcap : cc = k + 1
  · refine ⟨⟨bc, oc, none⟩, fun W => ?_, rfl, .inl ?_⟩
    · have ht' : Try.prog.underlying 22 = some (.slice (Try.prog.elem 22)) := by simp [Program.elem, Try.underlying22]
      have he : Try.prog.elem 22 = 52 := by simp [Program.elem, Try.underlying22]
      rw [run_slice_l W 22 _ _ _ ht' .i64 _ (by omega) (by omega), he, Try.sizeOf52]
      show Result.ok (sliced (some ⟨bc, oc, none⟩) (k + 1) lc.length cc 3) W = _
      simp [sliced, hcap]
    · rw [List.drop_eq_nil_iff]; omega
  · refine ⟨⟨bc, oc + (k + 1) * 3, none⟩, fun W => ?_, rfl, hR.drop (k + 1)⟩
    obtain ⟨A', h1, h2⟩ := slC_l bc oc lc.length cc (k + 1) hk hc W
    rw [h2 (by omega)] at h1
    exact h1
theorem rest_turn {w u : World} {A : Option Addr} {ms ls : List Ch} {v : Value} (h : RdX chgE w (· < w.heap.size) A ms) (ho : OwnX chgE u w.heap.size anyB v ls) (hg : w.grownBy u (Value.slice none 0 0).ownBlock) : RdX chgE u (fun q => anyB q ∧ v.ownBlock ≠ some q) A ms :=
  (h.turn (Turn.of_grown hg) fun q _ e => by cases e).mono fun q _ hq => ⟨trivial, fun e => by have := (ho.lt q e).1; omega⟩
theorem smallR_nil : SmallR [] := ⟨by simp, by simp⟩

theorem wrap_succ7 {k : Nat} (h : k < 9223372036854775807) : wrap64 ((k : Int) + 1) = (k : Int) + 1 := by unfold wrap64; omega
set_option maxHeartbeats 8000000 in
theorem leads7_long (K : K7) (l0 : List Rw) (A0 : Option Addr) (c0 : Nat) (l1 : List Rw) (A1 : Option Addr) (c1 : Nat) (l2 : List Ch) (A2 : Option Addr) (c2 : Nat) (n3 : Nat) (w : World)
    (hs0 : ∀ z ∈ l0, z.1.length ≤ maxLen) (r0 : RdX rowE w (· < w.heap.size) A0 l0) (hc0 : l0.length ≤ c0) (hm0 : c0 ≤ maxLen) (n0 : A0 = none → l0 = [] ∧ c0 = 0)
    (hs1 : ∀ z ∈ l1, z.1.length ≤ maxLen) (r1 : RdX rowE w (· < w.heap.size) A1 l1) (hc1 : l1.length ≤ c1) (hm1 : c1 ≤ maxLen) (n1 : A1 = none → l1 = [] ∧ c1 = 0)
    (hs2 : ∀ z ∈ l2, z.1.length ≤ maxLen) (r2 : RdX chgE w (· < w.heap.size) A2 l2) (hc2 : l2.length ≤ c2) (hm2 : c2 ≤ maxLen) (n2 : A2 = none → l2 = [] ∧ c2 = 0) (hi3 : n3 < 256) (hlong : 60 < l0.length ∨ 60 < l1.length ∨ 60 < l2.length) :
    Calls Try.prog 6 #[.slice A0 l0.length c0, .slice A1 l1.length c1, .slice A2 l2.length c2, .int .u8 (n3 : Int)] w fun e w' => e = .returned (.bool true) ∧ Below w.heap.size w w' := by
  have HK := Lib.hid K
  have B0 := Lib.hid (Below.refl w.heap.size w)
  have T0 := Lib.hid (show LsV rowE w (· < w.heap.size) (.slice A0 l0.length c0) l0 from ⟨A0, c0, rfl, r0, hc0, hm0, n0⟩)
  have U0 := Lib.hid (show LsV rowE w (· < w.heap.size) (.slice A1 l1.length c1) l1 from ⟨A1, c1, rfl, r1, hc1, hm1, n1⟩)
  have L0 := Lib.hid (show LsV chgE w (· < w.heap.size) (.slice A2 l2.length c2) l2 from ⟨A2, c2, rfl, r2, hc2, hm2, n2⟩)
  have HS0 := Lib.hid hs0
  have HS1 := Lib.hid hs1
  have HS2 := Lib.hid hs2
  unfold maxLen at hm0 hm1 hm2
  have hm0' : (l0.length : Int) ≤ 9223372036854775807 := by omega
  have hm1' : (l1.length : Int) ≤ 9223372036854775807 := by omega
  have hm2' : (l2.length : Int) ≤ 9223372036854775807 := by omega
  clear K r0 r1 r2 n0 n1 n2 hs0 hs1 hs2
  by_cases h0 : 60 < l0.length
  · have h0' : (60 : Int) < (l0.length : Int) := by omega
    go_enter Try.func6, Try.ntmps6
    go_wp2_with fail
    refine (lives7_any HK.out _).mono ?_
    rintro e w1 ⟨rfl, hb⟩
    have B1 := Lib.hid hb
    clear hb
    go_wp2_with fail
    go_ret
    exact ⟨rfl, B1.out⟩
  by_cases h1 : 60 < l1.length
  · have h0' : ¬ (60 : Int) < (l0.length : Int) := by omega
    have h1' : (60 : Int) < (l1.length : Int) := by omega
    go_enter Try.func6, Try.ntmps6
    go_wp2_with fail
    refine (lives7_any HK.out _).mono ?_
    rintro e w1 ⟨rfl, hb⟩
    have B1 := Lib.hid hb
    clear hb
    go_wp2_with fail
    go_ret
    exact ⟨rfl, B1.out⟩
  · have h0' : ¬ (60 : Int) < (l0.length : Int) := by omega
    have h1' : ¬ (60 : Int) < (l1.length : Int) := by omega
    have h2' : (60 : Int) < (l2.length : Int) := by omega
    go_enter Try.func6, Try.ntmps6
    go_wp2_with fail
    refine (lives7_any HK.out _).mono ?_
    rintro e w1 ⟨rfl, hb⟩
    have B1 := Lib.hid hb
    clear hb
    go_wp2_with fail
    go_ret
    exact ⟨rfl, B1.out⟩

end Go.Proofs.Ytiemphfikfigdaa
