/- XdrTells: the walk. -/
import Derived.Test.YtafafffheabjjaaXdArgs
import Derived.Test.YtafafffheabjjaaXdLives
import Derived.Test.YtafafffheabjjaaXdQ3
namespace Go.Proofs.Ytafafffheabjjaa
open Go.RowKit Go.Shelf
set_option linter.unusedVariables false
set_option maxRecDepth 100000
set_option linter.unusedSimpArgs false

theorem truthR_all (s : RS) : (truthR s).2.all = s.all := by
  unfold truthR
  dsimp only
  split
  · exact numR_all s 4
  · exact numR_all s 4
theorem bytesR_all (s : RS) (m : Int) : (bytesR s m).2.all = s.all := by
  rw [bytesR_is]
  unfold bytesN
  split
  · exact numR_all s 4
  · split
    · exact numR_all s 4
    · split
      · exact numR_all s 4
      · exact numR_all s 4
theorem RdX.fb {α : Type} {E : Elem α} {w : World} {F : Nat → Prop} {b off : Nat} {ls : List α} (h : RdX E w F (some ⟨b, off, none⟩) ls) (hne : ls ≠ []) : F b := by
  rcases h with h | ⟨b', off', xs, e, hF, -⟩
  · exact absurd h hne
  · cases e
    exact hF
theorem BsV.rd1 {w : World} {F : Nat → Prop} {A : Option Addr} {n c : Nat} {l : List UInt8} (h : BsV w F (.slice A n c) l) : Rd w A l := by
  obtain ⟨A', c', e, h1, _⟩ := h
  cases e
  exact h1.rd
/-- both readers, at the same place -/
def Both9 (rb qb : Nat) (FR FQ : Nat → Prop) (w2 : World) (s : RS) (u : World) : Prop := RdAt u rb s FR ∧ QAt u qb s FQ ∧ Turn w2 u (fun k => k = rb ∨ k = qb ∨ w2.heap.size ≤ k)
theorem kept_both {rb qb : Nat} {FR FQ : Nat → Prop} {w2 : World} {s : RS} : Kept (Both9 rb qb FR FQ w2 s) := fun u u' h hb => ⟨h.1.below hb, h.2.1.below hb, h.2.2.trans (Turn.of_below hb fun _ => False) fun _ _ h => h.elim⟩
theorem Both9.r {rb qb : Nat} {FR FQ : Nat → Prop} {w2 : World} {s s' : RS} {u u' : World} (h : Both9 rb qb FR FQ w2 s u) (hr : RdAt u' rb s' FR) (ht : Turn u u' (· = rb)) (hne : qb ≠ rb) (hq : ∀ k, FQ k → k ≠ rb) : RdAt u' rb s' FR ∧ QAt u' qb s FQ ∧ Turn w2 u' (fun k => k = rb ∨ k = qb ∨ w2.heap.size ≤ k) :=
  ⟨hr, h.2.1.turn ht hne hq, h.2.2.trans ht fun _ _ e => .inl e⟩
/-- a round of XdrTells -/
def TellRel (rb qb : Nat) (FR FQ : Nat → Prop) (w2 : World) (n : Nat) (L : List UInt8) (i : Value) (wr : World) : Prop := ∃ (k : Nat) (s : RS), k ≤ n ∧ k ≤ 60 ∧ i = .int .i64 (k : Int) ∧ s.all = L ∧ Both9 rb qb FR FQ w2 s wr
set_option maxHeartbeats 16000000 in
theorem tells9_walk (l0 : List UInt8) (A0 : Option Addr) (c0 : Nat) (l1 : List Th) (A1 : Option Addr) (c1 : Nat) (n2 : Nat) (w : World) (hl0 : l0.length ≤ 140737488351232) (rd0 : Rd w A0 l0) (hlc0 : l0.length ≤ c0) (hcm0 : c0 ≤ maxLen) (nil0 : A0 = none → l0 = [] ∧ c0 = 0)
    (rd1 : RdX thingE w (· < w.heap.size) A1 l1) (hlc1 : l1.length ≤ c1) (hcm1 : c1 ≤ maxLen) (hi2 : n2 < 256) :
    Calls Try.prog 4 #[.slice A0 l0.length c0, .slice A1 l1.length c1, .int .u8 (n2 : Int)] w fun e w' => e = .returned (.bool true) ∧ Below w.heap.size w w' := by
  have hmix : Try.prog.follows .mixedOrders = true := by kernel_rfl
  obtain ⟨bx, hbx, hor⟩ := or_one n2 hi2
  have hbx' : (bx : Int) ≤ 255 := by omega
  have hm1 : (l1.length : Int) ≤ 9223372036854775807 := by unfold maxLen at hcm1; omega
  have hwd := Wide_ty l0 A0 c0 w (by omega) rd0 nil0
  have R0 := Lib.hid rd0
  have R1 := Lib.hid rd1
  have HBX := Lib.hid hbx
  have HL0 := Lib.hid hl0
  have hv0 : BsV w (· < w.heap.size) (.slice A0 l0.length c0) l0 := ⟨A0, c0, rfl, rd0.f fun b off e hlt => hlt, nil0, hlc0, hcm0⟩
  have V0 := Lib.hid hv0
  clear rd0 rd1 hcm0 hlc0 hi2 hbx hl0 hv0 hcm1 hlc1
  go_enter Try.func4, Try.ntmps4
  go_wp2_with fail
  refine hwd.mono ?_
  clear hwd
  rintro e w1 ⟨g, cap, rfl, hc3, hcm, hrw, -, hg0, hg1, hb1⟩
  have hnr := NewReader_v l0 (some ⟨g, 0, none⟩) cap w1 (by have := HL0.out; omega) (rd_prefix hrw) (fun h => by cases h)
  have B1 := Lib.hid hb1
  have RW1 := Lib.hid hrw
  have HC := Lib.hid (And.intro hc3 hcm)
  clear hb1 hrw hc3 hcm
  go_wp2_with fail
  refine hnr.mono ?_
  clear hnr
  rintro e w2 ⟨rb, rfl, hr, hrb, hb2⟩
  have hr' := hr.tight
  have hrl := hr.lt
  have hs1 := B1.out.size
  go_wp2_with fail
  have hba := (Below.refl w2.heap.size w2).alloc (Nat.le_refl _) (.cells #[.slice A0 l0.length c0, .int .i64 0, .int .i64 0] 49)
  have hqc := Cs.new w2 49 #[.slice A0 l0.length c0, .int .i64 0, .int .i64 0]
  have hqv : QAt (w2.alloc (.cells #[.slice A0 l0.length c0, .int .i64 0, .int .i64 0] 49)) w2.heap.size ⟨l0, 0, 0⟩ (· < w.heap.size) := ⟨_, hqc, (V0.out.below B1.out).below hb2 |>.below hba, by have := hb2.size; omega, Nat.zero_le _⟩
  have B2 := Lib.hid (below_chain (below_chain B1.out hb2) hba)
  have RW2 := Lib.hid ((RW1.out.below hb2).below hba)
  have hbo : Both9 rb w2.heap.size (fun k => (w1.heap.size ≤ k ∧ k ≠ rb) ∧ k < w2.heap.size) (· < w.heap.size) (w2.alloc (.cells #[.slice A0 l0.length c0, .int .i64 0, .int .i64 0] 49)) ⟨l0, 0, 0⟩ (w2.alloc (.cells #[.slice A0 l0.length c0, .int .i64 0, .int .i64 0] 49)) := ⟨hr'.below hba, hqv, Turn.refl _ _⟩
  have hN : (w2.alloc (.cells #[.slice A0 l0.length c0, .int .i64 0, .int .i64 0] 49)).heap.size = w2.heap.size + 1 := World.size_alloc _ _
  have hs2 := hb2.size
  obtain ⟨qb, hqb⟩ : ∃ qb, qb = w2.heap.size := ⟨_, rfl⟩
  rw [← hqb] at hN hbo hrl hs2
  have hpq : (Value.pointer (some ⟨w2.heap.size, 0, none⟩)) = .pointer (some ⟨qb, 0, none⟩) := by rw [hqb]
  rw [hpq]
  generalize w2.alloc (.cells #[.slice A0 l0.length c0, .int .i64 0, .int .i64 0] 49) = W at *
  have hFR : ∀ k, ((w1.heap.size ≤ k ∧ k ≠ rb) ∧ k < qb) → k ≠ rb ∧ k ≠ qb ∧ k < W.heap.size := fun k hk => ⟨hk.1.2, by omega, by omega⟩
  have hFQ : ∀ k, k < w.heap.size → k ≠ rb ∧ k ≠ qb ∧ k < W.heap.size := fun k hk => ⟨by omega, by omega, by omega⟩
  have hgg : g ≠ rb ∧ g ≠ qb ∧ g < W.heap.size := ⟨by omega, by omega, by omega⟩
  have hne : rb ≠ qb := by omega
  have hrW : w.heap.size ≤ rb := by omega
  have hqW : w.heap.size ≤ qb := by omega
  generalize hFRd : (fun k => (w1.heap.size ≤ k ∧ k ≠ rb) ∧ k < qb) = FR at *
  have hFR' : ∀ k, FR k → k ≠ rb ∧ k ≠ qb ∧ k < W.heap.size := fun k hk => hFR k (by rw [← hFRd] at hk; exact hk)
  have HFR := Lib.hid hFR'
  have HFQ := Lib.hid hFQ
  have HBO := Lib.hid hbo
  have HGG := Lib.hid hgg
  have HNE := Lib.hid hne
  have HNE2 := Lib.hid (show rb < W.heap.size ∧ qb < W.heap.size by omega)
  clear hr hr' hrb hb2 hba hqc hqv hbo hN hqb hpq hFRd hFR hFR' hFQ hgg hne hs1 hs2 hrl hg0 hg1 RW1 B1
  go_loopw [10] (fun i wr => TellRel rb qb FR (· < w.heap.size) W l1.length l0 i wr) (fun i _ => 60 - (intOf i).toNat)
  case atStart => exact ⟨0, ⟨l0, 0, 0⟩, Nat.zero_le _, Nat.zero_le _, rfl, rfl, HBO.out⟩
  case round =>
    obtain ⟨k, s, hk, hk60, rfl, hall, hbo⟩ := hrel
    have KB := Lib.hid hbo
    have HALL := Lib.hid hall
    clear hbo hall
    by_cases hgo : k < l1.length ∧ k < 60
    · obtain ⟨hlt, h60⟩ := hgo
      have hlt' : (k : Int) < (l1.length : Int) := by omega
      have h60' : (k : Int) < 60 := by omega
      have hx := ((R1.out.below B2.out).turn KB.out.2.2 fun q hq hh => by
        have := HFQ.out q hq
        rcases hh with e | e | e
        · exact this.1 e
        · exact this.2.1 e
        · omega)
      obtain ⟨b, off, cs, rfl, ⟨vb, hcs, -, hok⟩, hat⟩ := hx.get k hlt
      obtain ⟨hw0, hn0, hm0, hm9⟩ := hok
      subst hcs
      have e0 : wr.cell? ⟨b, off + k * 5, none⟩ = some (.int .u8 (l1[k].what : Int)) := hat 0 _ rfl
      have e4 : wr.cell? ⟨b, off + k * 5 + 4, none⟩ = some (.int .i64 l1[k].most) := hat 4 _ rfl
      have hbF := hx.fb (by intro h; rw [h] at hlt; simp at hlt)
      have HBF := Lib.hid (HFQ.out b hbF)
      clear hx hat hn0 hbF
      generalize l1[k].most = most at *
      generalize l1[k].what = what at *
      have hw0' : (what : Int) ≤ 255 := by omega
      have h4 : what % 4 = 0 ∨ what % 4 = 1 ∨ what % 4 = 2 ∨ what % 4 = 3 := by omega
      clear hw0
      rcases h4 with h4 | h4 | h4 | h4
      · have hq : (what : Int) % 4 = 0 := by omega
        clear h4
        have hnr := Number_r KB.out.1
        have hal := (numR_all s 4 : (numR s 4).2.all = s.all)
        obtain ⟨nv, hnv⟩ : ∃ nv, nv = (numR s 4).1 := ⟨_, rfl⟩
        obtain ⟨s', hs'⟩ : ∃ s', s' = (numR s 4).2 := ⟨_, rfl⟩
        rw [← hnv, ← hs'] at hnr
        rw [← hs'] at hal
        have HNV := Lib.hid (And.intro hnv hs')
        clear hnv hs'
        have HAL := Lib.hid hal
        clear hal
        go_wp2_with fail
        refine hnr.mono ?_
        clear hnr
        rintro e u1 ⟨rfl, hr, ht⟩
        have M1 := Lib.hid (KB.out.r hr ht (Ne.symm HNE.out) fun q hq => (HFQ.out q hq).1)
        clear hr ht
        have hnq := Number_q M1.out.2.1
        rw [← HNV.out.1, ← HNV.out.2] at hnq
        go_wp2_with fail
        refine hnq.mono ?_
        clear hnq
        rintro e u2 ⟨rfl, hr, ht⟩
        have M2 := Lib.hid (show Both9 rb qb FR (· < w.heap.size) W s' u2 from ⟨M1.out.1.turn ht HNE.out (fun q hq => (HFR.out q hq).2.1), hr, M1.out.2.2.trans ht fun _ _ e => .inr (.inl e)⟩)
        clear hr ht M1
        go_wp2_with fail
        refine wp_region_V [] (Both9 rb qb FR (· < w.heap.size) W s' ) hmix (kept_both _ _ M2.out (Below.refl _ _).drew) ?_
        change wpAnyV _ _ _ _ _ _ _ _ _
        refine wpAnyV_take (i := 0) (v := .bool true) 8 kept_both rfl (by kernel_rfl) (by kernel_rfl) (fun _ _ _ h => h) (fun _ h => h) (DoesV.reads (by rfl) fun w9 hS => by go_simp) ?_
        try simp only [List.getElem_toArray, List.getElem_cons_succ, List.getElem_cons_zero, Act.put, List.setIfInBounds_toArray, List.set_cons_succ, List.set_cons_zero]
        refine wpAnyV_take (i := 1) (v := .bool false) 8 kept_both rfl (by kernel_rfl) (by kernel_rfl) (fun _ _ _ h => h) (fun _ h => h) (DoesV.reads (by rfl) fun w9 hS => by go_simp) ?_
        try simp only [List.getElem_toArray, List.getElem_cons_succ, List.getElem_cons_zero, Act.put, List.setIfInBounds_toArray, List.set_cons_succ, List.set_cons_zero]
        refine wpAnyV_take (i := 2) (v := .bool false) 8 kept_both rfl (by kernel_rfl) (by kernel_rfl) (fun _ _ _ h => h) (fun _ h => h) (DoesV.reads (by rfl) fun w9 hS => by go_simp) ?_
        try simp only [List.getElem_toArray, List.getElem_cons_succ, List.getElem_cons_zero, Act.put, List.setIfInBounds_toArray, List.set_cons_succ, List.set_cons_zero]
        refine wpAnyV_take (i := 3) (v := .pointer (some ⟨rb, 0, none⟩)) 8 kept_both rfl (by kernel_rfl) (by kernel_rfl) (fun _ _ _ h => h) (fun _ h => h) (DoesV.reads (by rfl) fun w9 hS => by go_simp) ?_
        try simp only [List.getElem_toArray, List.getElem_cons_succ, List.getElem_cons_zero, Act.put, List.setIfInBounds_toArray, List.set_cons_succ, List.set_cons_zero]
        refine wpAnyV_take (i := 4) (v := .int .i64 s'.err) 8 kept_both rfl (by kernel_rfl) (by kernel_rfl) (fun _ _ _ h => h) (fun _ h => h) (DoesV.calls 30 #[.pointer (some ⟨rb, 0, none⟩)] (by rfl) (fun w9 hS => by go_simp) (fun w9 hS => (Error_r hS.1).mono fun e u ⟨h1, h2⟩ => ⟨h1, h2 ▸ Below.refl _ _⟩)) ?_
        try simp only [List.getElem_toArray, List.getElem_cons_succ, List.getElem_cons_zero, Act.put, List.setIfInBounds_toArray, List.set_cons_succ, List.set_cons_zero]
        refine wpAnyV_take (i := 5) (v := .pointer (some ⟨qb, 0, none⟩)) 8 kept_both rfl (by kernel_rfl) (by kernel_rfl) (fun _ _ _ h => h) (fun _ h => h) (DoesV.reads (by rfl) fun w9 hS => by go_simp) ?_
        try simp only [List.getElem_toArray, List.getElem_cons_succ, List.getElem_cons_zero, Act.put, List.setIfInBounds_toArray, List.set_cons_succ, List.set_cons_zero]
        refine wpAnyV_take (i := 6) (v := .pointer (some ⟨qb, 0, none⟩)) 8 kept_both rfl (by kernel_rfl) (by kernel_rfl) (fun _ _ _ h => h) (fun _ h => h) (DoesV.reads (by rfl) fun w9 hS => by go_simp) ?_
        try simp only [List.getElem_toArray, List.getElem_cons_succ, List.getElem_cons_zero, Act.put, List.setIfInBounds_toArray, List.set_cons_succ, List.set_cons_zero]
        refine wpAnyV_take (i := 7) (v := .pointer (some ⟨qb, 2, none⟩)) 8 kept_both rfl (by kernel_rfl) (by kernel_rfl) (fun _ _ _ h => h) (fun _ h => h) (DoesV.reads (by rfl) fun w9 hS => by go_simp) ?_
        try simp only [List.getElem_toArray, List.getElem_cons_succ, List.getElem_cons_zero, Act.put, List.setIfInBounds_toArray, List.set_cons_succ, List.set_cons_zero]
        refine wpAnyV_take (i := 8) (v := .int .i64 s'.err) 8 kept_both rfl (by kernel_rfl) (by kernel_rfl) (fun _ _ _ h => h) (fun _ h => h) (DoesV.reads (by rfl) fun w9 hS => by have q0 := hS.2.1.f2.1; go_simp) ?_
        try simp only [List.getElem_toArray, List.getElem_cons_succ, List.getElem_cons_zero, Act.put, List.setIfInBounds_toArray, List.set_cons_succ, List.set_cons_zero]
        refine wpAnyV_take (i := 9) (v := .bool false) 8 kept_both rfl (by kernel_rfl) (by kernel_rfl) (fun _ _ _ h => h) (fun _ h => h) (DoesV.reads (by rfl) fun w9 hS => by go_simp) ?_
        try simp only [List.getElem_toArray, List.getElem_cons_succ, List.getElem_cons_zero, Act.put, List.setIfInBounds_toArray, List.set_cons_succ, List.set_cons_zero]
        refine wpAnyV_take (i := 10) (v := .bool false) 8 kept_both rfl (by kernel_rfl) (by kernel_rfl) (fun _ _ _ h => h) (fun _ h => h) (DoesV.reads (by rfl) fun w9 hS => by go_simp) ?_
        try simp only [List.getElem_toArray, List.getElem_cons_succ, List.getElem_cons_zero, Act.put, List.setIfInBounds_toArray, List.set_cons_succ, List.set_cons_zero]
        refine wpAnyV_take (i := 11) (v := .bool false) 8 kept_both rfl (by kernel_rfl) (by kernel_rfl) (fun _ _ _ h => h) (fun _ h => h) (DoesV.reads (by rfl) fun w9 hS => by go_simp) ?_
        try simp only [List.getElem_toArray, List.getElem_cons_succ, List.getElem_cons_zero, Act.put, List.setIfInBounds_toArray, List.set_cons_succ, List.set_cons_zero]
        refine wpAnyV_take (i := 12) (v := .pointer (some ⟨rb, 0, none⟩)) 8 kept_both rfl (by kernel_rfl) (by kernel_rfl) (fun _ _ _ h => h) (fun _ h => h) (DoesV.reads (by rfl) fun w9 hS => by go_simp) ?_
        try simp only [List.getElem_toArray, List.getElem_cons_succ, List.getElem_cons_zero, Act.put, List.setIfInBounds_toArray, List.set_cons_succ, List.set_cons_zero]
        refine wpAnyV_take (i := 13) (v := .int .i64 (endR s')) 8 kept_both rfl (by kernel_rfl) (by kernel_rfl) (fun _ _ _ h => h) (fun _ h => h) (DoesV.calls 31 #[.pointer (some ⟨rb, 0, none⟩)] (by rfl) (fun w9 hS => by go_simp) (fun w9 hS => End_r hS.1)) ?_
        try simp only [List.getElem_toArray, List.getElem_cons_succ, List.getElem_cons_zero, Act.put, List.setIfInBounds_toArray, List.set_cons_succ, List.set_cons_zero]
        refine wpAnyV_take (i := 14) (v := .pointer (some ⟨qb, 0, none⟩)) 8 kept_both rfl (by kernel_rfl) (by kernel_rfl) (fun _ _ _ h => h) (fun _ h => h) (DoesV.reads (by rfl) fun w9 hS => by go_simp) ?_
        try simp only [List.getElem_toArray, List.getElem_cons_succ, List.getElem_cons_zero, Act.put, List.setIfInBounds_toArray, List.set_cons_succ, List.set_cons_zero]
        refine wpAnyV_take (i := 15) (v := .int .i64 (endR s')) 8 kept_both rfl (by kernel_rfl) (by kernel_rfl) (fun _ _ _ h => h) (fun _ h => h) (DoesV.calls 32 #[.pointer (some ⟨qb, 0, none⟩)] (by rfl) (fun w9 hS => by go_simp) (fun w9 hS => End_q hS.2.1)) ?_
        try simp only [List.getElem_toArray, List.getElem_cons_succ, List.getElem_cons_zero, Act.put, List.setIfInBounds_toArray, List.set_cons_succ, List.set_cons_zero]
        refine wpAnyV_take (i := 16) (v := .bool false) 8 kept_both rfl (by kernel_rfl) (by kernel_rfl) (fun _ _ _ h => h) (fun _ h => h) (DoesV.reads (by rfl) fun w9 hS => by go_simp) ?_
        try simp only [List.getElem_toArray, List.getElem_cons_succ, List.getElem_cons_zero, Act.put, List.setIfInBounds_toArray, List.set_cons_succ, List.set_cons_zero]
        refine wpAnyV_take (i := 17) (v := .bool false) 8 kept_both rfl (by kernel_rfl) (by kernel_rfl) (fun _ _ _ h => h) (fun _ h => h) (DoesV.reads (by rfl) fun w9 hS => by go_simp) ?_
        try simp only [List.getElem_toArray, List.getElem_cons_succ, List.getElem_cons_zero, Act.put, List.setIfInBounds_toArray, List.set_cons_succ, List.set_cons_zero]
        refine wpAnyV_done (by kernel_rfl) (fun y hu => ?_) _
        have Y := Lib.hid hu
        clear hu M2
        go_wp2_with fail
        go_roundw
        case rel => exact ⟨k + 1, s', hlt, h60, by go_num, HAL.out.trans HALL.out, Y.out⟩
        case measure => simp [RowKit.intOf]; omega
      · have hq : (what : Int) % 4 = 1 := by omega
        clear h4
        have hnr := Great_r KB.out.1
        have hal := (numR_all s 8 : (numR s 8).2.all = s.all)
        obtain ⟨nv, hnv⟩ : ∃ nv, nv = (numR s 8).1 := ⟨_, rfl⟩
        obtain ⟨s', hs'⟩ : ∃ s', s' = (numR s 8).2 := ⟨_, rfl⟩
        rw [← hnv, ← hs'] at hnr
        rw [← hs'] at hal
        have HNV := Lib.hid (And.intro hnv hs')
        clear hnv hs'
        have HAL := Lib.hid hal
        clear hal
        go_wp2_with fail
        refine hnr.mono ?_
        clear hnr
        rintro e u1 ⟨rfl, hr, ht⟩
        have M1 := Lib.hid (KB.out.r hr ht (Ne.symm HNE.out) fun q hq => (HFQ.out q hq).1)
        clear hr ht
        have hnq := Great_q M1.out.2.1
        rw [← HNV.out.1, ← HNV.out.2] at hnq
        go_wp2_with fail
        refine hnq.mono ?_
        clear hnq
        rintro e u2 ⟨rfl, hr, ht⟩
        have M2 := Lib.hid (show Both9 rb qb FR (· < w.heap.size) W s' u2 from ⟨M1.out.1.turn ht HNE.out (fun q hq => (HFR.out q hq).2.1), hr, M1.out.2.2.trans ht fun _ _ e => .inr (.inl e)⟩)
        clear hr ht M1
        go_wp2_with fail
        refine wp_region_V [] (Both9 rb qb FR (· < w.heap.size) W s' ) hmix (kept_both _ _ M2.out (Below.refl _ _).drew) ?_
        change wpAnyV _ _ _ _ _ _ _ _ _
        refine wpAnyV_take (i := 0) (v := .bool true) 8 kept_both rfl (by kernel_rfl) (by kernel_rfl) (fun _ _ _ h => h) (fun _ h => h) (DoesV.reads (by rfl) fun w9 hS => by go_simp) ?_
        try simp only [List.getElem_toArray, List.getElem_cons_succ, List.getElem_cons_zero, Act.put, List.setIfInBounds_toArray, List.set_cons_succ, List.set_cons_zero]
        refine wpAnyV_take (i := 1) (v := .bool false) 8 kept_both rfl (by kernel_rfl) (by kernel_rfl) (fun _ _ _ h => h) (fun _ h => h) (DoesV.reads (by rfl) fun w9 hS => by go_simp) ?_
        try simp only [List.getElem_toArray, List.getElem_cons_succ, List.getElem_cons_zero, Act.put, List.setIfInBounds_toArray, List.set_cons_succ, List.set_cons_zero]
        refine wpAnyV_take (i := 2) (v := .bool false) 8 kept_both rfl (by kernel_rfl) (by kernel_rfl) (fun _ _ _ h => h) (fun _ h => h) (DoesV.reads (by rfl) fun w9 hS => by go_simp) ?_
        try simp only [List.getElem_toArray, List.getElem_cons_succ, List.getElem_cons_zero, Act.put, List.setIfInBounds_toArray, List.set_cons_succ, List.set_cons_zero]
        refine wpAnyV_take (i := 3) (v := .pointer (some ⟨rb, 0, none⟩)) 8 kept_both rfl (by kernel_rfl) (by kernel_rfl) (fun _ _ _ h => h) (fun _ h => h) (DoesV.reads (by rfl) fun w9 hS => by go_simp) ?_
        try simp only [List.getElem_toArray, List.getElem_cons_succ, List.getElem_cons_zero, Act.put, List.setIfInBounds_toArray, List.set_cons_succ, List.set_cons_zero]
        refine wpAnyV_take (i := 4) (v := .int .i64 s'.err) 8 kept_both rfl (by kernel_rfl) (by kernel_rfl) (fun _ _ _ h => h) (fun _ h => h) (DoesV.calls 30 #[.pointer (some ⟨rb, 0, none⟩)] (by rfl) (fun w9 hS => by go_simp) (fun w9 hS => (Error_r hS.1).mono fun e u ⟨h1, h2⟩ => ⟨h1, h2 ▸ Below.refl _ _⟩)) ?_
        try simp only [List.getElem_toArray, List.getElem_cons_succ, List.getElem_cons_zero, Act.put, List.setIfInBounds_toArray, List.set_cons_succ, List.set_cons_zero]
        refine wpAnyV_take (i := 5) (v := .pointer (some ⟨qb, 0, none⟩)) 8 kept_both rfl (by kernel_rfl) (by kernel_rfl) (fun _ _ _ h => h) (fun _ h => h) (DoesV.reads (by rfl) fun w9 hS => by go_simp) ?_
        try simp only [List.getElem_toArray, List.getElem_cons_succ, List.getElem_cons_zero, Act.put, List.setIfInBounds_toArray, List.set_cons_succ, List.set_cons_zero]
        refine wpAnyV_take (i := 6) (v := .pointer (some ⟨qb, 0, none⟩)) 8 kept_both rfl (by kernel_rfl) (by kernel_rfl) (fun _ _ _ h => h) (fun _ h => h) (DoesV.reads (by rfl) fun w9 hS => by go_simp) ?_
        try simp only [List.getElem_toArray, List.getElem_cons_succ, List.getElem_cons_zero, Act.put, List.setIfInBounds_toArray, List.set_cons_succ, List.set_cons_zero]
        refine wpAnyV_take (i := 7) (v := .pointer (some ⟨qb, 2, none⟩)) 8 kept_both rfl (by kernel_rfl) (by kernel_rfl) (fun _ _ _ h => h) (fun _ h => h) (DoesV.reads (by rfl) fun w9 hS => by go_simp) ?_
        try simp only [List.getElem_toArray, List.getElem_cons_succ, List.getElem_cons_zero, Act.put, List.setIfInBounds_toArray, List.set_cons_succ, List.set_cons_zero]
        refine wpAnyV_take (i := 8) (v := .int .i64 s'.err) 8 kept_both rfl (by kernel_rfl) (by kernel_rfl) (fun _ _ _ h => h) (fun _ h => h) (DoesV.reads (by rfl) fun w9 hS => by have q0 := hS.2.1.f2.1; go_simp) ?_
        try simp only [List.getElem_toArray, List.getElem_cons_succ, List.getElem_cons_zero, Act.put, List.setIfInBounds_toArray, List.set_cons_succ, List.set_cons_zero]
        refine wpAnyV_take (i := 9) (v := .bool false) 8 kept_both rfl (by kernel_rfl) (by kernel_rfl) (fun _ _ _ h => h) (fun _ h => h) (DoesV.reads (by rfl) fun w9 hS => by go_simp) ?_
        try simp only [List.getElem_toArray, List.getElem_cons_succ, List.getElem_cons_zero, Act.put, List.setIfInBounds_toArray, List.set_cons_succ, List.set_cons_zero]
        refine wpAnyV_take (i := 10) (v := .bool false) 8 kept_both rfl (by kernel_rfl) (by kernel_rfl) (fun _ _ _ h => h) (fun _ h => h) (DoesV.reads (by rfl) fun w9 hS => by go_simp) ?_
        try simp only [List.getElem_toArray, List.getElem_cons_succ, List.getElem_cons_zero, Act.put, List.setIfInBounds_toArray, List.set_cons_succ, List.set_cons_zero]
        refine wpAnyV_take (i := 11) (v := .bool false) 8 kept_both rfl (by kernel_rfl) (by kernel_rfl) (fun _ _ _ h => h) (fun _ h => h) (DoesV.reads (by rfl) fun w9 hS => by go_simp) ?_
        try simp only [List.getElem_toArray, List.getElem_cons_succ, List.getElem_cons_zero, Act.put, List.setIfInBounds_toArray, List.set_cons_succ, List.set_cons_zero]
        refine wpAnyV_take (i := 12) (v := .pointer (some ⟨rb, 0, none⟩)) 8 kept_both rfl (by kernel_rfl) (by kernel_rfl) (fun _ _ _ h => h) (fun _ h => h) (DoesV.reads (by rfl) fun w9 hS => by go_simp) ?_
        try simp only [List.getElem_toArray, List.getElem_cons_succ, List.getElem_cons_zero, Act.put, List.setIfInBounds_toArray, List.set_cons_succ, List.set_cons_zero]
        refine wpAnyV_take (i := 13) (v := .int .i64 (endR s')) 8 kept_both rfl (by kernel_rfl) (by kernel_rfl) (fun _ _ _ h => h) (fun _ h => h) (DoesV.calls 31 #[.pointer (some ⟨rb, 0, none⟩)] (by rfl) (fun w9 hS => by go_simp) (fun w9 hS => End_r hS.1)) ?_
        try simp only [List.getElem_toArray, List.getElem_cons_succ, List.getElem_cons_zero, Act.put, List.setIfInBounds_toArray, List.set_cons_succ, List.set_cons_zero]
        refine wpAnyV_take (i := 14) (v := .pointer (some ⟨qb, 0, none⟩)) 8 kept_both rfl (by kernel_rfl) (by kernel_rfl) (fun _ _ _ h => h) (fun _ h => h) (DoesV.reads (by rfl) fun w9 hS => by go_simp) ?_
        try simp only [List.getElem_toArray, List.getElem_cons_succ, List.getElem_cons_zero, Act.put, List.setIfInBounds_toArray, List.set_cons_succ, List.set_cons_zero]
        refine wpAnyV_take (i := 15) (v := .int .i64 (endR s')) 8 kept_both rfl (by kernel_rfl) (by kernel_rfl) (fun _ _ _ h => h) (fun _ h => h) (DoesV.calls 32 #[.pointer (some ⟨qb, 0, none⟩)] (by rfl) (fun w9 hS => by go_simp) (fun w9 hS => End_q hS.2.1)) ?_
        try simp only [List.getElem_toArray, List.getElem_cons_succ, List.getElem_cons_zero, Act.put, List.setIfInBounds_toArray, List.set_cons_succ, List.set_cons_zero]
        refine wpAnyV_take (i := 16) (v := .bool false) 8 kept_both rfl (by kernel_rfl) (by kernel_rfl) (fun _ _ _ h => h) (fun _ h => h) (DoesV.reads (by rfl) fun w9 hS => by go_simp) ?_
        try simp only [List.getElem_toArray, List.getElem_cons_succ, List.getElem_cons_zero, Act.put, List.setIfInBounds_toArray, List.set_cons_succ, List.set_cons_zero]
        refine wpAnyV_take (i := 17) (v := .bool false) 8 kept_both rfl (by kernel_rfl) (by kernel_rfl) (fun _ _ _ h => h) (fun _ h => h) (DoesV.reads (by rfl) fun w9 hS => by go_simp) ?_
        try simp only [List.getElem_toArray, List.getElem_cons_succ, List.getElem_cons_zero, Act.put, List.setIfInBounds_toArray, List.set_cons_succ, List.set_cons_zero]
        refine wpAnyV_done (by kernel_rfl) (fun y hu => ?_) _
        have Y := Lib.hid hu
        clear hu M2
        go_wp2_with fail
        go_roundw
        case rel => exact ⟨k + 1, s', hlt, h60, by go_num, HAL.out.trans HALL.out, Y.out⟩
        case measure => simp [RowKit.intOf]; omega
      · have hq : (what : Int) % 4 = 2 := by omega
        clear h4
        have hnr := Truth_r KB.out.1
        have hal := (truthR_all s : (truthR s).2.all = s.all)
        obtain ⟨nv, hnv⟩ : ∃ nv, nv = (truthR s).1 := ⟨_, rfl⟩
        obtain ⟨s', hs'⟩ : ∃ s', s' = (truthR s).2 := ⟨_, rfl⟩
        rw [← hnv, ← hs'] at hnr
        rw [← hs'] at hal
        have HNV := Lib.hid (And.intro hnv hs')
        clear hnv hs'
        have HAL := Lib.hid hal
        clear hal
        go_wp2_with fail
        refine hnr.mono ?_
        clear hnr
        rintro e u1 ⟨rfl, hr, ht⟩
        have M1 := Lib.hid (KB.out.r hr ht (Ne.symm HNE.out) fun q hq => (HFQ.out q hq).1)
        clear hr ht
        have hnq := Truth_q M1.out.2.1
        rw [← HNV.out.1, ← HNV.out.2] at hnq
        go_wp2_with fail
        refine hnq.mono ?_
        clear hnq
        rintro e u2 ⟨rfl, hr, ht⟩
        have M2 := Lib.hid (show Both9 rb qb FR (· < w.heap.size) W s' u2 from ⟨M1.out.1.turn ht HNE.out (fun q hq => (HFR.out q hq).2.1), hr, M1.out.2.2.trans ht fun _ _ e => .inr (.inl e)⟩)
        clear hr ht M1
        go_wp2_with fail
        refine wp_region_V [] (Both9 rb qb FR (· < w.heap.size) W s' ) hmix (kept_both _ _ M2.out (Below.refl _ _).drew) ?_
        change wpAnyV _ _ _ _ _ _ _ _ _
        refine wpAnyV_take (i := 0) (v := .bool true) 8 kept_both rfl (by kernel_rfl) (by kernel_rfl) (fun _ _ _ h => h) (fun _ h => h) (DoesV.reads (by rfl) fun w9 hS => by go_simp) ?_
        try simp only [List.getElem_toArray, List.getElem_cons_succ, List.getElem_cons_zero, Act.put, List.setIfInBounds_toArray, List.set_cons_succ, List.set_cons_zero]
        refine wpAnyV_take (i := 1) (v := .bool false) 8 kept_both rfl (by kernel_rfl) (by kernel_rfl) (fun _ _ _ h => h) (fun _ h => h) (DoesV.reads (by rfl) fun w9 hS => by go_simp) ?_
        try simp only [List.getElem_toArray, List.getElem_cons_succ, List.getElem_cons_zero, Act.put, List.setIfInBounds_toArray, List.set_cons_succ, List.set_cons_zero]
        refine wpAnyV_take (i := 2) (v := .bool false) 8 kept_both rfl (by kernel_rfl) (by kernel_rfl) (fun _ _ _ h => h) (fun _ h => h) (DoesV.reads (by rfl) fun w9 hS => by go_simp) ?_
        try simp only [List.getElem_toArray, List.getElem_cons_succ, List.getElem_cons_zero, Act.put, List.setIfInBounds_toArray, List.set_cons_succ, List.set_cons_zero]
        refine wpAnyV_take (i := 3) (v := .pointer (some ⟨rb, 0, none⟩)) 8 kept_both rfl (by kernel_rfl) (by kernel_rfl) (fun _ _ _ h => h) (fun _ h => h) (DoesV.reads (by rfl) fun w9 hS => by go_simp) ?_
        try simp only [List.getElem_toArray, List.getElem_cons_succ, List.getElem_cons_zero, Act.put, List.setIfInBounds_toArray, List.set_cons_succ, List.set_cons_zero]
        refine wpAnyV_take (i := 4) (v := .int .i64 s'.err) 8 kept_both rfl (by kernel_rfl) (by kernel_rfl) (fun _ _ _ h => h) (fun _ h => h) (DoesV.calls 30 #[.pointer (some ⟨rb, 0, none⟩)] (by rfl) (fun w9 hS => by go_simp) (fun w9 hS => (Error_r hS.1).mono fun e u ⟨h1, h2⟩ => ⟨h1, h2 ▸ Below.refl _ _⟩)) ?_
        try simp only [List.getElem_toArray, List.getElem_cons_succ, List.getElem_cons_zero, Act.put, List.setIfInBounds_toArray, List.set_cons_succ, List.set_cons_zero]
        refine wpAnyV_take (i := 5) (v := .pointer (some ⟨qb, 0, none⟩)) 8 kept_both rfl (by kernel_rfl) (by kernel_rfl) (fun _ _ _ h => h) (fun _ h => h) (DoesV.reads (by rfl) fun w9 hS => by go_simp) ?_
        try simp only [List.getElem_toArray, List.getElem_cons_succ, List.getElem_cons_zero, Act.put, List.setIfInBounds_toArray, List.set_cons_succ, List.set_cons_zero]
        refine wpAnyV_take (i := 6) (v := .pointer (some ⟨qb, 0, none⟩)) 8 kept_both rfl (by kernel_rfl) (by kernel_rfl) (fun _ _ _ h => h) (fun _ h => h) (DoesV.reads (by rfl) fun w9 hS => by go_simp) ?_
        try simp only [List.getElem_toArray, List.getElem_cons_succ, List.getElem_cons_zero, Act.put, List.setIfInBounds_toArray, List.set_cons_succ, List.set_cons_zero]
        refine wpAnyV_take (i := 7) (v := .pointer (some ⟨qb, 2, none⟩)) 8 kept_both rfl (by kernel_rfl) (by kernel_rfl) (fun _ _ _ h => h) (fun _ h => h) (DoesV.reads (by rfl) fun w9 hS => by go_simp) ?_
        try simp only [List.getElem_toArray, List.getElem_cons_succ, List.getElem_cons_zero, Act.put, List.setIfInBounds_toArray, List.set_cons_succ, List.set_cons_zero]
        refine wpAnyV_take (i := 8) (v := .int .i64 s'.err) 8 kept_both rfl (by kernel_rfl) (by kernel_rfl) (fun _ _ _ h => h) (fun _ h => h) (DoesV.reads (by rfl) fun w9 hS => by have q0 := hS.2.1.f2.1; go_simp) ?_
        try simp only [List.getElem_toArray, List.getElem_cons_succ, List.getElem_cons_zero, Act.put, List.setIfInBounds_toArray, List.set_cons_succ, List.set_cons_zero]
        refine wpAnyV_take (i := 9) (v := .bool false) 8 kept_both rfl (by kernel_rfl) (by kernel_rfl) (fun _ _ _ h => h) (fun _ h => h) (DoesV.reads (by rfl) fun w9 hS => by go_simp) ?_
        try simp only [List.getElem_toArray, List.getElem_cons_succ, List.getElem_cons_zero, Act.put, List.setIfInBounds_toArray, List.set_cons_succ, List.set_cons_zero]
        refine wpAnyV_take (i := 10) (v := .bool false) 8 kept_both rfl (by kernel_rfl) (by kernel_rfl) (fun _ _ _ h => h) (fun _ h => h) (DoesV.reads (by rfl) fun w9 hS => by go_simp) ?_
        try simp only [List.getElem_toArray, List.getElem_cons_succ, List.getElem_cons_zero, Act.put, List.setIfInBounds_toArray, List.set_cons_succ, List.set_cons_zero]
        refine wpAnyV_take (i := 11) (v := .bool false) 8 kept_both rfl (by kernel_rfl) (by kernel_rfl) (fun _ _ _ h => h) (fun _ h => h) (DoesV.reads (by rfl) fun w9 hS => by go_simp) ?_
        try simp only [List.getElem_toArray, List.getElem_cons_succ, List.getElem_cons_zero, Act.put, List.setIfInBounds_toArray, List.set_cons_succ, List.set_cons_zero]
        refine wpAnyV_take (i := 12) (v := .pointer (some ⟨rb, 0, none⟩)) 8 kept_both rfl (by kernel_rfl) (by kernel_rfl) (fun _ _ _ h => h) (fun _ h => h) (DoesV.reads (by rfl) fun w9 hS => by go_simp) ?_
        try simp only [List.getElem_toArray, List.getElem_cons_succ, List.getElem_cons_zero, Act.put, List.setIfInBounds_toArray, List.set_cons_succ, List.set_cons_zero]
        refine wpAnyV_take (i := 13) (v := .int .i64 (endR s')) 8 kept_both rfl (by kernel_rfl) (by kernel_rfl) (fun _ _ _ h => h) (fun _ h => h) (DoesV.calls 31 #[.pointer (some ⟨rb, 0, none⟩)] (by rfl) (fun w9 hS => by go_simp) (fun w9 hS => End_r hS.1)) ?_
        try simp only [List.getElem_toArray, List.getElem_cons_succ, List.getElem_cons_zero, Act.put, List.setIfInBounds_toArray, List.set_cons_succ, List.set_cons_zero]
        refine wpAnyV_take (i := 14) (v := .pointer (some ⟨qb, 0, none⟩)) 8 kept_both rfl (by kernel_rfl) (by kernel_rfl) (fun _ _ _ h => h) (fun _ h => h) (DoesV.reads (by rfl) fun w9 hS => by go_simp) ?_
        try simp only [List.getElem_toArray, List.getElem_cons_succ, List.getElem_cons_zero, Act.put, List.setIfInBounds_toArray, List.set_cons_succ, List.set_cons_zero]
        refine wpAnyV_take (i := 15) (v := .int .i64 (endR s')) 8 kept_both rfl (by kernel_rfl) (by kernel_rfl) (fun _ _ _ h => h) (fun _ h => h) (DoesV.calls 32 #[.pointer (some ⟨qb, 0, none⟩)] (by rfl) (fun w9 hS => by go_simp) (fun w9 hS => End_q hS.2.1)) ?_
        try simp only [List.getElem_toArray, List.getElem_cons_succ, List.getElem_cons_zero, Act.put, List.setIfInBounds_toArray, List.set_cons_succ, List.set_cons_zero]
        refine wpAnyV_take (i := 16) (v := .bool false) 8 kept_both rfl (by kernel_rfl) (by kernel_rfl) (fun _ _ _ h => h) (fun _ h => h) (DoesV.reads (by rfl) fun w9 hS => by go_simp) ?_
        try simp only [List.getElem_toArray, List.getElem_cons_succ, List.getElem_cons_zero, Act.put, List.setIfInBounds_toArray, List.set_cons_succ, List.set_cons_zero]
        refine wpAnyV_take (i := 17) (v := .bool false) 8 kept_both rfl (by kernel_rfl) (by kernel_rfl) (fun _ _ _ h => h) (fun _ h => h) (DoesV.reads (by rfl) fun w9 hS => by go_simp) ?_
        try simp only [List.getElem_toArray, List.getElem_cons_succ, List.getElem_cons_zero, Act.put, List.setIfInBounds_toArray, List.set_cons_succ, List.set_cons_zero]
        refine wpAnyV_done (by kernel_rfl) (fun y hu => ?_) _
        have Y := Lib.hid hu
        clear hu M2
        go_wp2_with fail
        go_roundw
        case rel => exact ⟨k + 1, s', hlt, h60, by go_num, HAL.out.trans HALL.out, Y.out⟩
        case measure => simp [RowKit.intOf]; omega
      · have hq : (what : Int) % 4 = 3 := by omega
        clear h4
        have hnr := Bytes_r most hm0 hm9 (by rw [HALL.out]; have := HL0.out; omega) KB.out.1
        have hal := bytesR_all s most
        obtain ⟨nv, hnv⟩ : ∃ nv, nv = (bytesR s most).1 := ⟨_, rfl⟩
        obtain ⟨s', hs'⟩ : ∃ s', s' = (bytesR s most).2 := ⟨_, rfl⟩
        rw [← hnv, ← hs'] at hnr
        rw [← hs'] at hal
        have HNV := Lib.hid (And.intro hnv hs')
        have HAL := Lib.hid hal
        clear hnv hs' hal
        go_wp2_with fail
        refine hnr.mono ?_
        clear hnr
        rintro e u1 ⟨v, rfl, hv, hty, hown, hr, ht⟩
        obtain ⟨Av, cv, rfl, -⟩ := id hv
        have M1 := Lib.hid (KB.out.r hr ht (Ne.symm HNE.out) fun q hq => (HFQ.out q hq).1)
        have hwr := KB.out.2.2.size
        have hs1 := ht.size
        have V1 := Lib.hid (And.intro (hv.mono (G := fun k => wr.heap.size ≤ k ∧ k < u1.heap.size) fun k hk h => ⟨h, hk⟩) (And.intro hty hown))
        have d4 := (World.cell?_of_block (w := wr) (ht.block b (lt_of_cell e4) (HBF.out.1))).trans e4
        have HT1 := Lib.hid ht
        clear hv hty hown hr ht e4 e0
        have hnq := Bytes_q most hm0 hm9 (by rw [HALL.out]; have := HL0.out; omega) M1.out.2.1
        rw [← HNV.out.1, ← HNV.out.2] at hnq
        go_wp2_with fail
        refine hnq.mono ?_
        clear hnq
        rintro e u2 ⟨v2, rfl, hv2, hr2, ht2⟩
        obtain ⟨A2, c2, rfl, -⟩ := id hv2
        have hqlt := HNE2.out
        have M2' := Lib.hid (show Both9 rb qb FR (· < w.heap.size) W s' u2 from ⟨M1.out.1.turn ht2 HNE.out (fun q hq => (HFR.out q hq).2.1), hr2, M1.out.2.2.trans ht2 fun _ _ e => .inr (.inl e)⟩)
        have V2 := Lib.hid (And.intro (V1.out.1.turn ht2 fun k hk e => by omega) (And.intro (V1.out.2.1.turn ht2 fun k hk e => by have := V1.out.2.2 k hk; omega) V1.out.2.2))
        have hsm := Same_any Av A2 nv nv cv c2 u2 V2.out.1.rd1 hv2.rd1
        rw [beq_self_eq_true] at hsm
        have hs2 := ht2.size
        clear hv2 hr2 ht2 M1 V1
        go_wp2_with fail
        refine hsm.mono ?_
        clear hsm
        rintro e u3 ⟨rfl, rfl⟩
        go_wp2_with fail
        refine (Spoil_ty _ bx HBX.out _ V2.out.2.1).mono ?_
        rintro e u3 ⟨⟨xr, rfl⟩, ht3, -⟩
        have M2 := Lib.hid (show Both9 rb qb FR (· < w.heap.size) W s' u3 from ⟨M2'.out.1.turn ht3 (fun hh => by have := V2.out.2.2 _ hh; omega) (fun q hq hh => by have := V2.out.2.2 _ hh; have := (HFR.out q hq).2.2; omega), M2'.out.2.1.turn ht3 (fun hh => by have := V2.out.2.2 _ hh; omega) (fun q hq hh => by have := V2.out.2.2 _ hh; have := (HFQ.out q hq).2.2; omega), M2'.out.2.2.trans ht3 fun i _ hh => .inr (.inr (by have := V2.out.2.2 _ hh; omega))⟩)
        clear M2' V2 ht3 d4
        go_wp2_with fail
        refine wp_region_V [] (Both9 rb qb FR (· < w.heap.size) W s' ) hmix (kept_both _ _ M2.out (Below.refl _ _).drew) ?_
        change wpAnyV _ _ _ _ _ _ _ _ _
        refine wpAnyV_take (i := 0) (v := .bool true) 8 kept_both rfl (by kernel_rfl) (by kernel_rfl) (fun _ _ _ h => h) (fun _ h => h) (DoesV.reads (by rfl) fun w9 hS => by go_simp) ?_
        try simp only [List.getElem_toArray, List.getElem_cons_succ, List.getElem_cons_zero, Act.put, List.setIfInBounds_toArray, List.set_cons_succ, List.set_cons_zero]
        refine wpAnyV_take (i := 1) (v := .bool false) 8 kept_both rfl (by kernel_rfl) (by kernel_rfl) (fun _ _ _ h => h) (fun _ h => h) (DoesV.reads (by rfl) fun w9 hS => by go_simp) ?_
        try simp only [List.getElem_toArray, List.getElem_cons_succ, List.getElem_cons_zero, Act.put, List.setIfInBounds_toArray, List.set_cons_succ, List.set_cons_zero]
        refine wpAnyV_take (i := 2) (v := .bool false) 8 kept_both rfl (by kernel_rfl) (by kernel_rfl) (fun _ _ _ h => h) (fun _ h => h) (DoesV.reads (by rfl) fun w9 hS => by go_simp) ?_
        try simp only [List.getElem_toArray, List.getElem_cons_succ, List.getElem_cons_zero, Act.put, List.setIfInBounds_toArray, List.set_cons_succ, List.set_cons_zero]
        refine wpAnyV_take (i := 3) (v := .pointer (some ⟨rb, 0, none⟩)) 8 kept_both rfl (by kernel_rfl) (by kernel_rfl) (fun _ _ _ h => h) (fun _ h => h) (DoesV.reads (by rfl) fun w9 hS => by go_simp) ?_
        try simp only [List.getElem_toArray, List.getElem_cons_succ, List.getElem_cons_zero, Act.put, List.setIfInBounds_toArray, List.set_cons_succ, List.set_cons_zero]
        refine wpAnyV_take (i := 4) (v := .int .i64 s'.err) 8 kept_both rfl (by kernel_rfl) (by kernel_rfl) (fun _ _ _ h => h) (fun _ h => h) (DoesV.calls 30 #[.pointer (some ⟨rb, 0, none⟩)] (by rfl) (fun w9 hS => by go_simp) (fun w9 hS => (Error_r hS.1).mono fun e u ⟨h1, h2⟩ => ⟨h1, h2 ▸ Below.refl _ _⟩)) ?_
        try simp only [List.getElem_toArray, List.getElem_cons_succ, List.getElem_cons_zero, Act.put, List.setIfInBounds_toArray, List.set_cons_succ, List.set_cons_zero]
        refine wpAnyV_take (i := 5) (v := .pointer (some ⟨qb, 0, none⟩)) 8 kept_both rfl (by kernel_rfl) (by kernel_rfl) (fun _ _ _ h => h) (fun _ h => h) (DoesV.reads (by rfl) fun w9 hS => by go_simp) ?_
        try simp only [List.getElem_toArray, List.getElem_cons_succ, List.getElem_cons_zero, Act.put, List.setIfInBounds_toArray, List.set_cons_succ, List.set_cons_zero]
        refine wpAnyV_take (i := 6) (v := .pointer (some ⟨qb, 0, none⟩)) 8 kept_both rfl (by kernel_rfl) (by kernel_rfl) (fun _ _ _ h => h) (fun _ h => h) (DoesV.reads (by rfl) fun w9 hS => by go_simp) ?_
        try simp only [List.getElem_toArray, List.getElem_cons_succ, List.getElem_cons_zero, Act.put, List.setIfInBounds_toArray, List.set_cons_succ, List.set_cons_zero]
        refine wpAnyV_take (i := 7) (v := .pointer (some ⟨qb, 2, none⟩)) 8 kept_both rfl (by kernel_rfl) (by kernel_rfl) (fun _ _ _ h => h) (fun _ h => h) (DoesV.reads (by rfl) fun w9 hS => by go_simp) ?_
        try simp only [List.getElem_toArray, List.getElem_cons_succ, List.getElem_cons_zero, Act.put, List.setIfInBounds_toArray, List.set_cons_succ, List.set_cons_zero]
        refine wpAnyV_take (i := 8) (v := .int .i64 s'.err) 8 kept_both rfl (by kernel_rfl) (by kernel_rfl) (fun _ _ _ h => h) (fun _ h => h) (DoesV.reads (by rfl) fun w9 hS => by have q0 := hS.2.1.f2.1; go_simp) ?_
        try simp only [List.getElem_toArray, List.getElem_cons_succ, List.getElem_cons_zero, Act.put, List.setIfInBounds_toArray, List.set_cons_succ, List.set_cons_zero]
        refine wpAnyV_take (i := 9) (v := .bool false) 8 kept_both rfl (by kernel_rfl) (by kernel_rfl) (fun _ _ _ h => h) (fun _ h => h) (DoesV.reads (by rfl) fun w9 hS => by go_simp) ?_
        try simp only [List.getElem_toArray, List.getElem_cons_succ, List.getElem_cons_zero, Act.put, List.setIfInBounds_toArray, List.set_cons_succ, List.set_cons_zero]
        refine wpAnyV_take (i := 10) (v := .bool false) 8 kept_both rfl (by kernel_rfl) (by kernel_rfl) (fun _ _ _ h => h) (fun _ h => h) (DoesV.reads (by rfl) fun w9 hS => by go_simp) ?_
        try simp only [List.getElem_toArray, List.getElem_cons_succ, List.getElem_cons_zero, Act.put, List.setIfInBounds_toArray, List.set_cons_succ, List.set_cons_zero]
        refine wpAnyV_take (i := 11) (v := .bool false) 8 kept_both rfl (by kernel_rfl) (by kernel_rfl) (fun _ _ _ h => h) (fun _ h => h) (DoesV.reads (by rfl) fun w9 hS => by go_simp) ?_
        try simp only [List.getElem_toArray, List.getElem_cons_succ, List.getElem_cons_zero, Act.put, List.setIfInBounds_toArray, List.set_cons_succ, List.set_cons_zero]
        refine wpAnyV_take (i := 12) (v := .pointer (some ⟨rb, 0, none⟩)) 8 kept_both rfl (by kernel_rfl) (by kernel_rfl) (fun _ _ _ h => h) (fun _ h => h) (DoesV.reads (by rfl) fun w9 hS => by go_simp) ?_
        try simp only [List.getElem_toArray, List.getElem_cons_succ, List.getElem_cons_zero, Act.put, List.setIfInBounds_toArray, List.set_cons_succ, List.set_cons_zero]
        refine wpAnyV_take (i := 13) (v := .int .i64 (endR s')) 8 kept_both rfl (by kernel_rfl) (by kernel_rfl) (fun _ _ _ h => h) (fun _ h => h) (DoesV.calls 31 #[.pointer (some ⟨rb, 0, none⟩)] (by rfl) (fun w9 hS => by go_simp) (fun w9 hS => End_r hS.1)) ?_
        try simp only [List.getElem_toArray, List.getElem_cons_succ, List.getElem_cons_zero, Act.put, List.setIfInBounds_toArray, List.set_cons_succ, List.set_cons_zero]
        refine wpAnyV_take (i := 14) (v := .pointer (some ⟨qb, 0, none⟩)) 8 kept_both rfl (by kernel_rfl) (by kernel_rfl) (fun _ _ _ h => h) (fun _ h => h) (DoesV.reads (by rfl) fun w9 hS => by go_simp) ?_
        try simp only [List.getElem_toArray, List.getElem_cons_succ, List.getElem_cons_zero, Act.put, List.setIfInBounds_toArray, List.set_cons_succ, List.set_cons_zero]
        refine wpAnyV_take (i := 15) (v := .int .i64 (endR s')) 8 kept_both rfl (by kernel_rfl) (by kernel_rfl) (fun _ _ _ h => h) (fun _ h => h) (DoesV.calls 32 #[.pointer (some ⟨qb, 0, none⟩)] (by rfl) (fun w9 hS => by go_simp) (fun w9 hS => End_q hS.2.1)) ?_
        try simp only [List.getElem_toArray, List.getElem_cons_succ, List.getElem_cons_zero, Act.put, List.setIfInBounds_toArray, List.set_cons_succ, List.set_cons_zero]
        refine wpAnyV_take (i := 16) (v := .bool false) 8 kept_both rfl (by kernel_rfl) (by kernel_rfl) (fun _ _ _ h => h) (fun _ h => h) (DoesV.reads (by rfl) fun w9 hS => by go_simp) ?_
        try simp only [List.getElem_toArray, List.getElem_cons_succ, List.getElem_cons_zero, Act.put, List.setIfInBounds_toArray, List.set_cons_succ, List.set_cons_zero]
        refine wpAnyV_take (i := 17) (v := .bool false) 8 kept_both rfl (by kernel_rfl) (by kernel_rfl) (fun _ _ _ h => h) (fun _ h => h) (DoesV.reads (by rfl) fun w9 hS => by go_simp) ?_
        try simp only [List.getElem_toArray, List.getElem_cons_succ, List.getElem_cons_zero, Act.put, List.setIfInBounds_toArray, List.set_cons_succ, List.set_cons_zero]
        refine wpAnyV_done (by kernel_rfl) (fun y hu => ?_) _
        have Y := Lib.hid hu
        clear hu M2
        go_wp2_with fail
        go_roundw
        case rel => exact ⟨k + 1, s', hlt, h60, by go_num, HAL.out.trans HALL.out, Y.out⟩
        case measure => simp [RowKit.intOf]; omega
    · have hgo' : k = l1.length ∨ k = 60 := by omega
      have HL := Lib.hid (Left_any l0 A0 c0 g cap wr HC.out.1 HC.out.2 (RW2.out.turn KB.out.2.2 fun a ha hh => by
        cases ha
        have := HGG.out
        rcases hh with e | e | e
        · exact this.1 e
        · exact this.2.1 e
        · exact absurd e (Nat.not_le_of_lt this.2.2)) ((V0.out.below B2.out).turn KB.out.2.2 (fun q hq hh => by
        have := HFQ.out q hq
        rcases hh with e | e | e
        · exact this.1 e
        · exact this.2.1 e
        · omega)).rd1)
      have B9 := Lib.hid (B2.out.trans (KB.out.2.2.below B2.out.size fun i hi => by
        have := B2.out.size
        rcases hi with e | e | e
        · omega
        · omega
        · omega))
      by_cases hlt : k < l1.length
      · obtain rfl : k = 60 := by omega
        have hlt' : (60 : Int) < (l1.length : Int) := by omega
        clear hgo hgo'
        go_wp2_with fail
        refine HL.out.mono ?_
        rintro e w' ⟨rfl, rfl⟩
        go_wp2_with fail
        refine (lives9_any _).mono ?_
        rintro e w9 ⟨rfl, hb⟩
        have BB := Lib.hid (below_chain B9.out hb)
        clear hb
        go_wp2_with fail
        go_ret
        exact ⟨rfl, BB.out⟩
      · have hlt' : ¬ (k : Int) < (l1.length : Int) := by omega
        clear hgo hgo' hlt
        go_wp2_with fail
        refine HL.out.mono ?_
        rintro e w' ⟨rfl, rfl⟩
        go_wp2_with fail
        refine (lives9_any _).mono ?_
        rintro e w9 ⟨rfl, hb⟩
        have BB := Lib.hid (below_chain B9.out hb)
        clear hb
        go_wp2_with fail
        go_ret
        exact ⟨rfl, BB.out⟩

end Go.Proofs.Ytafafffheabjjaa
