/- XdrBack: goes. -/
import Derived.Test.YtafafffheabjjaaAnyW
import Derived.Test.YtafafffheabjjaaXdGoes
namespace Go.Proofs.Ytafafffheabjjaa
open Go.RowKit Go.Shelf
set_option linter.unusedVariables false
set_option maxRecDepth 100000
set_option linter.unusedSimpArgs false

theorem kept_at (b o : Nat) (cs : List Value) : Kept (fun u => At u b o cs) := fun u u' h hb i v hv => cell_b hb (h i v hv)
theorem At.turn {w w' : World} {b o : Nat} {cs : List Value} {G : Nat → Prop} (h : At w b o cs) (ht : Turn w w' G) (hb : ¬ G b) : At w' b o cs := fun i v hv => (World.cell?_of_block (w := w) (ht.block b (lt_of_cell (h i v hv)) hb)).trans (h i v hv)
theorem goes_step (L : List Th) (s : RS) (k : Nat) (h : k < L.length) : goesP (L.drop k) s = if (tellP s L[k]).1 = true ∧ (tellP s L[k]).2.err = 0 then goesP (L.drop (k + 1)) (tellP s L[k]).2 else (false, (tellP s L[k]).2) := by
  rw [List.drop_eq_getElem_cons h]
  rfl
theorem tellP_all (s : RS) (x : Th) : (tellP s x).2.all = s.all := by
  unfold tellP
  split
  · exact numR_all s 4
  · split
    · exact numR_all s 8
    · split
      · unfold truthR
        dsimp only
        split
        · exact numR_all s 4
        · exact numR_all s 4
      · dsimp only
        rw [bytesR_is]
        unfold bytesN
        split
        · exact numR_all s 4
        · split
          · exact numR_all s 4
          · split
            · exact numR_all s 4
            · exact numR_all s 4
theorem RdX.fbh {α : Type} {E : Elem α} {w : World} {F : Nat → Prop} {b off : Nat} {ls : List α} (h : RdX E w F (some ⟨b, off, none⟩) ls) (hne : ls ≠ []) : F b := by
  rcases h with h | ⟨b', off', xs, e, hF, -⟩
  · exact absurd h hne
  · cases e
    exact hF
/-- what is met in a round -/
def GoS (w : World) (rb : Nat) (F FA : Nat → Prop) (b o : Nat) (cs : List Value) (vb : Value) (xb : List UInt8) (s : RS) (u : World) : Prop := RdAt u rb s F ∧ Turn w u (· = rb) ∧ At u b o cs ∧ BsV u FA vb xb
theorem kept_go {w : World} {rb : Nat} {F FA : Nat → Prop} {b o : Nat} {cs : List Value} {vb : Value} {xb : List UInt8} {s : RS} : Kept (GoS w rb F FA b o cs vb xb s) := fun u u' h hb => ⟨h.1.below hb, h.2.1.trans (Turn.of_below hb fun _ => False) fun _ _ h => h.elim, kept_at _ _ _ u u' h.2.2.1 hb, h.2.2.2.below hb⟩
theorem GoS.told {w : World} {rb : Nat} {F FA : Nat → Prop} {b o : Nat} {cs : List Value} {vb : Value} {xb : List UInt8} {s s' : RS} {u u' : World} (h : GoS w rb F FA b o cs vb xb s u) (hr : RdAt u' rb s' F) (ht : Turn u u' (· = rb)) (hb : b ≠ rb) (hF : ∀ k, FA k → k ≠ rb) : GoS w rb F FA b o cs vb xb s' u' :=
  ⟨hr, h.2.1.trans ht fun _ _ h => h, h.2.2.1.turn ht hb, h.2.2.2.turn ht hF⟩
/-- a round of goes -/
def GoRel (w : World) (rb : Nat) (F : Nat → Prop) (L : List Th) (N : Nat) (r0 : Bool × RS) (i : Value) (wr : World) : Prop := ∃ (k : Nat) (s : RS), k ≤ L.length ∧ i = .int .i64 (k : Int) ∧ goesP (L.drop k) s = r0 ∧ s.all.length = N ∧ RdAt wr rb s F ∧ Turn w wr (· = rb)
def GoRet (w : World) (rb : Nat) (F : Nat → Prop) (r0 : Bool × RS) (e : Ending) (w' : World) : Prop := e = .returned (.bool r0.1) ∧ RdAt w' rb r0.2 F ∧ Turn w w' (· = rb)
set_option maxHeartbeats 16000000 in
theorem goes_v (l : List Th) (A : Option Addr) (c : Nat) (rb : Nat) (s0 : RS) (F FA : Nat → Prop) (w : World) (rd : RdX thingE w FA A l) (hFA : ∀ k, FA k → k ≠ rb) (hm : l.length ≤ 9223372036854775807) (hlen : s0.all.length ≤ 140737488355328) (h : RdAt w rb s0 F) :
    Calls Try.prog 33 #[.pointer (some ⟨rb, 0, none⟩), .slice A l.length c] w fun e w' => GoRet w rb F (goesP (l.take 60) s0) e w' := by
  have hmix : Try.prog.follows .mixedOrders = true := by kernel_rfl
  have hm1 : (l.length : Int) ≤ 9223372036854775807 := by omega
  have R0 := Lib.hid rd
  have HFA := Lib.hid hFA
  have HR := Lib.hid h
  obtain ⟨N, hN⟩ : ∃ N, N = s0.all.length := ⟨_, rfl⟩
  rw [← hN] at hlen
  have HN := Lib.hid hN
  have HLEN := Lib.hid hlen
  obtain ⟨r0, hr0⟩ : ∃ r0, r0 = goesP (l.take 60) s0 := ⟨_, rfl⟩
  rw [← hr0]
  have HR0 := Lib.hid hr0
  have hLl : (l.take 60).length = min 60 l.length := List.length_take
  have HLL := Lib.hid hLl
  clear rd hFA h hN hlen hr0 hm hLl
  go_enter Try.func33, Try.ntmps33
  go_wp2_with fail
  go_loopw [5] (fun i wr => GoRel w rb F (l.take 60) N r0 i wr) (fun i _ => 60 - (intOf i).toNat)
  case atStart => exact ⟨0, s0, Nat.zero_le _, rfl, by rw [List.drop_zero]; exact HR0.out.symm, HN.out.symm, HR.out, Turn.refl _ _⟩
  case round =>
    obtain ⟨k, s, hk, rfl, hgo, hsl, hr, ht⟩ := hrel
    have hk' : k ≤ 60 ∧ k ≤ l.length := by have := HLL.out; omega
    by_cases hlt : k < l.length ∧ k < 60
    · obtain ⟨hlt, h60⟩ := hlt
      have hlt' : (k : Int) < (l.length : Int) := by omega
      have h60' : (k : Int) < 60 := by omega
      have hkL : k < (l.take 60).length := by rw [HLL.out]; omega
      have hst := goes_step (l.take 60) s k hkL
      have hel : (l.take 60)[k] = l[k] := List.getElem_take
      rw [hel] at hst
      have hx := R0.out.turn ht HFA.out
      obtain ⟨b, off, cs, rfl, ⟨vb, hcs, hvb, hok⟩, hat⟩ := hx.get k hlt
      have hfb := hx.fbh (by intro h; rw [h] at hlt; simp at hlt)
      have hbr := HFA.out b hfb
      have hta := tellP_all s l[k]
      rw [hst] at hgo
      obtain ⟨x, hxe⟩ : ∃ x, x = l[k] := ⟨_, rfl⟩
      rw [← hxe] at hcs hvb hok hgo hta
      clear hx hst hel hfb hxe
      obtain ⟨what, nn, is, xb, most⟩ := x
      obtain ⟨hw0, hn0, -, -⟩ := hok
      subst hcs
      dsimp only at hvb hw0 hn0
      obtain ⟨Ab, cb, rfl, -, -, hbc, hbm⟩ := id hvb
      have hxm : xb.length ≤ 9223372036854775807 := by unfold maxLen at hbm; exact Nat.le_trans hbc hbm
      have hg : GoS w rb F FA b (off + k * 5) [.int .u8 (what : Int), .int .u64 (nn : Int), .bool is, .slice Ab xb.length cb, .int .i64 most] (.slice Ab xb.length cb) xb s wr := ⟨hr, ht, hat, hvb⟩
      obtain ⟨sm, hsm⟩ : ∃ sm, sm = (tellP s ⟨what, nn, is, xb, most⟩).1 := ⟨_, rfl⟩
      obtain ⟨s', hs'⟩ : ∃ s', s' = (tellP s ⟨what, nn, is, xb, most⟩).2 := ⟨_, rfl⟩
      rw [← hsm, ← hs'] at hgo
      rw [← hs'] at hta
      have KG := Lib.hid hg
      have HGO := Lib.hid hgo
      have HTA := Lib.hid (hta.trans rfl)
      have HSL := Lib.hid hsl
      have HBR := Lib.hid hbr
      have HK := Lib.hid hkL
      have hnr := hr
      have hw0' : (what : Int) ≤ 255 := by omega
      have h4 : what % 4 = 0 ∨ what % 4 = 1 ∨ what % 4 = 2 ∨ what % 4 = 3 := by omega
      have hwr := wrap32' nn
      have h32 : nn % 4294967296 < 4294967296 := Nat.mod_lt _ (by decide)
      have hnn : (nn : Int) ≤ 18446744073709551615 := by omega
      have e0 : wr.cell? ⟨b, off + k * 5, none⟩ = some (.int .u8 (what : Int)) := hat 0 _ rfl
      unfold tellP at hsm hs'
      dsimp only at hsm hs'
      clear hr ht hat hvb hg hgo hta hbr hkL hbc hbm hn0 hw0 hsl
      rcases h4 with h4 | h4 | h4 | h4
      · have hq : (what : Int) % 4 = 0 := by omega
        rw [if_pos h4] at hsm hs'
        generalize nn % 4294967296 = n32 at *
        have HM := Lib.hid hsm.symm
        have HS := Lib.hid hs'
        clear h4 hsm hs' hnr
        go_wp2_with fail
        refine wp_region_W (fun u => At u b (off + k * 5) [.int .u8 (what : Int), .int .u64 (nn : Int), .bool is, .slice Ab xb.length cb, .int .i64 most]) (GoS w rb F FA b (off + k * 5) [.int .u8 (what : Int), .int .u64 (nn : Int), .bool is, .slice Ab xb.length cb, .int .i64 most] (.slice Ab xb.length cb) xb  s) hmix (kept_go _ _ KG.out (Below.refl _ _).drew) ?_
        change wpAnyW _ _ _ _ _ _ _ _ _
        refine wpAnyW_take (i := 0) (v := .pointer (some ⟨rb, 0, none⟩)) kept_go (fun _ h => h.2.2.1) rfl (by kernel_rfl) (by kernel_rfl) (fun _ _ _ h => h) (DoesV.reads (by rfl) fun w9 hS => by go_simp) ?_
        try simp only [List.getElem_toArray, List.getElem_cons_succ, List.getElem_cons_zero, Act.put, List.setIfInBounds_toArray, List.set_cons_succ, List.set_cons_zero]
        refine wpAnyW_take (i := 2) (v := .slice (some ⟨b, off, none⟩) l.length c) kept_go (fun _ h => h.2.2.1) rfl (by kernel_rfl) (by kernel_rfl) (fun _ _ _ h => h) (DoesV.reads (by rfl) fun w9 hS => by go_simp) ?_
        try simp only [List.getElem_toArray, List.getElem_cons_succ, List.getElem_cons_zero, Act.put, List.setIfInBounds_toArray, List.set_cons_succ, List.set_cons_zero]
        refine wpAnyW_take (i := 3) (v := .int .i64 (k : Int)) kept_go (fun _ h => h.2.2.1) rfl (by kernel_rfl) (by kernel_rfl) (fun _ _ _ h => h) (DoesV.reads (by rfl) fun w9 hS => by go_simp) ?_
        try simp only [List.getElem_toArray, List.getElem_cons_succ, List.getElem_cons_zero, Act.put, List.setIfInBounds_toArray, List.set_cons_succ, List.set_cons_zero]
        refine wpAnyW_take (i := 4) (v := .pointer (some ⟨b, off + k * 5, none⟩)) kept_go (fun _ h => h.2.2.1) rfl (by kernel_rfl) (by kernel_rfl) (fun _ _ _ h => h) (DoesV.reads (by rfl) fun w9 hS => by go_simp) ?_
        try simp only [List.getElem_toArray, List.getElem_cons_succ, List.getElem_cons_zero, Act.put, List.setIfInBounds_toArray, List.set_cons_succ, List.set_cons_zero]
        refine wpAnyW_take (i := 5) (v := .pointer (some ⟨b, off + k * 5 + 1, none⟩)) kept_go (fun _ h => h.2.2.1) rfl (by kernel_rfl) (by kernel_rfl) (fun _ _ _ h => h) (DoesV.reads (by rfl) fun w9 hS => by go_simp) ?_
        try simp only [List.getElem_toArray, List.getElem_cons_succ, List.getElem_cons_zero, Act.put, List.setIfInBounds_toArray, List.set_cons_succ, List.set_cons_zero]
        refine wpAnyW_take (i := 6) (v := .int .u64 (nn : Int)) kept_go (fun _ h => h.2.2.1) rfl (by kernel_rfl) (by kernel_rfl) (fun _ _ _ h => h) (DoesV.reads (by rfl) fun w9 hS => by have q0 := hS 1 _ rfl; go_simp) ?_
        try simp only [List.getElem_toArray, List.getElem_cons_succ, List.getElem_cons_zero, Act.put, List.setIfInBounds_toArray, List.set_cons_succ, List.set_cons_zero]
        refine wpAnyW_take (i := 7) (v := .int .u32 (n32 : Int)) kept_go (fun _ h => h.2.2.1) rfl (by kernel_rfl) (by kernel_rfl) (fun _ _ _ h => h) (DoesV.reads (by rfl) fun w9 hS => by go_simp) ?_
        try simp only [List.getElem_toArray, List.getElem_cons_succ, List.getElem_cons_zero, Act.put, List.setIfInBounds_toArray, List.set_cons_succ, List.set_cons_zero]
        refine wpAnyW_only (i := 1) rfl (by kernel_rfl) rfl (fun u hS => wp_of_call (by go_simp) (Number_r hS.1) fun e u' ⟨he, hr, ht⟩ => ⟨_, he, GoS w rb F FA b (off + k * 5) [.int .u8 (what : Int), .int .u64 (nn : Int), .bool is, .slice Ab xb.length cb, .int .i64 most] (.slice Ab xb.length cb) xb  s', hS.told (by rw [HS.out]; exact hr) ht HBR.out HFA.out, kept_go, fun _ h => h.2.2.1, ?_⟩)
        try simp only [List.getElem_toArray, List.getElem_cons_succ, List.getElem_cons_zero, Act.put, List.setIfInBounds_toArray, List.set_cons_succ, List.set_cons_zero]
        refine wpAnyW_take (i := 8) (v := .bool sm) kept_go (fun _ h => h.2.2.1) rfl (by kernel_rfl) (by kernel_rfl) (fun _ _ _ h => h) (DoesV.reads (by rfl) fun w9 hS => by have q0 := HM.out; go_simp) ?_
        try simp only [List.getElem_toArray, List.getElem_cons_succ, List.getElem_cons_zero, Act.put, List.setIfInBounds_toArray, List.set_cons_succ, List.set_cons_zero]
        refine wpAnyW_take (i := 9) (v := .bool sm) kept_go (fun _ h => h.2.2.1) rfl (by kernel_rfl) (by kernel_rfl) (fun _ _ _ h => h) (DoesV.reads (by rfl) fun w9 hS => by go_simp) ?_
        try simp only [List.getElem_toArray, List.getElem_cons_succ, List.getElem_cons_zero, Act.put, List.setIfInBounds_toArray, List.set_cons_succ, List.set_cons_zero]
        refine wpAnyW_done (by kernel_rfl) (fun y hu => ?_) _
        have Y := Lib.hid hu
        clear hu e0
        have hE := Error_r Y.out.1
        have hgo := HGO.out
        cases sm
        · rw [if_neg (by simp)] at hgo
          have HG := Lib.hid hgo
          clear hgo hE
          go_wp2_with fail
          go_ret
          rw [← HG.out]
          exact ⟨rfl, Y.out.1, Y.out.2.1⟩
        · by_cases he : s'.err = 0
          · rw [if_pos ⟨rfl, he⟩] at hgo
            rw [he] at hE
            have HG := Lib.hid hgo
            have HE := Lib.hid hE
            clear hgo he hE
            go_wp2_with fail
            refine HE.out.mono ?_
            rintro e w' ⟨rfl, rfl⟩
            go_wp2_with fail
            go_roundw
            case rel => exact ⟨k + 1, s', by have := HK.out; omega, by go_num, HG.out, by rw [HTA.out]; exact HSL.out, Y.out.1, Y.out.2.1⟩
            case measure => simp [RowKit.intOf]; omega
          · rw [if_neg (by simp [he])] at hgo
            obtain ⟨er, her⟩ : ∃ er, er = s'.err := ⟨_, rfl⟩
            rw [← her] at hE he
            have f0 : (er == 0) = false := by simpa using he
            have f1 : (er != 0) = true := by rw [bne, f0]; rfl
            have HG := Lib.hid hgo
            have HE := Lib.hid hE
            clear hgo he hE her
            go_wp2_with fail
            refine HE.out.mono ?_
            rintro e w' ⟨rfl, rfl⟩
            go_wp2_with fail
            go_ret
            rw [← HG.out]
            exact ⟨rfl, Y.out.1, Y.out.2.1⟩
      · have hq : (what : Int) % 4 = 1 := by omega
        rw [if_neg (by omega), if_pos h4] at hsm hs'
        have HM := Lib.hid hsm.symm
        have HS := Lib.hid hs'
        clear h4 hsm hs' hnr
        go_wp2_with fail
        refine wp_region_W (fun u => At u b (off + k * 5) [.int .u8 (what : Int), .int .u64 (nn : Int), .bool is, .slice Ab xb.length cb, .int .i64 most]) (GoS w rb F FA b (off + k * 5) [.int .u8 (what : Int), .int .u64 (nn : Int), .bool is, .slice Ab xb.length cb, .int .i64 most] (.slice Ab xb.length cb) xb  s) hmix (kept_go _ _ KG.out (Below.refl _ _).drew) ?_
        change wpAnyW _ _ _ _ _ _ _ _ _
        refine wpAnyW_take (i := 0) (v := .pointer (some ⟨rb, 0, none⟩)) kept_go (fun _ h => h.2.2.1) rfl (by kernel_rfl) (by kernel_rfl) (fun _ _ _ h => h) (DoesV.reads (by rfl) fun w9 hS => by go_simp) ?_
        try simp only [List.getElem_toArray, List.getElem_cons_succ, List.getElem_cons_zero, Act.put, List.setIfInBounds_toArray, List.set_cons_succ, List.set_cons_zero]
        refine wpAnyW_take (i := 2) (v := .slice (some ⟨b, off, none⟩) l.length c) kept_go (fun _ h => h.2.2.1) rfl (by kernel_rfl) (by kernel_rfl) (fun _ _ _ h => h) (DoesV.reads (by rfl) fun w9 hS => by go_simp) ?_
        try simp only [List.getElem_toArray, List.getElem_cons_succ, List.getElem_cons_zero, Act.put, List.setIfInBounds_toArray, List.set_cons_succ, List.set_cons_zero]
        refine wpAnyW_take (i := 3) (v := .int .i64 (k : Int)) kept_go (fun _ h => h.2.2.1) rfl (by kernel_rfl) (by kernel_rfl) (fun _ _ _ h => h) (DoesV.reads (by rfl) fun w9 hS => by go_simp) ?_
        try simp only [List.getElem_toArray, List.getElem_cons_succ, List.getElem_cons_zero, Act.put, List.setIfInBounds_toArray, List.set_cons_succ, List.set_cons_zero]
        refine wpAnyW_take (i := 4) (v := .pointer (some ⟨b, off + k * 5, none⟩)) kept_go (fun _ h => h.2.2.1) rfl (by kernel_rfl) (by kernel_rfl) (fun _ _ _ h => h) (DoesV.reads (by rfl) fun w9 hS => by go_simp) ?_
        try simp only [List.getElem_toArray, List.getElem_cons_succ, List.getElem_cons_zero, Act.put, List.setIfInBounds_toArray, List.set_cons_succ, List.set_cons_zero]
        refine wpAnyW_take (i := 5) (v := .pointer (some ⟨b, off + k * 5 + 1, none⟩)) kept_go (fun _ h => h.2.2.1) rfl (by kernel_rfl) (by kernel_rfl) (fun _ _ _ h => h) (DoesV.reads (by rfl) fun w9 hS => by go_simp) ?_
        try simp only [List.getElem_toArray, List.getElem_cons_succ, List.getElem_cons_zero, Act.put, List.setIfInBounds_toArray, List.set_cons_succ, List.set_cons_zero]
        refine wpAnyW_take (i := 6) (v := .int .u64 (nn : Int)) kept_go (fun _ h => h.2.2.1) rfl (by kernel_rfl) (by kernel_rfl) (fun _ _ _ h => h) (DoesV.reads (by rfl) fun w9 hS => by have q0 := hS 1 _ rfl; go_simp) ?_
        try simp only [List.getElem_toArray, List.getElem_cons_succ, List.getElem_cons_zero, Act.put, List.setIfInBounds_toArray, List.set_cons_succ, List.set_cons_zero]
        refine wpAnyW_only (i := 1) rfl (by kernel_rfl) rfl (fun u hS => wp_of_call (by go_simp) (Great_r hS.1) fun e u' ⟨he, hr, ht⟩ => ⟨_, he, GoS w rb F FA b (off + k * 5) [.int .u8 (what : Int), .int .u64 (nn : Int), .bool is, .slice Ab xb.length cb, .int .i64 most] (.slice Ab xb.length cb) xb  s', hS.told (by rw [HS.out]; exact hr) ht HBR.out HFA.out, kept_go, fun _ h => h.2.2.1, ?_⟩)
        try simp only [List.getElem_toArray, List.getElem_cons_succ, List.getElem_cons_zero, Act.put, List.setIfInBounds_toArray, List.set_cons_succ, List.set_cons_zero]
        refine wpAnyW_take (i := 7) (v := .bool sm) kept_go (fun _ h => h.2.2.1) rfl (by kernel_rfl) (by kernel_rfl) (fun _ _ _ h => h) (DoesV.reads (by rfl) fun w9 hS => by have q0 := HM.out; go_simp) ?_
        try simp only [List.getElem_toArray, List.getElem_cons_succ, List.getElem_cons_zero, Act.put, List.setIfInBounds_toArray, List.set_cons_succ, List.set_cons_zero]
        refine wpAnyW_take (i := 8) (v := .bool sm) kept_go (fun _ h => h.2.2.1) rfl (by kernel_rfl) (by kernel_rfl) (fun _ _ _ h => h) (DoesV.reads (by rfl) fun w9 hS => by go_simp) ?_
        try simp only [List.getElem_toArray, List.getElem_cons_succ, List.getElem_cons_zero, Act.put, List.setIfInBounds_toArray, List.set_cons_succ, List.set_cons_zero]
        refine wpAnyW_done (by kernel_rfl) (fun y hu => ?_) _
        have Y := Lib.hid hu
        clear hu e0
        have hE := Error_r Y.out.1
        have hgo := HGO.out
        cases sm
        · rw [if_neg (by simp)] at hgo
          have HG := Lib.hid hgo
          clear hgo hE
          go_wp2_with fail
          go_ret
          rw [← HG.out]
          exact ⟨rfl, Y.out.1, Y.out.2.1⟩
        · by_cases he : s'.err = 0
          · rw [if_pos ⟨rfl, he⟩] at hgo
            rw [he] at hE
            have HG := Lib.hid hgo
            have HE := Lib.hid hE
            clear hgo he hE
            go_wp2_with fail
            refine HE.out.mono ?_
            rintro e w' ⟨rfl, rfl⟩
            go_wp2_with fail
            go_roundw
            case rel => exact ⟨k + 1, s', by have := HK.out; omega, by go_num, HG.out, by rw [HTA.out]; exact HSL.out, Y.out.1, Y.out.2.1⟩
            case measure => simp [RowKit.intOf]; omega
          · rw [if_neg (by simp [he])] at hgo
            obtain ⟨er, her⟩ : ∃ er, er = s'.err := ⟨_, rfl⟩
            rw [← her] at hE he
            have f0 : (er == 0) = false := by simpa using he
            have f1 : (er != 0) = true := by rw [bne, f0]; rfl
            have HG := Lib.hid hgo
            have HE := Lib.hid hE
            clear hgo he hE her
            go_wp2_with fail
            refine HE.out.mono ?_
            rintro e w' ⟨rfl, rfl⟩
            go_wp2_with fail
            go_ret
            rw [← HG.out]
            exact ⟨rfl, Y.out.1, Y.out.2.1⟩
      · have hq : (what : Int) % 4 = 2 := by omega
        rw [if_neg (by omega), if_neg (by omega), if_pos h4] at hsm hs'
        have HM := Lib.hid hsm.symm
        have HS := Lib.hid hs'
        clear h4 hsm hs' hnr
        go_wp2_with fail
        refine wp_region_W (fun u => At u b (off + k * 5) [.int .u8 (what : Int), .int .u64 (nn : Int), .bool is, .slice Ab xb.length cb, .int .i64 most]) (GoS w rb F FA b (off + k * 5) [.int .u8 (what : Int), .int .u64 (nn : Int), .bool is, .slice Ab xb.length cb, .int .i64 most] (.slice Ab xb.length cb) xb  s) hmix (kept_go _ _ KG.out (Below.refl _ _).drew) ?_
        change wpAnyW _ _ _ _ _ _ _ _ _
        refine wpAnyW_take (i := 0) (v := .pointer (some ⟨rb, 0, none⟩)) kept_go (fun _ h => h.2.2.1) rfl (by kernel_rfl) (by kernel_rfl) (fun _ _ _ h => h) (DoesV.reads (by rfl) fun w9 hS => by go_simp) ?_
        try simp only [List.getElem_toArray, List.getElem_cons_succ, List.getElem_cons_zero, Act.put, List.setIfInBounds_toArray, List.set_cons_succ, List.set_cons_zero]
        refine wpAnyW_take (i := 2) (v := .slice (some ⟨b, off, none⟩) l.length c) kept_go (fun _ h => h.2.2.1) rfl (by kernel_rfl) (by kernel_rfl) (fun _ _ _ h => h) (DoesV.reads (by rfl) fun w9 hS => by go_simp) ?_
        try simp only [List.getElem_toArray, List.getElem_cons_succ, List.getElem_cons_zero, Act.put, List.setIfInBounds_toArray, List.set_cons_succ, List.set_cons_zero]
        refine wpAnyW_take (i := 3) (v := .int .i64 (k : Int)) kept_go (fun _ h => h.2.2.1) rfl (by kernel_rfl) (by kernel_rfl) (fun _ _ _ h => h) (DoesV.reads (by rfl) fun w9 hS => by go_simp) ?_
        try simp only [List.getElem_toArray, List.getElem_cons_succ, List.getElem_cons_zero, Act.put, List.setIfInBounds_toArray, List.set_cons_succ, List.set_cons_zero]
        refine wpAnyW_take (i := 4) (v := .pointer (some ⟨b, off + k * 5, none⟩)) kept_go (fun _ h => h.2.2.1) rfl (by kernel_rfl) (by kernel_rfl) (fun _ _ _ h => h) (DoesV.reads (by rfl) fun w9 hS => by go_simp) ?_
        try simp only [List.getElem_toArray, List.getElem_cons_succ, List.getElem_cons_zero, Act.put, List.setIfInBounds_toArray, List.set_cons_succ, List.set_cons_zero]
        refine wpAnyW_take (i := 5) (v := .pointer (some ⟨b, off + k * 5 + 2, none⟩)) kept_go (fun _ h => h.2.2.1) rfl (by kernel_rfl) (by kernel_rfl) (fun _ _ _ h => h) (DoesV.reads (by rfl) fun w9 hS => by go_simp) ?_
        try simp only [List.getElem_toArray, List.getElem_cons_succ, List.getElem_cons_zero, Act.put, List.setIfInBounds_toArray, List.set_cons_succ, List.set_cons_zero]
        refine wpAnyW_take (i := 6) (v := .bool is) kept_go (fun _ h => h.2.2.1) rfl (by kernel_rfl) (by kernel_rfl) (fun _ _ _ h => h) (DoesV.reads (by rfl) fun w9 hS => by have q0 := hS 2 _ rfl; go_simp) ?_
        try simp only [List.getElem_toArray, List.getElem_cons_succ, List.getElem_cons_zero, Act.put, List.setIfInBounds_toArray, List.set_cons_succ, List.set_cons_zero]
        refine wpAnyW_only (i := 1) rfl (by kernel_rfl) rfl (fun u hS => wp_of_call (by go_simp) (Truth_r hS.1) fun e u' ⟨he, hr, ht⟩ => ⟨_, he, GoS w rb F FA b (off + k * 5) [.int .u8 (what : Int), .int .u64 (nn : Int), .bool is, .slice Ab xb.length cb, .int .i64 most] (.slice Ab xb.length cb) xb  s', hS.told (by rw [HS.out]; exact hr) ht HBR.out HFA.out, kept_go, fun _ h => h.2.2.1, ?_⟩)
        try simp only [List.getElem_toArray, List.getElem_cons_succ, List.getElem_cons_zero, Act.put, List.setIfInBounds_toArray, List.set_cons_succ, List.set_cons_zero]
        refine wpAnyW_take (i := 7) (v := .bool sm) kept_go (fun _ h => h.2.2.1) rfl (by kernel_rfl) (by kernel_rfl) (fun _ _ _ h => h) (DoesV.reads (by rfl) fun w9 hS => by have q0 := HM.out; go_simp) ?_
        try simp only [List.getElem_toArray, List.getElem_cons_succ, List.getElem_cons_zero, Act.put, List.setIfInBounds_toArray, List.set_cons_succ, List.set_cons_zero]
        refine wpAnyW_take (i := 8) (v := .bool sm) kept_go (fun _ h => h.2.2.1) rfl (by kernel_rfl) (by kernel_rfl) (fun _ _ _ h => h) (DoesV.reads (by rfl) fun w9 hS => by go_simp) ?_
        try simp only [List.getElem_toArray, List.getElem_cons_succ, List.getElem_cons_zero, Act.put, List.setIfInBounds_toArray, List.set_cons_succ, List.set_cons_zero]
        refine wpAnyW_done (by kernel_rfl) (fun y hu => ?_) _
        have Y := Lib.hid hu
        clear hu e0
        have hE := Error_r Y.out.1
        have hgo := HGO.out
        cases sm
        · rw [if_neg (by simp)] at hgo
          have HG := Lib.hid hgo
          clear hgo hE
          go_wp2_with fail
          go_ret
          rw [← HG.out]
          exact ⟨rfl, Y.out.1, Y.out.2.1⟩
        · by_cases he : s'.err = 0
          · rw [if_pos ⟨rfl, he⟩] at hgo
            rw [he] at hE
            have HG := Lib.hid hgo
            have HE := Lib.hid hE
            clear hgo he hE
            go_wp2_with fail
            refine HE.out.mono ?_
            rintro e w' ⟨rfl, rfl⟩
            go_wp2_with fail
            go_roundw
            case rel => exact ⟨k + 1, s', by have := HK.out; omega, by go_num, HG.out, by rw [HTA.out]; exact HSL.out, Y.out.1, Y.out.2.1⟩
            case measure => simp [RowKit.intOf]; omega
          · rw [if_neg (by simp [he])] at hgo
            obtain ⟨er, her⟩ : ∃ er, er = s'.err := ⟨_, rfl⟩
            rw [← her] at hE he
            have f0 : (er == 0) = false := by simpa using he
            have f1 : (er != 0) = true := by rw [bne, f0]; rfl
            have HG := Lib.hid hgo
            have HE := Lib.hid hE
            clear hgo he hE her
            go_wp2_with fail
            refine HE.out.mono ?_
            rintro e w' ⟨rfl, rfl⟩
            go_wp2_with fail
            go_ret
            rw [← HG.out]
            exact ⟨rfl, Y.out.1, Y.out.2.1⟩
      · have hq : (what : Int) % 4 = 3 := by omega
        rw [if_neg (by omega), if_neg (by omega), if_neg (by omega)] at hsm hs'
        obtain ⟨nv, hnv⟩ : ∃ nv, nv = (bytesR s (xb.length : Int)).1 := ⟨_, rfl⟩
        rw [← hnv] at hsm
        have HNV := Lib.hid hnv
        have HLN := Lib.hid (show s.all.length ≤ 140737488355328 by rw [HSL.out]; exact HLEN.out)
        clear hnv
        have HM := Lib.hid hsm.symm
        have HS := Lib.hid hs'
        clear h4 hsm hs' hnr
        go_wp2_with fail
        refine wp_region_W (fun u => At u b (off + k * 5) [.int .u8 (what : Int), .int .u64 (nn : Int), .bool is, .slice Ab xb.length cb, .int .i64 most]) (GoS w rb F FA b (off + k * 5) [.int .u8 (what : Int), .int .u64 (nn : Int), .bool is, .slice Ab xb.length cb, .int .i64 most] (.slice Ab xb.length cb) xb  s) hmix (kept_go _ _ KG.out (Below.refl _ _).drew) ?_
        change wpAnyW _ _ _ _ _ _ _ _ _
        refine wpAnyW_take (i := 0) (v := .pointer (some ⟨rb, 0, none⟩)) kept_go (fun _ h => h.2.2.1) rfl (by kernel_rfl) (by kernel_rfl) (fun _ _ _ h => h) (DoesV.reads (by rfl) fun w9 hS => by go_simp) ?_
        try simp only [List.getElem_toArray, List.getElem_cons_succ, List.getElem_cons_zero, Act.put, List.setIfInBounds_toArray, List.set_cons_succ, List.set_cons_zero]
        refine wpAnyW_take (i := 1) (v := .slice (some ⟨b, off, none⟩) l.length c) kept_go (fun _ h => h.2.2.1) rfl (by kernel_rfl) (by kernel_rfl) (fun _ _ _ h => h) (DoesV.reads (by rfl) fun w9 hS => by go_simp) ?_
        try simp only [List.getElem_toArray, List.getElem_cons_succ, List.getElem_cons_zero, Act.put, List.setIfInBounds_toArray, List.set_cons_succ, List.set_cons_zero]
        refine wpAnyW_take (i := 2) (v := .int .i64 (k : Int)) kept_go (fun _ h => h.2.2.1) rfl (by kernel_rfl) (by kernel_rfl) (fun _ _ _ h => h) (DoesV.reads (by rfl) fun w9 hS => by go_simp) ?_
        try simp only [List.getElem_toArray, List.getElem_cons_succ, List.getElem_cons_zero, Act.put, List.setIfInBounds_toArray, List.set_cons_succ, List.set_cons_zero]
        refine wpAnyW_take (i := 3) (v := .pointer (some ⟨b, off + k * 5, none⟩)) kept_go (fun _ h => h.2.2.1) rfl (by kernel_rfl) (by kernel_rfl) (fun _ _ _ h => h) (DoesV.reads (by rfl) fun w9 hS => by go_simp) ?_
        try simp only [List.getElem_toArray, List.getElem_cons_succ, List.getElem_cons_zero, Act.put, List.setIfInBounds_toArray, List.set_cons_succ, List.set_cons_zero]
        refine wpAnyW_take (i := 4) (v := .pointer (some ⟨b, off + k * 5 + 3, none⟩)) kept_go (fun _ h => h.2.2.1) rfl (by kernel_rfl) (by kernel_rfl) (fun _ _ _ h => h) (DoesV.reads (by rfl) fun w9 hS => by go_simp) ?_
        try simp only [List.getElem_toArray, List.getElem_cons_succ, List.getElem_cons_zero, Act.put, List.setIfInBounds_toArray, List.set_cons_succ, List.set_cons_zero]
        refine wpAnyW_take (i := 5) (v := .slice Ab xb.length cb) kept_go (fun _ h => h.2.2.1) rfl (by kernel_rfl) (by kernel_rfl) (fun _ _ _ h => h) (DoesV.reads (by rfl) fun w9 hS => by have q0 := hS 3 _ rfl; go_simp) ?_
        try simp only [List.getElem_toArray, List.getElem_cons_succ, List.getElem_cons_zero, Act.put, List.setIfInBounds_toArray, List.set_cons_succ, List.set_cons_zero]
        refine wpAnyW_take (i := 6) (v := .int .i64 (xb.length : Int)) kept_go (fun _ h => h.2.2.1) rfl (by kernel_rfl) (by kernel_rfl) (fun _ _ _ h => h) (DoesV.reads (by rfl) fun w9 hS => by go_simp) ?_
        try simp only [List.getElem_toArray, List.getElem_cons_succ, List.getElem_cons_zero, Act.put, List.setIfInBounds_toArray, List.set_cons_succ, List.set_cons_zero]
        refine wpAnyW_take (i := 8) (v := .slice (some ⟨b, off, none⟩) l.length c) kept_go (fun _ h => h.2.2.1) rfl (by kernel_rfl) (by kernel_rfl) (fun _ _ _ h => h) (DoesV.reads (by rfl) fun w9 hS => by go_simp) ?_
        try simp only [List.getElem_toArray, List.getElem_cons_succ, List.getElem_cons_zero, Act.put, List.setIfInBounds_toArray, List.set_cons_succ, List.set_cons_zero]
        refine wpAnyW_take (i := 9) (v := .int .i64 (k : Int)) kept_go (fun _ h => h.2.2.1) rfl (by kernel_rfl) (by kernel_rfl) (fun _ _ _ h => h) (DoesV.reads (by rfl) fun w9 hS => by go_simp) ?_
        try simp only [List.getElem_toArray, List.getElem_cons_succ, List.getElem_cons_zero, Act.put, List.setIfInBounds_toArray, List.set_cons_succ, List.set_cons_zero]
        refine wpAnyW_take (i := 10) (v := .pointer (some ⟨b, off + k * 5, none⟩)) kept_go (fun _ h => h.2.2.1) rfl (by kernel_rfl) (by kernel_rfl) (fun _ _ _ h => h) (DoesV.reads (by rfl) fun w9 hS => by go_simp) ?_
        try simp only [List.getElem_toArray, List.getElem_cons_succ, List.getElem_cons_zero, Act.put, List.setIfInBounds_toArray, List.set_cons_succ, List.set_cons_zero]
        refine wpAnyW_take (i := 11) (v := .pointer (some ⟨b, off + k * 5 + 3, none⟩)) kept_go (fun _ h => h.2.2.1) rfl (by kernel_rfl) (by kernel_rfl) (fun _ _ _ h => h) (DoesV.reads (by rfl) fun w9 hS => by go_simp) ?_
        try simp only [List.getElem_toArray, List.getElem_cons_succ, List.getElem_cons_zero, Act.put, List.setIfInBounds_toArray, List.set_cons_succ, List.set_cons_zero]
        refine wpAnyW_take (i := 12) (v := .slice Ab xb.length cb) kept_go (fun _ h => h.2.2.1) rfl (by kernel_rfl) (by kernel_rfl) (fun _ _ _ h => h) (DoesV.reads (by rfl) fun w9 hS => by have q0 := hS 3 _ rfl; go_simp) ?_
        try simp only [List.getElem_toArray, List.getElem_cons_succ, List.getElem_cons_zero, Act.put, List.setIfInBounds_toArray, List.set_cons_succ, List.set_cons_zero]
        refine wpAnyW_only (i := 7) rfl (by kernel_rfl) rfl (fun u hS => wp_of_call (by go_simp) (Bytes_r (xb.length : Int) (by omega) (by omega) HLN.out hS.1) fun e u' ⟨v1, he, hv, _, _, hr, ht⟩ => ⟨v1, he, fun u => GoS w rb F FA b (off + k * 5) [.int .u8 (what : Int), .int .u64 (nn : Int), .bool is, .slice Ab xb.length cb, .int .i64 most] (.slice Ab xb.length cb) xb  s' u ∧ BsV u (· ≠ rb) v1 nv, ⟨hS.told (by rw [HS.out]; exact hr) ht HBR.out HFA.out, by rw [HNV.out]; exact hv.mono fun q _ hq e => by have := hS.1.lt; omega⟩, kept_and kept_go (fun u u' h hb => h.below hb), fun _ h => h.1.2.2.1, ?_⟩)
        try simp only [List.getElem_toArray, List.getElem_cons_succ, List.getElem_cons_zero, Act.put, List.setIfInBounds_toArray, List.set_cons_succ, List.set_cons_zero]
        obtain ⟨A1, c1, rfl, -⟩ := (show BsV u' (u.heap.size ≤ ·) v1 nv by rw [HNV.out]; exact hv)
        refine wpAnyW_only (i := 13) rfl (by kernel_rfl) rfl (fun u hS => wp_of_call (by go_simp) (Same_any A1 Ab nv xb c1 cb u hS.2.rdh hS.1.2.2.2.rdh) fun e u' ⟨he, hu⟩ => ⟨_, he, fun u => GoS w rb F FA b (off + k * 5) [.int .u8 (what : Int), .int .u64 (nn : Int), .bool is, .slice Ab xb.length cb, .int .i64 most] (.slice Ab xb.length cb) xb  s' u, (by rw [← hu]; exact hS.1), kept_go, fun _ h => h.2.2.1, ?_⟩)
        try simp only [List.getElem_toArray, List.getElem_cons_succ, List.getElem_cons_zero, Act.put, List.setIfInBounds_toArray, List.set_cons_succ, List.set_cons_zero]
        refine wpAnyW_take (i := 14) (v := .bool sm) kept_go (fun _ h => h.2.2.1) rfl (by kernel_rfl) (by kernel_rfl) (fun _ _ _ h => h) (DoesV.reads (by rfl) fun w9 hS => by have q0 := HM.out; go_simp) ?_
        try simp only [List.getElem_toArray, List.getElem_cons_succ, List.getElem_cons_zero, Act.put, List.setIfInBounds_toArray, List.set_cons_succ, List.set_cons_zero]
        refine wpAnyW_done (by kernel_rfl) (fun y hu => ?_) _
        have Y := Lib.hid hu
        clear hu e0
        have hE := Error_r Y.out.1
        have hgo := HGO.out
        cases sm
        · rw [if_neg (by simp)] at hgo
          have HG := Lib.hid hgo
          clear hgo hE
          go_wp2_with fail
          go_ret
          rw [← HG.out]
          exact ⟨rfl, Y.out.1, Y.out.2.1⟩
        · by_cases he : s'.err = 0
          · rw [if_pos ⟨rfl, he⟩] at hgo
            rw [he] at hE
            have HG := Lib.hid hgo
            have HE := Lib.hid hE
            clear hgo he hE
            go_wp2_with fail
            refine HE.out.mono ?_
            rintro e w' ⟨rfl, rfl⟩
            go_wp2_with fail
            go_roundw
            case rel => exact ⟨k + 1, s', by have := HK.out; omega, by go_num, HG.out, by rw [HTA.out]; exact HSL.out, Y.out.1, Y.out.2.1⟩
            case measure => simp [RowKit.intOf]; omega
          · rw [if_neg (by simp [he])] at hgo
            obtain ⟨er, her⟩ : ∃ er, er = s'.err := ⟨_, rfl⟩
            rw [← her] at hE he
            have f0 : (er == 0) = false := by simpa using he
            have f1 : (er != 0) = true := by rw [bne, f0]; rfl
            have HG := Lib.hid hgo
            have HE := Lib.hid hE
            clear hgo he hE her
            go_wp2_with fail
            refine HE.out.mono ?_
            rintro e w' ⟨rfl, rfl⟩
            go_wp2_with fail
            go_ret
            rw [← HG.out]
            exact ⟨rfl, Y.out.1, Y.out.2.1⟩
    · have hkL : (l.take 60).drop k = [] := List.drop_of_length_le (by rw [HLL.out]; omega)
      rw [hkL] at hgo
      have HG := Lib.hid (show (true, s) = r0 from hgo)
      have KR := Lib.hid hr
      have KT := Lib.hid ht
      clear hgo hkL hr ht hsl
      by_cases h1 : k < l.length
      · obtain rfl : k = 60 := by omega
        have hlt' : (60 : Int) < (l.length : Int) := by omega
        clear hlt hk'
        go_wp2_with fail
        go_ret
        rw [← HG.out]
        exact ⟨rfl, KR.out, KT.out⟩
      · have hlt' : ¬ (k : Int) < (l.length : Int) := by omega
        clear hlt hk' h1
        go_wp2_with fail
        go_ret
        rw [← HG.out]
        exact ⟨rfl, KR.out, KT.out⟩

end Go.Proofs.Ytafafffheabjjaa
