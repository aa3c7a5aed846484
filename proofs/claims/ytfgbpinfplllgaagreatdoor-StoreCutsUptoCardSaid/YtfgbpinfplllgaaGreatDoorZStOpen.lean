/- SWEPT -/
import Derived.Test.YtfgbpinfplllgaaGreatDoorZStMake
set_option linter.unusedVariables false
set_option linter.unusedSimpArgs false
open Go.Lib (hid)
namespace Go.Proofs.YtfgbpinfplllgaaGreatDoor
open Go.RowKit Go.Shelf
set_option maxRecDepth 100000
theorem half_le (ls : List (Option Lf)) : (halfN ls).2.1 ≤ ls.length := (counts_prefix _ _ _).1
theorem openJ_le (s : DS) (H : Nat) : (openJ s H).used ≤ H ∧ (openJ s H).frm ≤ H := by
  unfold openJ
  split
  · exact ⟨by have := half_le (lvsV s (H : Int) H); rwa [lvsV_len] at this, Nat.le_refl _⟩
  · exact ⟨by have := half_le (lvsV s 0 H); rwa [lvsV_len] at this, Nat.zero_le _⟩
def Er5 (w : World) (F : Nat → Prop) (ev : Value) : Prop := ErV w F ev 5 ∨ ∃ q, ev = .iface 154 (.pointer (some q))
theorem Er5.below {w w' : World} {F : Nat → Prop} {ev : Value} (h : Er5 w F ev) (hb : Below w.heap.size w w') : Er5 w' F ev := h.imp (fun h => h.below hb) id
theorem Er5.form {w : World} {F : Nat → Prop} {ev : Value} (h : Er5 w F ev) : ∃ t p, ev = .iface t (.pointer (some p)) := by
  rcases h with (⟨h, _⟩ | ⟨_, g, h, _⟩) | ⟨q, h⟩
  · cases h
  · exact ⟨_, _, h⟩
  · exact ⟨_, _, h⟩
theorem number5_v {F : Nat → Prop} (v : Value) (w : World) (hg : LaidErr w) (h : Er5 w F v) : Calls Tryz.prog 49 #[v] w fun e w' => e = .returned (.int .i64 5) ∧ Below w.heap.size w w' := by
  rcases h with h | ⟨q, rfl⟩
  · exact number_v v 5 w hg h
  · exact number_broken q w hg
def ReadRet (d : Nat) (s : DS) (H : Nat) (F : Nat → Prop) (w : World) (e : Ending) (w' : World) : Prop := Below w.heap.size w w' ∧
  ((((openJ s H).first = 0 ∨ decs (openJ s H).batches = none) ∧ ∃ ev, e = .returned (.tuple #[.agg #[.pointer none, .slice none 0 0], ev]) ∧ Er5 w' (w.heap.size ≤ ·) ev) ∨
  ((openJ s H).first ≠ 0 ∧ ∃ bs jb v A n c m, decs (openJ s H).batches = some bs ∧ e = .returned (.tuple #[.agg #[.pointer (some ⟨jb, 0, none⟩), .slice A n c], .nilIface]) ∧ w.heap.size ≤ m ∧ m ≤ w'.heap.size ∧ OnJ w' jb d v (openJ s H) s H (fun k => (F k ∧ k < w.heap.size) ∨ (w.heap.size ≤ k ∧ k < m)) ∧ LsV rowE w' (fun k => m ≤ k ∧ k < w'.heap.size) (.slice A n c) (tellsP bs)))
set_option maxHeartbeats 4000000 in
theorem read_v (K : K7) {w : World} {d H : Nat} {s : DS} {F : Nat → Prop} (h : DiskV w d s F) (hdk : s.dark = false) (hH : s.blocks = 2 * H) (hnx : nextToV s s.blocks + 1 ≤ 2147483649) (hbl : ∀ b ∈ (openJ s H).batches, b.length ≤ 1000000) (hsum : ∀ bs, decs (openJ s H).batches = some bs → bs.flatten.length ≤ 20000) :
    Calls Tryz.prog 40 #[.pointer (some ⟨d, 0, none⟩)] w fun e w' => ReadRet d s H F w e w' := by
  have hb1 := (Below.refl w.heap.size w).alloc (Nat.le_refl _) (.cells #[.pointer none, .slice none 0 0] 85)
  have hk1 := Cs.new w 85 #[.pointer none, .slice none 0 0]
  have hz : (w.alloc (.cells #[.pointer none, .slice none 0 0] 85)).heap.size = w.heap.size + 1 := by simp
  have hop := Open_v (Hf := H) (h.below hb1) hdk hH hnx
  have hle := openJ_le s H
  have HOP := hid hop
  have B1 := hid hb1
  have K1 := hid hk1
  have HBL := hid hbl
  have HSUM := hid hsum
  have HK := hid K
  have HD := hid (h.within (G := fun k => F k ∧ k < w.heap.size) fun k hk hl => ⟨hk, hl⟩)
  have HB := hid hH
  have HLE := hid hle
  clear h hdk hH hnx hbl hsum K hb1 hk1 hop hle
  unfold ReadRet
  unfold OpenRet at HOP
  generalize openJ s H = j at *
  go_enter Tryz.func40, Tryz.ntmps40
  go_wp2_with fail
  generalize w.alloc (.cells #[.pointer none, .slice none 0 0] 85) = w1 at *
  refine HOP.out.mono ?_
  rintro e w2 ⟨hb2, hh⟩
  have B2 := hid (below_chain B1.out hb2)
  have k2 := K1.out.below hb2 K1.out.lt
  have hs1 := hb2.size
  clear HOP K1 hb2
  by_cases h0 : j.first = 0
  · rw [if_pos h0] at hh
    subst hh
    have HW := hid (fun t => wrap_v t 5 w2)
    have K2 := hid k2
    have H0 := hid h0
    clear k2 h0
    go_wp2_with fail
    refine (HW.out _).mono ?_
    rintro e w3 ⟨ev, rfl, he, hb3⟩
    have hev := he.one
    have k3 := K2.out.below hb3 K2.out.lt
    have f0 := k3.frozen 0
    have f1 := k3.frozen 1
    have c0 := k3.cell 0 rfl
    have c1 := k3.cell 1 rfl
    have E3 := hid he
    have B3 := hid (below_chain B2.out hb3)
    have K3 := hid k3
    clear he hb3 k3
    go_wp2_with fail
    have t4 := turn_set2 w3 w.heap.size (.pointer none) (.slice none 0 0)
    have k4 := K3.out.set2 (.pointer none) (.slice none 0 0)
    generalize (w3.setCell ⟨w.heap.size, 0, none⟩ (.pointer none)).setCell ⟨w.heap.size, 1, none⟩ (.slice none 0 0) = w4 at *
    refine bodyPost_ret (read_end k4 rfl rfl) rfl ⟨B3.out.trans (t4.below B3.out.size fun k e => by omega), .inl ⟨.inl H0.out, ?_⟩⟩
    exact ⟨ev, rfl, .inl ((E3.out.turn (t4.mono (G := fun k => k = w.heap.size ∧ ¬ w2.heap.size ≤ k) fun k _ e => ⟨e, by omega⟩) fun k hk hh => hh.2 hk).mono fun k _ hk => by omega)⟩
  · rw [if_neg h0] at hh
    obtain ⟨jb, v, rfl, hjb, hj⟩ := hh
    have ho : OnJ w2 jb d v j s H (fun k => (F k ∧ k < w.heap.size) ∨ (w.heap.size + 1 ≤ k ∧ k < w2.heap.size)) := by
      refine ⟨fun k => F k ∧ k < w.heap.size, _, HD.out.below B2.out, hj, fun k hk => ⟨.inl hk, fun hx => by have := hx.1; omega, by omega, by omega⟩, fun k hk => ⟨.inr ⟨by omega, hk.2.1⟩, hk.2.1⟩, .inr ⟨by omega, hj.cells.lt⟩, HB.out, HLE.out.1, HLE.out.2⟩
    have HBT := hid (Batches_v ho HBL.out)
    have O2 := hid ho
    have K2 := hid k2
    have H0 := hid h0
    have hfew : j.batches.length ≤ 8192 := Nat.le_trans hj.few.1 hj.few.2.1
    clear k2 h0 hj ho
    go_wp2_with fail
    refine HBT.out.mono ?_
    rintro e w3 ⟨bv, vs, rfl, hov, hb3⟩
    have hbv1 : bv.oneCell' = true := own_one hov.row
    have HT := hid (tableOf_v HK.out w3 hov.r hfew HBL.out HSUM.out)
    have B3 := hid hb3
    clear hov hb3 HBT
    go_wp2_with fail
    refine HT.out.mono ?_
    rintro e w4 ⟨hb4, hh⟩
    have hb24 := below_chain B3.out hb4
    have k4 := K2.out.below hb24 K2.out.lt
    have hs4 := hb24.size
    have f0 := k4.frozen 0
    have f1 := k4.frozen 1
    have c0 := k4.cell 0 rfl
    have c1 := k4.cell 1 rfl
    have hs3 := B3.out.size
    have B4 := hid hb24
    have B5 := hid (below_chain B2.out hb24)
    have K4 := hid k4
    clear hb4 hb24 k4 HT
    cases hdc : decs j.batches with
    | none =>
      rw [hdc] at hh
      obtain ⟨q, rfl⟩ := hh
      have HDC := hid hdc
      clear hdc
      go_wp2_with fail
      have t5 := turn_set2 w4 w.heap.size (.pointer none) (.slice none 0 0)
      have k5 := K4.out.set2 (.pointer none) (.slice none 0 0)
      generalize (w4.setCell ⟨w.heap.size, 0, none⟩ (.pointer none)).setCell ⟨w.heap.size, 1, none⟩ (.slice none 0 0) = w5 at *
      refine bodyPost_ret (read_end k5 rfl rfl) rfl ⟨B5.out.trans (t5.below B5.out.size fun k e => by omega), .inl ⟨.inr HDC.out, ?_⟩⟩
      exact ⟨_, rfl, .inr ⟨q, rfl⟩⟩
    | some bs =>
      rw [hdc] at hh
      obtain ⟨u, rfl, hu⟩ := hh
      obtain ⟨A, c, rfl, -⟩ := id hu
      have HDC := hid hdc
      have U4 := hid (hu.rowE.mono (G := fun k => w2.heap.size ≤ k ∧ k < w4.heap.size) fun k hk hh => ⟨by omega, hk⟩)
      clear hdc hu
      go_wp2_with fail
      have t5 := turn_set2 w4 w.heap.size (.pointer (some ⟨jb, 0, none⟩)) (.slice A (tellsP bs).length c)
      have k5 := K4.out.set2 (.pointer (some ⟨jb, 0, none⟩)) (.slice A (tellsP bs).length c)
      generalize (w4.setCell ⟨w.heap.size, 0, none⟩ (.pointer (some ⟨jb, 0, none⟩))).setCell ⟨w.heap.size, 1, none⟩ (.slice A (tellsP bs).length c) = w5 at *
      have hs5 := t5.size
      refine bodyPost_ret (read_end k5 rfl rfl) rfl ⟨B5.out.trans (t5.below B5.out.size fun k e => by omega), .inr ⟨H0.out, ?_⟩⟩
      exact ⟨bs, jb, v, A, _, c, w2.heap.size, HDC.out, rfl, by omega, by omega, ((O2.out.below B4.out).turn t5 fun k hk e => by rcases hk with hk | hk <;> omega).mono fun k _ hk => hk.imp id fun h => ⟨by omega, h.2⟩, (U4.out.turn t5 fun k hk e => by omega).mono fun k _ hk => ⟨hk.1, by omega⟩⟩
def OpenSRet (d : Nat) (s : DS) (H : Nat) (F : Nat → Prop) (w : World) (e : Ending) (w' : World) : Prop := Below w.heap.size w w' ∧
  (((openJ s H).first = 0 ∨ decs (openJ s H).batches = none) ∧ e = .returned (.tuple #[.pointer none, .int .i64 5]) ∨
    ((openJ s H).first ≠ 0 ∧ ∃ bs sb, decs (openJ s H).batches = some bs ∧ e = .returned (.tuple #[.pointer (some ⟨sb, 0, none⟩), .int .i64 0]) ∧ w.heap.size ≤ sb ∧ OnS w' sb d (openJ s H) s (tellsP bs) false H (fun k => ((F k ∧ k < w.heap.size) ∨ w.heap.size ≤ k) ∧ k < w'.heap.size)))
set_option maxHeartbeats 4000000 in
theorem storeOnR_v (K : K7) {w : World} {d H : Nat} {s : DS} {F : Nat → Prop} (h : DiskV w d s F) (hg : LaidErr w) (hdk : s.dark = false) (hH : s.blocks = 2 * H) (hnx : nextToV s s.blocks + 1 ≤ 2147483649) (hbl : ∀ b ∈ (openJ s H).batches, b.length ≤ 1000000) (hsum : ∀ bs, decs (openJ s H).batches = some bs → bs.flatten.length ≤ 20000) :
    Calls Tryz.prog 35 #[.pointer (some ⟨d, 0, none⟩), .func (.func 40) #[] #[]] w fun e w' => OpenSRet d s H F w e w' := by
  have hb := read_v K h hdk hH hnx hbl hsum
  have HG := hid hg
  clear h hdk hH hnx hbl hsum K hg
  unfold ReadRet at hb
  unfold OpenSRet
  generalize openJ s H = j at *
  go_enter Tryz.func35, Tryz.ntmps35
  go_wp2_with fail
  refine hb.mono ?_
  clear hb
  rintro e w1 ⟨hb1, hh⟩
  have B1 := hid hb1
  have G1 := hid (HG.out.below hb1)
  have hs1 := hb1.size
  clear hb1
  rcases hh with ⟨h0, ev, rfl, he⟩ | ⟨h0, bs, jb, v, A, n, c, m, hdc, rfl, hm1, hm2, ho, hl⟩
  · skip
    obtain ⟨et, ep, rfl⟩ := he.form
    have hb2 := (Below.refl w1.heap.size w1).alloc (Nat.le_refl _) (.cells #[.pointer none, .slice none 0 0] 85)
    have NU := hid (number5_v _ _ (G1.out.below hb2) (he.below hb2))
    have RH := hid h0
    have B2 := hid (below_chain B1.out hb2)
    clear h0 he hb2
    go_wp2_with fail
    refine NU.out.mono ?_
    rintro e w3 ⟨rfl, hb3⟩
    have B3 := hid (below_chain B2.out hb3)
    clear hb3
    go_wp2_with fail
    go_ret2
    exact ⟨B3.out, .inl ⟨RH.out, rfl⟩⟩
  · have RH := hid (And.intro h0 hdc)
    have O1 := hid ho
    have L1 := hid hl
    clear h0 hdc ho hl
    go_wp2_with fail
    have hb2 := (Below.refl w1.heap.size w1).alloc (Nat.le_refl _) (.cells #[.pointer (some ⟨jb, 0, none⟩), .slice A n c] 85)
    have hz2 : (w1.alloc (.cells #[.pointer (some ⟨jb, 0, none⟩), .slice A n c] 85)).heap.size = w1.heap.size + 1 := by simp
    generalize w1.alloc (.cells #[.pointer (some ⟨jb, 0, none⟩), .slice A n c] 85) = w2 at *
    have hb3 := (Below.refl w2.heap.size w2).alloc (Nat.le_refl _) (.cells #[.pointer (some ⟨d, 0, none⟩), .pointer (some ⟨jb, 0, none⟩), .slice A n c, .bool false] 87)
    have k3 := Cs.new w2 87 #[.pointer (some ⟨d, 0, none⟩), .pointer (some ⟨jb, 0, none⟩), .slice A n c, .bool false]
    have hz3 : (w2.alloc (.cells #[.pointer (some ⟨d, 0, none⟩), .pointer (some ⟨jb, 0, none⟩), .slice A n c, .bool false] 87)).heap.size = w2.heap.size + 1 := by simp
    rw [hz2] at k3
    go_ret2
    generalize w2.alloc (.cells #[.pointer (some ⟨d, 0, none⟩), .pointer (some ⟨jb, 0, none⟩), .slice A n c, .bool false] 87) = w3 at *
    have hb := below_chain hb2 hb3
    refine ⟨below_chain B1.out hb, .inr ⟨RH.out.1, bs, _, RH.out.2, rfl, by omega, jb, v, A, n, c, _, _, k3, O1.out.below hb, L1.out.below hb, fun k hk => ?_, fun k hk => ⟨⟨.inr (by omega), by omega⟩, by omega, by omega⟩, ⟨.inr (by omega), by omega⟩⟩⟩
    rcases hk with hk | hk
    · exact ⟨⟨.inl hk, by omega⟩, fun h => by omega, by omega, by omega⟩
    · exact ⟨⟨.inr hk.1, by omega⟩, fun h => by omega, by omega, by omega⟩
theorem OpenS_v (K : K7) {w : World} {d H : Nat} {s : DS} {F : Nat → Prop} (h : DiskV w d s F) (hg : LaidErr w) (hdk : s.dark = false) (hH : s.blocks = 2 * H) (hnx : nextToV s s.blocks + 1 ≤ 2147483649) (hbl : ∀ b ∈ (openJ s H).batches, b.length ≤ 1000000) (hsum : ∀ bs, decs (openJ s H).batches = some bs → bs.flatten.length ≤ 20000) :
    Calls Tryz.prog 15 #[.pointer (some ⟨d, 0, none⟩)] w fun e w' => OpenSRet d s H F w e w' := by
  have hb := storeOnR_v K h hg hdk hH hnx hbl hsum
  clear h hdk hH hnx hbl hsum K hg
  unfold OpenSRet at *
  generalize openJ s H = j at *
  go_enter Tryz.func15, Tryz.ntmps15
  go_wp2_with fail
  refine hb.mono ?_
  clear hb
  rintro e w1 ⟨hb1, hh⟩
  have B1 := hid hb1
  clear hb1
  rcases hh with ⟨h0, rfl⟩ | ⟨h0, bs, sb, h1, rfl, h2, h3⟩
  · have R0 := hid h0
    clear h0
    go_wp2_with fail
    go_ret2
    exact ⟨B1.out, .inl ⟨R0.out, rfl⟩⟩
  · have R0 := hid (And.intro h0 (And.intro h1 (And.intro h2 h3)))
    clear h0 h1 h2 h3
    go_wp2_with fail
    go_ret2
    exact ⟨B1.out, .inr ⟨R0.out.1, bs, sb, R0.out.2.1, rfl, R0.out.2.2⟩⟩
end Go.Proofs.YtfgbpinfplllgaaGreatDoor
