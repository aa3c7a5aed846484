/- SWEPT -/
import Derived.Test.YtfgbpinfplllgaaGreatDoorZStWith
set_option linter.unusedVariables false
set_option linter.unusedSimpArgs false
open Go.Lib (hid)
namespace Go.Proofs.YtfgbpinfplllgaaGreatDoor
open Go.RowKit Go.Shelf
set_option maxRecDepth 100000
theorem wrs_code : ∀ (ls : List Blk) (s : DS) (n : Int), (wrs s n ls).2 ≠ 10 ∧ (wrs s n ls).2 ≠ 3 ∧ (wrs s n ls).2 ≠ 1
  | [], s, n => by
    unfold wrs
    simp only
    unfold flushE
    split
    · decide
    · split <;> decide
  | l :: ls, s, n => by
    unfold wrs
    split
    · exact wrs_code ls _ _
    · simp only
      unfold writeE
      split
      · decide
      · split
        · split <;> decide
        · decide
theorem layR_full {s : DS} {N : Int} {l : List UInt8} {at' room : Int} (h : (layR s N l at' room).2 = 10 ∨ (layR s N l at' room).2 = 3) : (layR s N l at' room).1 = s := by
  unfold layR at *
  split
  · rfl
  · split
    · rfl
    · rename_i h1 h2
      rw [if_neg h1, if_neg h2] at h
      have := wrs_code (newBlks N (partsOf l)) s at'
      rcases h with h | h
      · exact absurd h this.1
      · exact absurd h this.2.1
theorem with_end {w : World} {g : Nat} {a b v : Value} {tmps : Array Value} (hc : Cs w g 85 #[a, b]) (hp : tmps.getD 4 undef = .pointer (some ⟨g, 0, none⟩)) (hv : tmps.getD 5 undef = v) : (results Tryz.f95 tmps).run Tryz.prog w = .ok (.tuple #[.agg #[a, b], v]) w := by
  rw [results_agg_tmp (p := 4) (u := 5) (ty := 85) rfl tmps w g 0 [a, b] hp (At.whole hc) _ Tryz.underlying85 rfl (by kernel_rfl), hv]
theorem Cs.set2 {w : World} {g : Nat} {t : TypeId} {a b : Value} (h : Cs w g t #[a, b]) (x y : Value) : Cs ((w.setCell ⟨g, 0, none⟩ x).setCell ⟨g, 1, none⟩ y) g t #[x, y] := (h.set 0 x).set 1 y
theorem turn_set2 (w : World) (g : Nat) (x y : Value) : Turn w ((w.setCell ⟨g, 0, none⟩ x).setCell ⟨g, 1, none⟩ y) (· = g) := (Turn.setAt w g 0 x).trans (Turn.setAt _ g 1 y) fun _ _ h => h
set_option maxHeartbeats 8000000 in
theorem with_ok (K : K7) {w : World} {jb d : Nat} {v u : Value} {j : JS} {s : DS} {H : Nat} {FJ FR G : Nat → Prop} {rows : List Rw} {l : List Ch} (xA : Option Addr) (xn xc : Nat) (h : OnJ w jb d v j s H FJ) (hFJ : ∀ k, FJ k → k < w.heap.size)
    (hl : rows.length ≤ 10000) (hm : mayP rows = true) (hrw : LsV rowE w FR (.slice xA xn xc) rows) (hlc : l.length ≤ 10000) (hmc : mayCP l = true) (hrc : LsV chgE w G u l)
    (hst : s.steps + 30000 < 4611686018427387904) (hq : s.q.length + 30000 < 1099511627776) (hc : (appR s j H (putFrom [] l)).2 = 0) :
    Calls Tryz.prog 95 #[.agg #[.pointer (some ⟨jb, 0, none⟩), .slice xA xn xc], u] w fun e w' => StWithRet jb d (commR j s rows H l) H FJ w e w' := by
  have hnow := may_apply hm hmc
  have hlen := stApply_len l rows
  have hu1 := hrc.one
  obtain ⟨rfl, -⟩ := hrw.at
  have hR : commR j s rows H l = ⟨appJ s j H (putFrom [] l), (appR s j H (putFrom [] l)).1, applyP rows l, 0⟩ := by
    unfold commR
    simp only
    rw [if_neg (by rw [hc]; omega), hc, if_pos rfl]
  rw [hR]
  have hap := K.apply rows l (.slice xA rows.length xc) u FR G
  have HAP := hid hap
  have HSR := hid (small_rows hm (by omega))
  have HSC := hid (may_small hmc (by omega))
  have HM := hid hm
  have HMC := hid hmc
  have HNOW := hid hnow
  have HLEN := hid (Nat.le_trans hlen (show rows.length + l.length ≤ 20000 by omega))
  have HJ := hid h
  have HF := hid hFJ
  have HRW := hid hrw
  have HRC := hid hrc
  have HL := hid (And.intro hl hlc)
  have HST := hid (And.intro hst hq)
  have HK := hid K
  have HC := hid hc
  clear h hFJ hl hm hrw hlc hmc hrc hst hq hnow hlen hap K hR hc
  go_enter Tryz.func95, Tryz.ntmps95
  go_wp2_with fail
  have hb1 := (Below.refl w.heap.size w).alloc (Nat.le_refl _) (.cells #[.pointer (some ⟨jb, 0, none⟩), .slice xA rows.length xc] 85)
  have hk1 := Cs.new w 85 #[.pointer (some ⟨jb, 0, none⟩), .slice xA rows.length xc]
  have hz1 : (w.alloc (.cells #[.pointer (some ⟨jb, 0, none⟩), .slice xA rows.length xc] 85)).heap.size = w.heap.size + 1 := by simp
  generalize w.alloc (.cells #[.pointer (some ⟨jb, 0, none⟩), .slice xA rows.length xc] 85) = w1 at *
  have hb2 := (Below.refl w1.heap.size w1).alloc (Nat.le_refl _) (.cells #[.pointer none, .slice none 0 0] 85)
  have hk2 := Cs.new w1 85 #[.pointer none, .slice none 0 0]
  have hz2 : (w1.alloc (.cells #[.pointer none, .slice none 0 0] 85)).heap.size = w1.heap.size + 1 := by simp
  generalize w1.alloc (.cells #[.pointer none, .slice none 0 0] 85) = w2 at *
  rw [hz1] at hz2
  rw [hz1] at hk2
  have hk1 := hk1.below hb2 hk1.lt
  have B2 := hid (below_chain hb1 hb2)
  have K1 := hid hk1
  have K2 := hid hk2
  clear hb1 hb2 hz1 hk1 hk2
  refine ((HAP.out w2 HSR.out HSC.out (by have := HL.out.1; omega) (by have := HL.out.2; omega) (HRW.out.below B2.out) (HRC.out.below B2.out)).mono fun _ _ h => h.yes (by rw [HM.out, HMC.out]; rfl)).mono ?_
  rintro e w3 ⟨A3, c3, rfl, hl3, hb3⟩
  have B3 := hid (B2.out.trans (hb3.mono B2.out.size))
  have k1 := K1.out.below hb3 K1.out.lt
  have k2 := K2.out.below hb3 K2.out.lt
  have c10 : w3.cell? ⟨w.heap.size, 0, none⟩ = some (.pointer (some ⟨jb, 0, none⟩)) := k1.cell 0 rfl
  have c11 : w3.cell? ⟨w.heap.size, 0 + 1, none⟩ = some (.slice xA rows.length xc) := k1.cell 1 rfl
  have N3 := hid (hl3.rowE.mono (G := fun k => w2.heap.size ≤ k ∧ k < w3.heap.size) fun k hk hh => ⟨hh, hk⟩)
  have ha := hid (fun t => layA_v (u := u) (G := G) (l := l) t (HJ.out.below B3.out) (fun k hk => Nat.lt_of_lt_of_le (HF.out k hk) B3.out.size) HSC.out (by have := HL.out.2; omega) (HRC.out.below B3.out) HMC.out HST.out.1 HST.out.2)
  have K3 := hid k1
  have K4 := hid k2
  have hs3 := B3.out.size
  have hz3 : w.heap.size + 1 < w3.heap.size := K4.out.lt
  clear hl3 hb3 k1 k2 K1 K2 HAP
  go_wp2_with fail
  refine (ha.out _).mono ?_
  rintro e w4 ⟨ev, v4, rfl, he, ho, ht⟩
  have hev := he.one
  have E4 := hid he
  have O4 := hid ho
  have T4 := hid ht
  have hn2 : ¬ grownF FJ w3 w.heap.size := fun h => by
    rcases h with h | h
    · have := HF.out _ h; omega
    · have := K3.out.lt; omega
  have hn4 : ¬ grownF FJ w3 (w.heap.size + 1) := fun h => by
    rcases h with h | h
    · have := HF.out _ h; omega
    · have := K4.out.lt; omega
  have k3 := K3.out.turn ht hn2
  have k4 := K4.out.turn ht hn4
  have N4 := hid (N3.out.turn ht fun k hk hh => by
    rcases hh with hh | hh
    · have := HF.out k hh; omega
    · omega)
  have hs4 := T4.out.size
  have hfu := hid (isFull_v ev _ w4 he)
  have K5 := hid k3
  have K6 := hid k4
  clear he ho ht ha k3 k4 K3 K4 N3
  go_wp2_with fail
  refine hfu.out.mono ?_
  rintro e w5 ⟨rfl, rfl⟩
  have hq1 := HC.out
  rw [hq1] at E4
  have hev0 : ev = .nilIface := by rcases E4.out with ⟨_, h⟩ | ⟨h, _⟩ <;> first | exact h | exact absurd rfl h
  subst hev0
  have c60 : w4.cell? ⟨w.heap.size, 0, none⟩ = some (.pointer (some ⟨jb, 0, none⟩)) := K5.out.cell 0 rfl
  have f60 := K6.out.frozen 0
  have f61 := K6.out.frozen 1
  have c61 := K6.out.cell 0 rfl
  have c62 := K6.out.cell 1 rfl
  rw [hq1]
  go_wp2_with fail
  have ht6 := turn_set2 w4 (w.heap.size + 1) (.pointer (some ⟨jb, 0, none⟩)) (.slice A3 (applyP rows l).length c3)
  have hk6 := K6.out.set2 (.pointer (some ⟨jb, 0, none⟩)) (.slice A3 (applyP rows l).length c3)
  generalize (w4.setCell ⟨w.heap.size + 1, 0, none⟩ (.pointer (some ⟨jb, 0, none⟩))).setCell ⟨w.heap.size + 1, 1, none⟩ (.slice A3 (applyP rows l).length c3) = w6 at *
  have hng : ∀ k, grownF FJ w3 k → ¬ k = w.heap.size + 1 := fun k hk e => hn4 (e ▸ hk)
  refine bodyPost_ret (with_end hk6 rfl rfl) rfl ⟨_, _, A3, _, c3, _, grownF FJ w3, rfl, .inl ⟨rfl, rfl⟩, O4.out.turn ht6 hng, fun k hk => grownF_le hs3 hk, ?_, fun _ => ⟨rfl, (N4.out.turn ht6 fun k hk e => by omega).mono fun k _ hk => ⟨by omega, fun hh => by rcases hh with hh | hh <;> first | (have := HF.out k hh; omega) | omega⟩⟩, rfl⟩
  exact ((Turn.of_below B3.out (grownF FJ w)).trans (T4.out.mono fun k _ hk => grownF_le hs3 hk) fun _ _ h => h).trans (ht6.mono fun k _ hk => .inr (by omega)) fun _ _ h => h
set_option maxHeartbeats 8000000 in
theorem with_err (K : K7) {w : World} {jb d : Nat} {v u : Value} {j : JS} {s : DS} {H : Nat} {FJ FR G : Nat → Prop} {rows : List Rw} {l : List Ch} (xA : Option Addr) (xn xc : Nat) (h : OnJ w jb d v j s H FJ) (hFJ : ∀ k, FJ k → k < w.heap.size)
    (hl : rows.length ≤ 10000) (hm : mayP rows = true) (hrw : LsV rowE w FR (.slice xA xn xc) rows) (hlc : l.length ≤ 10000) (hmc : mayCP l = true) (hrc : LsV chgE w G u l)
    (hst : s.steps + 30000 < 4611686018427387904) (hq : s.q.length + 30000 < 1099511627776) (hc : (appR s j H (putFrom [] l)).2 ≠ 0 ∧ (appR s j H (putFrom [] l)).2 ≠ 10 ∧ (appR s j H (putFrom [] l)).2 ≠ 3) :
    Calls Tryz.prog 95 #[.agg #[.pointer (some ⟨jb, 0, none⟩), .slice xA xn xc], u] w fun e w' => StWithRet jb d (commR j s rows H l) H FJ w e w' := by
  have hnow := may_apply hm hmc
  have hlen := stApply_len l rows
  have hu1 := hrc.one
  obtain ⟨rfl, -⟩ := hrw.at
  have hR : commR j s rows H l = ⟨appJ s j H (putFrom [] l), (appR s j H (putFrom [] l)).1, rows, (appR s j H (putFrom [] l)).2⟩ := by
    unfold commR
    simp only
    rw [if_neg (by omega), if_neg hc.1]
  rw [hR]
  have hap := K.apply rows l (.slice xA rows.length xc) u FR G
  have HAP := hid hap
  have HSR := hid (small_rows hm (by omega))
  have HSC := hid (may_small hmc (by omega))
  have HM := hid hm
  have HMC := hid hmc
  have HNOW := hid hnow
  have HLEN := hid (Nat.le_trans hlen (show rows.length + l.length ≤ 20000 by omega))
  have HJ := hid h
  have HF := hid hFJ
  have HRW := hid hrw
  have HRC := hid hrc
  have HL := hid (And.intro hl hlc)
  have HST := hid (And.intro hst hq)
  have HK := hid K
  have HC := hid hc
  clear h hFJ hl hm hrw hlc hmc hrc hst hq hnow hlen hap K hR hc
  go_enter Tryz.func95, Tryz.ntmps95
  go_wp2_with fail
  have hb1 := (Below.refl w.heap.size w).alloc (Nat.le_refl _) (.cells #[.pointer (some ⟨jb, 0, none⟩), .slice xA rows.length xc] 85)
  have hk1 := Cs.new w 85 #[.pointer (some ⟨jb, 0, none⟩), .slice xA rows.length xc]
  have hz1 : (w.alloc (.cells #[.pointer (some ⟨jb, 0, none⟩), .slice xA rows.length xc] 85)).heap.size = w.heap.size + 1 := by simp
  generalize w.alloc (.cells #[.pointer (some ⟨jb, 0, none⟩), .slice xA rows.length xc] 85) = w1 at *
  have hb2 := (Below.refl w1.heap.size w1).alloc (Nat.le_refl _) (.cells #[.pointer none, .slice none 0 0] 85)
  have hk2 := Cs.new w1 85 #[.pointer none, .slice none 0 0]
  have hz2 : (w1.alloc (.cells #[.pointer none, .slice none 0 0] 85)).heap.size = w1.heap.size + 1 := by simp
  generalize w1.alloc (.cells #[.pointer none, .slice none 0 0] 85) = w2 at *
  rw [hz1] at hz2
  rw [hz1] at hk2
  have hk1 := hk1.below hb2 hk1.lt
  have B2 := hid (below_chain hb1 hb2)
  have K1 := hid hk1
  have K2 := hid hk2
  clear hb1 hb2 hz1 hk1 hk2
  refine ((HAP.out w2 HSR.out HSC.out (by have := HL.out.1; omega) (by have := HL.out.2; omega) (HRW.out.below B2.out) (HRC.out.below B2.out)).mono fun _ _ h => h.yes (by rw [HM.out, HMC.out]; rfl)).mono ?_
  rintro e w3 ⟨A3, c3, rfl, hl3, hb3⟩
  have B3 := hid (B2.out.trans (hb3.mono B2.out.size))
  have k1 := K1.out.below hb3 K1.out.lt
  have k2 := K2.out.below hb3 K2.out.lt
  have c10 : w3.cell? ⟨w.heap.size, 0, none⟩ = some (.pointer (some ⟨jb, 0, none⟩)) := k1.cell 0 rfl
  have c11 : w3.cell? ⟨w.heap.size, 0 + 1, none⟩ = some (.slice xA rows.length xc) := k1.cell 1 rfl
  have N3 := hid (hl3.rowE.mono (G := fun k => w2.heap.size ≤ k ∧ k < w3.heap.size) fun k hk hh => ⟨hh, hk⟩)
  have ha := hid (fun t => layA_v (u := u) (G := G) (l := l) t (HJ.out.below B3.out) (fun k hk => Nat.lt_of_lt_of_le (HF.out k hk) B3.out.size) HSC.out (by have := HL.out.2; omega) (HRC.out.below B3.out) HMC.out HST.out.1 HST.out.2)
  have K3 := hid k1
  have K4 := hid k2
  have hs3 := B3.out.size
  have hz3 : w.heap.size + 1 < w3.heap.size := K4.out.lt
  clear hl3 hb3 k1 k2 K1 K2 HAP
  go_wp2_with fail
  refine (ha.out _).mono ?_
  rintro e w4 ⟨ev, v4, rfl, he, ho, ht⟩
  have hev := he.one
  have E4 := hid he
  have O4 := hid ho
  have T4 := hid ht
  have hn2 : ¬ grownF FJ w3 w.heap.size := fun h => by
    rcases h with h | h
    · have := HF.out _ h; omega
    · have := K3.out.lt; omega
  have hn4 : ¬ grownF FJ w3 (w.heap.size + 1) := fun h => by
    rcases h with h | h
    · have := HF.out _ h; omega
    · have := K4.out.lt; omega
  have k3 := K3.out.turn ht hn2
  have k4 := K4.out.turn ht hn4
  have N4 := hid (N3.out.turn ht fun k hk hh => by
    rcases hh with hh | hh
    · have := HF.out k hh; omega
    · omega)
  have hs4 := T4.out.size
  have hfu := hid (isFull_v ev _ w4 he)
  have K5 := hid k3
  have K6 := hid k4
  clear he ho ht ha k3 k4 K3 K4 N3
  go_wp2_with fail
  refine hfu.out.mono ?_
  rintro e w5 ⟨rfl, rfl⟩
  have hbf : ((appR s j H (putFrom [] l)).2 == 10 || (appR s j H (putFrom [] l)).2 == 3) = false := by
    have h1 := HC.out.2.1
    have h2 := HC.out.2.2
    simp [h1, h2]
  obtain ⟨ge, hge⟩ : ∃ g, ev = .iface 181 (.pointer (some ⟨g, 0, none⟩)) := by
    rcases E4.out with ⟨h, _⟩ | ⟨_, g, h, _⟩
    · exact absurd h HC.out.1
    · exact ⟨g, h⟩
  subst hge
  have f60 := K6.out.frozen 0
  have f61 := K6.out.frozen 1
  have c61 := K6.out.cell 0 rfl
  have c62 := K6.out.cell 1 rfl
  rw [hbf]
  go_wp2_with fail
  have ht6 := turn_set2 w4 (w.heap.size + 1) (.pointer none) (.slice none 0 0)
  have hk6 := K6.out.set2 (.pointer none) (.slice none 0 0)
  generalize (w4.setCell ⟨w.heap.size + 1, 0, none⟩ (.pointer none)).setCell ⟨w.heap.size + 1, 1, none⟩ (.slice none 0 0) = w6 at *
  have hng : ∀ k, grownF FJ w3 k → ¬ k = w.heap.size + 1 := fun k hk e => hn4 (e ▸ hk)
  have hgE : ge ≠ w.heap.size + 1 := fun e => by
    rcases E4.out with ⟨h, _⟩ | ⟨_, g, h, h1, _⟩
    · exact HC.out.1 h
    · cases h
      have : w3.heap.size ≤ ge := h1
      omega
  refine bodyPost_ret (with_end hk6 rfl rfl) rfl ⟨_, _, none, 0, 0, _, grownF FJ w3, rfl, (E4.out.turn (ht6.mono (G := fun k => k = w.heap.size + 1 ∧ ¬ w3.heap.size ≤ k) fun k _ e => ⟨e, by omega⟩) fun k hk hh => hh.2 hk).mono fun k _ hk => Nat.le_trans hs3 hk, O4.out.turn ht6 hng, fun k hk => grownF_le hs3 hk, ?_, fun h => absurd h HC.out.1, rfl⟩
  exact ((Turn.of_below B3.out (grownF FJ w)).trans (T4.out.mono fun k _ hk => grownF_le hs3 hk) fun _ _ h => h).trans (ht6.mono fun k _ hk => .inr (by omega)) fun _ _ h => h
set_option maxHeartbeats 8000000 in
theorem with_rok (K : K7) {w : World} {jb d : Nat} {v u : Value} {j : JS} {s : DS} {H : Nat} {FJ FR G : Nat → Prop} {rows : List Rw} {l : List Ch} (xA : Option Addr) (xn xc : Nat) (h : OnJ w jb d v j s H FJ) (hFJ : ∀ k, FJ k → k < w.heap.size)
    (hl : rows.length ≤ 10000) (hm : mayP rows = true) (hrw : LsV rowE w FR (.slice xA xn xc) rows) (hlc : l.length ≤ 10000) (hmc : mayCP l = true) (hrc : LsV chgE w G u l)
    (hst : s.steps + 30000 < 4611686018427387904) (hq : s.q.length + 30000 < 1099511627776) (hc : ((appR s j H (putFrom [] l)).2 = 10 ∨ (appR s j H (putFrom [] l)).2 = 3) ∧ (repR (appR s j H (putFrom [] l)).1 (appJ s j H (putFrom [] l)) H (putFrom [] (betweenP [] (applyP rows l)))).2 = 0) :
    Calls Tryz.prog 95 #[.agg #[.pointer (some ⟨jb, 0, none⟩), .slice xA xn xc], u] w fun e w' => StWithRet jb d (commR j s rows H l) H FJ w e w' := by
  have hnow := may_apply hm hmc
  have hlen := stApply_len l rows
  have hu1 := hrc.one
  obtain ⟨rfl, -⟩ := hrw.at
  have hR : commR j s rows H l = ⟨repJ (appR s j H (putFrom [] l)).1 (appJ s j H (putFrom [] l)) H (putFrom [] (betweenP [] (applyP rows l))), (repR (appR s j H (putFrom [] l)).1 (appJ s j H (putFrom [] l)) H (putFrom [] (betweenP [] (applyP rows l)))).1, applyP rows l, 0⟩ := by
    unfold commR
    simp only
    rw [if_pos hc.1, if_pos hc.2, hc.2]
  rw [hR]
  have hap := K.apply rows l (.slice xA rows.length xc) u FR G
  have HAP := hid hap
  have HSR := hid (small_rows hm (by omega))
  have HSC := hid (may_small hmc (by omega))
  have HM := hid hm
  have HMC := hid hmc
  have HNOW := hid hnow
  have HLEN := hid (Nat.le_trans hlen (show rows.length + l.length ≤ 20000 by omega))
  have HJ := hid h
  have HF := hid hFJ
  have HRW := hid hrw
  have HRC := hid hrc
  have HL := hid (And.intro hl hlc)
  have HST := hid (And.intro hst hq)
  have HK := hid K
  have HC := hid hc
  clear h hFJ hl hm hrw hlc hmc hrc hst hq hnow hlen hap K hR hc
  go_enter Tryz.func95, Tryz.ntmps95
  go_wp2_with fail
  have hb1 := (Below.refl w.heap.size w).alloc (Nat.le_refl _) (.cells #[.pointer (some ⟨jb, 0, none⟩), .slice xA rows.length xc] 85)
  have hk1 := Cs.new w 85 #[.pointer (some ⟨jb, 0, none⟩), .slice xA rows.length xc]
  have hz1 : (w.alloc (.cells #[.pointer (some ⟨jb, 0, none⟩), .slice xA rows.length xc] 85)).heap.size = w.heap.size + 1 := by simp
  generalize w.alloc (.cells #[.pointer (some ⟨jb, 0, none⟩), .slice xA rows.length xc] 85) = w1 at *
  have hb2 := (Below.refl w1.heap.size w1).alloc (Nat.le_refl _) (.cells #[.pointer none, .slice none 0 0] 85)
  have hk2 := Cs.new w1 85 #[.pointer none, .slice none 0 0]
  have hz2 : (w1.alloc (.cells #[.pointer none, .slice none 0 0] 85)).heap.size = w1.heap.size + 1 := by simp
  generalize w1.alloc (.cells #[.pointer none, .slice none 0 0] 85) = w2 at *
  rw [hz1] at hz2
  rw [hz1] at hk2
  have hk1 := hk1.below hb2 hk1.lt
  have B2 := hid (below_chain hb1 hb2)
  have K1 := hid hk1
  have K2 := hid hk2
  clear hb1 hb2 hz1 hk1 hk2
  refine ((HAP.out w2 HSR.out HSC.out (by have := HL.out.1; omega) (by have := HL.out.2; omega) (HRW.out.below B2.out) (HRC.out.below B2.out)).mono fun _ _ h => h.yes (by rw [HM.out, HMC.out]; rfl)).mono ?_
  rintro e w3 ⟨A3, c3, rfl, hl3, hb3⟩
  have B3 := hid (B2.out.trans (hb3.mono B2.out.size))
  have k1 := K1.out.below hb3 K1.out.lt
  have k2 := K2.out.below hb3 K2.out.lt
  have c10 : w3.cell? ⟨w.heap.size, 0, none⟩ = some (.pointer (some ⟨jb, 0, none⟩)) := k1.cell 0 rfl
  have c11 : w3.cell? ⟨w.heap.size, 0 + 1, none⟩ = some (.slice xA rows.length xc) := k1.cell 1 rfl
  have N3 := hid (hl3.rowE.mono (G := fun k => w2.heap.size ≤ k ∧ k < w3.heap.size) fun k hk hh => ⟨hh, hk⟩)
  have ha := hid (fun t => layA_v (u := u) (G := G) (l := l) t (HJ.out.below B3.out) (fun k hk => Nat.lt_of_lt_of_le (HF.out k hk) B3.out.size) HSC.out (by have := HL.out.2; omega) (HRC.out.below B3.out) HMC.out HST.out.1 HST.out.2)
  have K3 := hid k1
  have K4 := hid k2
  have hs3 := B3.out.size
  have hz3 : w.heap.size + 1 < w3.heap.size := K4.out.lt
  clear hl3 hb3 k1 k2 K1 K2 HAP
  go_wp2_with fail
  refine (ha.out _).mono ?_
  rintro e w4 ⟨ev, v4, rfl, he, ho, ht⟩
  have hev := he.one
  have E4 := hid he
  have O4 := hid ho
  have T4 := hid ht
  have hn2 : ¬ grownF FJ w3 w.heap.size := fun h => by
    rcases h with h | h
    · have := HF.out _ h; omega
    · have := K3.out.lt; omega
  have hn4 : ¬ grownF FJ w3 (w.heap.size + 1) := fun h => by
    rcases h with h | h
    · have := HF.out _ h; omega
    · have := K4.out.lt; omega
  have k3 := K3.out.turn ht hn2
  have k4 := K4.out.turn ht hn4
  have N4 := hid (N3.out.turn ht fun k hk hh => by
    rcases hh with hh | hh
    · have := HF.out k hh; omega
    · omega)
  have hs4 := T4.out.size
  have hfu := hid (isFull_v ev _ w4 he)
  have K5 := hid k3
  have K6 := hid k4
  clear he ho ht ha k3 k4 K3 K4 N3
  go_wp2_with fail
  refine hfu.out.mono ?_
  rintro e w5 ⟨rfl, rfl⟩
  have hbf : ((appR s j H (putFrom [] l)).2 == 10 || (appR s j H (putFrom [] l)).2 == 3) = true := by
    rcases HC.out.1 with h | h <;> rw [h] <;> rfl
  have hss : (appR s j H (putFrom [] l)).1 = s := layR_full HC.out.1
  have c60 : w4.cell? ⟨w.heap.size, 0, none⟩ = some (.pointer (some ⟨jb, 0, none⟩)) := K5.out.cell 0 rfl
  have c6x : w4.cell? ⟨w.heap.size, 0 + 1, none⟩ = some (.slice xA rows.length xc) := K5.out.cell 1 rfl
  have hrp := replace_v HK.out (v := v4) (j := appJ s j H (putFrom [] l)) (s := (appR s j H (putFrom [] l)).1) (rows := applyP rows l) (u := .slice A3 (applyP rows l).length c3) (FJ := fun k => grownF FJ w3 k ∧ k < w4.heap.size) xA rows.length xc (O4.out.mono fun k hk hh => ⟨hh, hk⟩) (fun k hk => hk.2) HLEN.out HNOW.out N4.out (by rw [hss]; exact HST.out.1) (by rw [hss]; exact HST.out.2)
  have HRP := hid hrp
  rw [hbf]
  clear hrp
  go_wp2_with fail
  refine HRP.out.mono ?_
  rintro e w5 ⟨ev5, v5, rfl, he, ho, ht⟩
  have hev5 := he.one
  have E5 := hid he
  have O5 := hid ho
  have T5 := hid ht
  have g2 : ∀ k, k < w4.heap.size → ¬ grownF FJ w3 k → ¬ grownF (fun k => grownF FJ w3 k ∧ k < w4.heap.size) w4 k := fun k h1 h2 h => by
    rcases h with h | h
    · exact h2 h.1
    · omega
  have k5 := K5.out.turn ht (g2 _ K5.out.lt hn2)
  have k6 := K6.out.turn ht (g2 _ K6.out.lt hn4)
  have N5 := hid (N4.out.turn ht fun k hk => g2 k (by omega) fun hh => by
    rcases hh with hh | hh
    · have := HF.out k hh; omega
    · omega)
  have hs5 := T5.out.size
  have K7 := hid k5
  have K8 := hid k6
  clear he ho ht k5 k6 K5 K6 HRP
  have hq2 := HC.out.2
  rw [hq2] at E5
  have hev0 : ev5 = .nilIface := by rcases E5.out with ⟨_, h⟩ | ⟨h, _⟩ <;> first | exact h | exact absurd rfl h
  subst hev0
  have c70 : w5.cell? ⟨w.heap.size, 0, none⟩ = some (.pointer (some ⟨jb, 0, none⟩)) := K7.out.cell 0 rfl
  have f60 := K8.out.frozen 0
  have f61 := K8.out.frozen 1
  have c61 := K8.out.cell 0 rfl
  have c62 := K8.out.cell 1 rfl
  go_wp2_with fail
  have ht6 := turn_set2 w5 (w.heap.size + 1) (.pointer (some ⟨jb, 0, none⟩)) (.slice A3 (applyP rows l).length c3)
  have hk6 := K8.out.set2 (.pointer (some ⟨jb, 0, none⟩)) (.slice A3 (applyP rows l).length c3)
  generalize (w5.setCell ⟨w.heap.size + 1, 0, none⟩ (.pointer (some ⟨jb, 0, none⟩))).setCell ⟨w.heap.size + 1, 1, none⟩ (.slice A3 (applyP rows l).length c3) = w6 at *
  have hng : ∀ k, grownF (fun k => grownF FJ w3 k ∧ k < w4.heap.size) w4 k → ¬ k = w.heap.size + 1 := fun k hk e => g2 k (by omega) (e ▸ hn4) hk
  refine bodyPost_ret (with_end hk6 rfl rfl) rfl ⟨_, _, A3, _, c3, _, grownF (fun k => grownF FJ w3 k ∧ k < w4.heap.size) w4, rfl, .inl ⟨rfl, rfl⟩, O5.out.turn ht6 hng, fun k hk => ?_, ?_, fun _ => ⟨rfl, (N5.out.turn ht6 fun k hk e => by omega).mono fun k _ hk => ⟨by omega, g2 k (by omega) fun hh => by rcases hh with hh | hh <;> first | (have := HF.out k hh; omega) | omega⟩⟩, rfl⟩
  · rcases hk with hk | hk
    · exact grownF_le hs3 hk.1
    · exact .inr (by omega)
  · refine (((Turn.of_below B3.out (grownF FJ w)).trans (T4.out.mono fun k _ hk => grownF_le hs3 hk) fun _ _ h => h).trans (T5.out.mono fun k _ hk => ?_) fun _ _ h => h).trans (ht6.mono fun k _ hk => .inr (by omega)) fun _ _ h => h
    rcases hk with hk | hk
    · exact grownF_le hs3 hk.1
    · exact .inr (by omega)
set_option maxHeartbeats 8000000 in
theorem with_rerr (K : K7) {w : World} {jb d : Nat} {v u : Value} {j : JS} {s : DS} {H : Nat} {FJ FR G : Nat → Prop} {rows : List Rw} {l : List Ch} (xA : Option Addr) (xn xc : Nat) (h : OnJ w jb d v j s H FJ) (hFJ : ∀ k, FJ k → k < w.heap.size)
    (hl : rows.length ≤ 10000) (hm : mayP rows = true) (hrw : LsV rowE w FR (.slice xA xn xc) rows) (hlc : l.length ≤ 10000) (hmc : mayCP l = true) (hrc : LsV chgE w G u l)
    (hst : s.steps + 30000 < 4611686018427387904) (hq : s.q.length + 30000 < 1099511627776) (hc : ((appR s j H (putFrom [] l)).2 = 10 ∨ (appR s j H (putFrom [] l)).2 = 3) ∧ (repR (appR s j H (putFrom [] l)).1 (appJ s j H (putFrom [] l)) H (putFrom [] (betweenP [] (applyP rows l)))).2 ≠ 0) :
    Calls Tryz.prog 95 #[.agg #[.pointer (some ⟨jb, 0, none⟩), .slice xA xn xc], u] w fun e w' => StWithRet jb d (commR j s rows H l) H FJ w e w' := by
  have hnow := may_apply hm hmc
  have hlen := stApply_len l rows
  have hu1 := hrc.one
  obtain ⟨rfl, -⟩ := hrw.at
  have hR : commR j s rows H l = ⟨repJ (appR s j H (putFrom [] l)).1 (appJ s j H (putFrom [] l)) H (putFrom [] (betweenP [] (applyP rows l))), (repR (appR s j H (putFrom [] l)).1 (appJ s j H (putFrom [] l)) H (putFrom [] (betweenP [] (applyP rows l)))).1, rows, (repR (appR s j H (putFrom [] l)).1 (appJ s j H (putFrom [] l)) H (putFrom [] (betweenP [] (applyP rows l)))).2⟩ := by
    unfold commR
    simp only
    rw [if_pos hc.1, if_neg hc.2]
  rw [hR]
  have hap := K.apply rows l (.slice xA rows.length xc) u FR G
  have HAP := hid hap
  have HSR := hid (small_rows hm (by omega))
  have HSC := hid (may_small hmc (by omega))
  have HM := hid hm
  have HMC := hid hmc
  have HNOW := hid hnow
  have HLEN := hid (Nat.le_trans hlen (show rows.length + l.length ≤ 20000 by omega))
  have HJ := hid h
  have HF := hid hFJ
  have HRW := hid hrw
  have HRC := hid hrc
  have HL := hid (And.intro hl hlc)
  have HST := hid (And.intro hst hq)
  have HK := hid K
  have HC := hid hc
  clear h hFJ hl hm hrw hlc hmc hrc hst hq hnow hlen hap K hR hc
  go_enter Tryz.func95, Tryz.ntmps95
  go_wp2_with fail
  have hb1 := (Below.refl w.heap.size w).alloc (Nat.le_refl _) (.cells #[.pointer (some ⟨jb, 0, none⟩), .slice xA rows.length xc] 85)
  have hk1 := Cs.new w 85 #[.pointer (some ⟨jb, 0, none⟩), .slice xA rows.length xc]
  have hz1 : (w.alloc (.cells #[.pointer (some ⟨jb, 0, none⟩), .slice xA rows.length xc] 85)).heap.size = w.heap.size + 1 := by simp
  generalize w.alloc (.cells #[.pointer (some ⟨jb, 0, none⟩), .slice xA rows.length xc] 85) = w1 at *
  have hb2 := (Below.refl w1.heap.size w1).alloc (Nat.le_refl _) (.cells #[.pointer none, .slice none 0 0] 85)
  have hk2 := Cs.new w1 85 #[.pointer none, .slice none 0 0]
  have hz2 : (w1.alloc (.cells #[.pointer none, .slice none 0 0] 85)).heap.size = w1.heap.size + 1 := by simp
  generalize w1.alloc (.cells #[.pointer none, .slice none 0 0] 85) = w2 at *
  rw [hz1] at hz2
  rw [hz1] at hk2
  have hk1 := hk1.below hb2 hk1.lt
  have B2 := hid (below_chain hb1 hb2)
  have K1 := hid hk1
  have K2 := hid hk2
  clear hb1 hb2 hz1 hk1 hk2
  refine ((HAP.out w2 HSR.out HSC.out (by have := HL.out.1; omega) (by have := HL.out.2; omega) (HRW.out.below B2.out) (HRC.out.below B2.out)).mono fun _ _ h => h.yes (by rw [HM.out, HMC.out]; rfl)).mono ?_
  rintro e w3 ⟨A3, c3, rfl, hl3, hb3⟩
  have B3 := hid (B2.out.trans (hb3.mono B2.out.size))
  have k1 := K1.out.below hb3 K1.out.lt
  have k2 := K2.out.below hb3 K2.out.lt
  have c10 : w3.cell? ⟨w.heap.size, 0, none⟩ = some (.pointer (some ⟨jb, 0, none⟩)) := k1.cell 0 rfl
  have c11 : w3.cell? ⟨w.heap.size, 0 + 1, none⟩ = some (.slice xA rows.length xc) := k1.cell 1 rfl
  have N3 := hid (hl3.rowE.mono (G := fun k => w2.heap.size ≤ k ∧ k < w3.heap.size) fun k hk hh => ⟨hh, hk⟩)
  have ha := hid (fun t => layA_v (u := u) (G := G) (l := l) t (HJ.out.below B3.out) (fun k hk => Nat.lt_of_lt_of_le (HF.out k hk) B3.out.size) HSC.out (by have := HL.out.2; omega) (HRC.out.below B3.out) HMC.out HST.out.1 HST.out.2)
  have K3 := hid k1
  have K4 := hid k2
  have hs3 := B3.out.size
  have hz3 : w.heap.size + 1 < w3.heap.size := K4.out.lt
  clear hl3 hb3 k1 k2 K1 K2 HAP
  go_wp2_with fail
  refine (ha.out _).mono ?_
  rintro e w4 ⟨ev, v4, rfl, he, ho, ht⟩
  have hev := he.one
  have E4 := hid he
  have O4 := hid ho
  have T4 := hid ht
  have hn2 : ¬ grownF FJ w3 w.heap.size := fun h => by
    rcases h with h | h
    · have := HF.out _ h; omega
    · have := K3.out.lt; omega
  have hn4 : ¬ grownF FJ w3 (w.heap.size + 1) := fun h => by
    rcases h with h | h
    · have := HF.out _ h; omega
    · have := K4.out.lt; omega
  have k3 := K3.out.turn ht hn2
  have k4 := K4.out.turn ht hn4
  have N4 := hid (N3.out.turn ht fun k hk hh => by
    rcases hh with hh | hh
    · have := HF.out k hh; omega
    · omega)
  have hs4 := T4.out.size
  have hfu := hid (isFull_v ev _ w4 he)
  have K5 := hid k3
  have K6 := hid k4
  clear he ho ht ha k3 k4 K3 K4 N3
  go_wp2_with fail
  refine hfu.out.mono ?_
  rintro e w5 ⟨rfl, rfl⟩
  have hbf : ((appR s j H (putFrom [] l)).2 == 10 || (appR s j H (putFrom [] l)).2 == 3) = true := by
    rcases HC.out.1 with h | h <;> rw [h] <;> rfl
  have hss : (appR s j H (putFrom [] l)).1 = s := layR_full HC.out.1
  have c60 : w4.cell? ⟨w.heap.size, 0, none⟩ = some (.pointer (some ⟨jb, 0, none⟩)) := K5.out.cell 0 rfl
  have c6x : w4.cell? ⟨w.heap.size, 0 + 1, none⟩ = some (.slice xA rows.length xc) := K5.out.cell 1 rfl
  have hrp := replace_v HK.out (v := v4) (j := appJ s j H (putFrom [] l)) (s := (appR s j H (putFrom [] l)).1) (rows := applyP rows l) (u := .slice A3 (applyP rows l).length c3) (FJ := fun k => grownF FJ w3 k ∧ k < w4.heap.size) xA rows.length xc (O4.out.mono fun k hk hh => ⟨hh, hk⟩) (fun k hk => hk.2) HLEN.out HNOW.out N4.out (by rw [hss]; exact HST.out.1) (by rw [hss]; exact HST.out.2)
  have HRP := hid hrp
  rw [hbf]
  clear hrp
  go_wp2_with fail
  refine HRP.out.mono ?_
  rintro e w5 ⟨ev5, v5, rfl, he, ho, ht⟩
  have hev5 := he.one
  have E5 := hid he
  have O5 := hid ho
  have T5 := hid ht
  have g2 : ∀ k, k < w4.heap.size → ¬ grownF FJ w3 k → ¬ grownF (fun k => grownF FJ w3 k ∧ k < w4.heap.size) w4 k := fun k h1 h2 h => by
    rcases h with h | h
    · exact h2 h.1
    · omega
  have k5 := K5.out.turn ht (g2 _ K5.out.lt hn2)
  have k6 := K6.out.turn ht (g2 _ K6.out.lt hn4)
  have N5 := hid (N4.out.turn ht fun k hk => g2 k (by omega) fun hh => by
    rcases hh with hh | hh
    · have := HF.out k hh; omega
    · omega)
  have hs5 := T5.out.size
  have K7 := hid k5
  have K8 := hid k6
  clear he ho ht k5 k6 K5 K6 HRP
  obtain ⟨ge, hge⟩ : ∃ g, ev5 = .iface 181 (.pointer (some ⟨g, 0, none⟩)) := by
    rcases E5.out with ⟨h, _⟩ | ⟨_, g, h, _⟩
    · exact absurd h HC.out.2
    · exact ⟨g, h⟩
  subst hge
  have f60 := K8.out.frozen 0
  have f61 := K8.out.frozen 1
  have c61 := K8.out.cell 0 rfl
  have c62 := K8.out.cell 1 rfl
  go_wp2_with fail
  have ht6 := turn_set2 w5 (w.heap.size + 1) (.pointer none) (.slice none 0 0)
  have hk6 := K8.out.set2 (.pointer none) (.slice none 0 0)
  generalize (w5.setCell ⟨w.heap.size + 1, 0, none⟩ (.pointer none)).setCell ⟨w.heap.size + 1, 1, none⟩ (.slice none 0 0) = w6 at *
  have hng : ∀ k, grownF (fun k => grownF FJ w3 k ∧ k < w4.heap.size) w4 k → ¬ k = w.heap.size + 1 := fun k hk e => g2 k (by omega) (e ▸ hn4) hk
  refine bodyPost_ret (with_end hk6 rfl rfl) rfl ⟨_, _, none, 0, 0, _, grownF (fun k => grownF FJ w3 k ∧ k < w4.heap.size) w4, rfl, (E5.out.turn (ht6.mono (G := fun k => k = w.heap.size + 1 ∧ ¬ w4.heap.size ≤ k) fun k _ e => ⟨e, by omega⟩) fun k hk hh => hh.2 hk).mono fun k _ hk => by omega, O5.out.turn ht6 hng, fun k hk => ?_, ?_, fun h => absurd h HC.out.2, rfl⟩
  · rcases hk with hk | hk
    · exact grownF_le hs3 hk.1
    · exact .inr (by omega)
  · refine (((Turn.of_below B3.out (grownF FJ w)).trans (T4.out.mono fun k _ hk => grownF_le hs3 hk) fun _ _ h => h).trans (T5.out.mono fun k _ hk => ?_) fun _ _ h => h).trans (ht6.mono fun k _ hk => .inr (by omega)) fun _ _ h => h
    rcases hk with hk | hk
    · exact grownF_le hs3 hk.1
    · exact .inr (by omega)
theorem with_v (K : K7) {w : World} {jb d : Nat} {v u : Value} {j : JS} {s : DS} {H : Nat} {FJ FR G : Nat → Prop} {rows : List Rw} {l : List Ch} (xA : Option Addr) (xn xc : Nat) (h : OnJ w jb d v j s H FJ) (hFJ : ∀ k, FJ k → k < w.heap.size)
    (hl : rows.length ≤ 10000) (hm : mayP rows = true) (hrw : LsV rowE w FR (.slice xA xn xc) rows) (hlc : l.length ≤ 10000) (hmc : mayCP l = true) (hrc : LsV chgE w G u l)
    (hst : s.steps + 30000 < 4611686018427387904) (hq : s.q.length + 30000 < 1099511627776) :
    Calls Tryz.prog 95 #[.agg #[.pointer (some ⟨jb, 0, none⟩), .slice xA xn xc], u] w fun e w' => StWithRet jb d (commR j s rows H l) H FJ w e w' := by
  by_cases h1 : (appR s j H (putFrom [] l)).2 = 0
  · exact with_ok K xA xn xc h hFJ hl hm hrw hlc hmc hrc hst hq h1
  · by_cases h2 : (appR s j H (putFrom [] l)).2 = 10 ∨ (appR s j H (putFrom [] l)).2 = 3
    · by_cases h3 : (repR (appR s j H (putFrom [] l)).1 (appJ s j H (putFrom [] l)) H (putFrom [] (betweenP [] (applyP rows l)))).2 = 0
      · exact with_rok K xA xn xc h hFJ hl hm hrw hlc hmc hrc hst hq ⟨h2, h3⟩
      · exact with_rerr K xA xn xc h hFJ hl hm hrw hlc hmc hrc hst hq ⟨h2, h3⟩
    · exact with_err K xA xn xc h hFJ hl hm hrw hlc hmc hrc hst hq ⟨h1, by omega, by omega⟩
end Go.Proofs.YtfgbpinfplllgaaGreatDoor
