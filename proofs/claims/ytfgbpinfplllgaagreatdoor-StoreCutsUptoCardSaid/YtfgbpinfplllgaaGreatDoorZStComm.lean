/- SWEPT -/
import Derived.Test.YtfgbpinfplllgaaGreatDoorZStOn
set_option linter.unusedVariables false
set_option linter.unusedSimpArgs false
open Go.Lib (hid)
namespace Go.Proofs.YtfgbpinfplllgaaGreatDoor
open Go.RowKit Go.Shelf
set_option maxRecDepth 100000
theorem commR_rows {j : JS} {s : DS} {rows : List Rw} {H : Nat} {l : List Ch} (h : (commR j s rows H l).e ≠ 0) : (commR j s rows H l).rows = rows := by
  unfold commR at *
  simp only at *
  split
  · rename_i hc
    rw [if_pos hc] at h
    exact if_neg h
  · rename_i hc
    rw [if_neg hc] at h
    exact if_neg h
def CommitRet (sb d : Nat) (r : SR) (H : Nat) (F : Nat → Prop) (w : World) (e : Ending) (w' : World) : Prop := ∃ ev, e = .returned ev ∧ ErV w' (w.heap.size ≤ ·) ev r.e ∧ Turn w w' F ∧ OnS w' sb d r.j r.s r.rows (decide (r.e = 9)) H F
set_option maxHeartbeats 8000000 in
theorem commit_err (K : K7) {w : World} {sb d : Nat} {u : Value} {j : JS} {s : DS} {H : Nat} {F G : Nat → Prop} {rows : List Rw} {l : List Ch} (h : OnS w sb d j s rows false H F) (hF : ∀ k, w.heap.size ≤ k → F k)
    (hl : rows.length ≤ 10000) (hm : mayP rows = true) (hlc : l.length ≤ 10000) (hmc : mayCP l = true) (hrc : LsV chgE w G u l)
    (hst : s.steps + 30000 < 4611686018427387904) (hq : s.q.length + 30000 < 1099511627776) (hc : (commR j s rows H l).e ≠ 0) :
    Calls Tryz.prog 47 #[.pointer (some ⟨sb, 0, none⟩), u] w fun e w' => CommitRet sb d (commR j s rows H l) H F w e w' := by
  obtain ⟨jb, v, A, n, c, FJ, FR, h1, h2, h3, h4, h5, h6⟩ := h
  have hnow := now_v h1
  have hu1 := hrc.one
  have HWI := hid (fun (W : World) (hb : Below w.heap.size w W) => with_v K (FR := FR) (G := G) A n c ((h2.mono (G := FJ) fun _ _ h => h).below hb) (fun k hk => Nat.lt_of_lt_of_le (h4 k hk).2.2.2 hb.size) hl hm (h3.below hb) hlc hmc (hrc.below hb) hst hq)
  have HS := hid h1
  have HR := hid h3
  have H4 := hid h4
  have H5 := hid h5
  have H6 := hid h6
  have HF := hid hF
  have HC := hid hc
  have HRO := hid (commR_rows hc)
  have hsb := h1.lt
  clear h1 h2 h3 h4 h5 h6 hF hl hm hlc hmc hrc hst hq hc
  generalize commR j s rows H l = r at *
  go_enter Tryz.func47, Tryz.ntmps47
  go_wp2_with fail
  refine hnow.mono ?_
  rintro e w1 ⟨rfl, hb1⟩
  have B1 := hid hb1
  have hb2 := (Below.refl w1.heap.size w1).alloc (Nat.le_refl _) (.cells #[.pointer (some ⟨jb, 0, none⟩), .slice A n c] 85)
  have B2 := hid (below_chain hb1 hb2)
  clear hb1 hb2
  go_wp2_with fail
  generalize w1.alloc (.cells #[.pointer (some ⟨jb, 0, none⟩), .slice A n c] 85) = w2 at *
  refine (HWI.out w2 B2.out).mono ?_
  rintro e w3 ⟨ev, v3, hA, hn, hcc, hj, FJ', rfl, he, ho, hFJ', ht, hok, hj1⟩
  have hev := he.one
  have E3 := hid he
  have O3 := hid ho
  have F3 := hid hFJ'
  have T3 := hid ht
  have K3 := hid hok
  have hs2 := B2.out.size
  have hs3 := T3.out.size
  have hnsb : ¬ grownF FJ w2 sb := fun h => by
    rcases h with h | h
    · exact (H4.out sb h).2.2.1 rfl
    · omega
  have ks := (HS.out.below B2.out HS.out.lt).turn ht hnsb
  have S3 := hid ks
  clear he ho hFJ' ht hok hnow ks
  obtain ⟨ge, hge, hg2, hcell⟩ : ∃ g, ev = .iface 181 (.pointer (some ⟨g, 0, none⟩)) ∧ w2.heap.size ≤ g ∧ w3.cell? ⟨g, 0 + 1, none⟩ = some (.iface 25 (.int .i64 r.e)) := by
    rcases E3.out with ⟨h, _⟩ | ⟨_, g, h, h1, h2⟩
    · exact absurd h HC.out
    · exact ⟨g, h, h1, h2⟩
  subst hge
  have c3 : w3.cell? ⟨sb, 0 + 3, none⟩ = some (.bool false) := S3.out.cell 3 rfl
  have f3 : w3.frozen? ⟨sb, 0 + 3, none⟩ = false := S3.out.frozen 3
  have hb4 := (Below.refl w3.heap.size w3).alloc (Nat.le_refl _) (.cells #[.pointer hj, .slice hA hn hcc] 85)
  have c4 := (hb4.cell (p := ⟨sb, 0 + 3, none⟩) (by simp; omega)).trans c3
  have his := hid (fun (W : World) (hb : Below w3.heap.size w3 W) => Is_failed ge r.e 9 W ((hb.cell (lt_of_cell hcell)).trans hcell))
  clear hcell
  go_wp2_with fail
  have f4 : (w3.alloc (.cells #[.pointer hj, .slice hA hn hcc] 85)).frozen? ⟨sb, 0 + 3, none⟩ = false := (S3.out.below hb4 S3.out.lt).frozen 3
  have k4 := S3.out.below hb4 S3.out.lt
  refine (his.out _ hb4).mono ?_
  rintro e w4 ⟨rfl, rfl⟩
  have B4 := hid hb4
  have K4 := hid k4
  clear hb4 k4 his
  go_wp2_with fail
  generalize w3.alloc (.cells #[.pointer hj, .slice hA hn hcc] 85) = w4 at *
  have k5 := K4.out.set 3 (.bool (r.e == 9))
  have t5 := Turn.setAt w4 sb 3 (.bool (r.e == 9))
  go_ret
  have hs4 := B4.out.size
  have hFw : ∀ k, grownF FJ w2 k → F k := fun k hk => by
    rcases hk with hk | hk
    · exact (H4.out k hk).1
    · exact HF.out k (by omega)
  have hnb : ∀ k, FJ' k → ¬ k = sb := fun k hk e => hnsb (e ▸ F3.out k hk)
  refine ⟨_, rfl, ((E3.out.below B4.out).turn (t5.mono (G := fun k => k = sb ∧ ¬ w2.heap.size ≤ k) fun k _ e => ⟨e, by omega⟩) fun k hk hh => hh.2 hk).mono fun k _ hk => by omega,
    ((((Turn.of_below B2.out F).trans (T3.out.mono fun k _ hk => hFw k hk) fun _ _ h => h).trans (Turn.of_below B4.out F) fun _ _ h => h).trans (t5.mono fun k _ e => e ▸ H6.out) fun _ _ h => h),
    jb, v3, A, n, c, fun k => FJ' k ∧ k < w4.heap.size, FR, ?_, ((O3.out.below B4.out).turn t5 hnb).mono fun k hk hh => ⟨hh, by simpa using hk⟩, ?_, fun k hk => ?_, fun k hk => ?_, H6.out⟩
  · have e9 : (r.e == 9) = decide (r.e = 9) := by by_cases h9 : r.e = 9 <;> simp [h9]
    rw [← e9]
    exact k5
  · rw [HRO.out]
    refine (((HR.out.below B2.out).turn T3.out fun k hk hh => ?_).below B4.out).turn t5 fun k hk e => (H5.out k hk).2.1 e
    rcases hh with hh | hh
    · exact (H4.out k hh).2.1 hk
    · have := (H5.out k hk).2.2; omega
  · have hg := F3.out k hk.1
    refine ⟨hFw k hg, fun hr => ?_, hnb k hk.1, by simpa using hk.2⟩
    rcases hg with hg | hg
    · exact (H4.out k hg).2.1 hr
    · have := (H5.out k hr).2.2; omega
  · obtain ⟨a1, a2, a3⟩ := H5.out k hk
    exact ⟨a1, a2, by simp; omega⟩
set_option maxHeartbeats 8000000 in
theorem commit_ok (K : K7) {w : World} {sb d : Nat} {u : Value} {j : JS} {s : DS} {H : Nat} {F G : Nat → Prop} {rows : List Rw} {l : List Ch} (h : OnS w sb d j s rows false H F) (hF : ∀ k, w.heap.size ≤ k → F k)
    (hl : rows.length ≤ 10000) (hm : mayP rows = true) (hlc : l.length ≤ 10000) (hmc : mayCP l = true) (hrc : LsV chgE w G u l)
    (hst : s.steps + 30000 < 4611686018427387904) (hq : s.q.length + 30000 < 1099511627776) (hc : (commR j s rows H l).e = 0) :
    Calls Tryz.prog 47 #[.pointer (some ⟨sb, 0, none⟩), u] w fun e w' => CommitRet sb d (commR j s rows H l) H F w e w' := by
  obtain ⟨jb, v, A, n, c, FJ, FR, h1, h2, h3, h4, h5, h6⟩ := h
  have hnow := now_v h1
  have hu1 := hrc.one
  have HWI := hid (fun (W : World) (hb : Below w.heap.size w W) => with_v K (FR := FR) (G := G) A n c ((h2.mono (G := FJ) fun _ _ h => h).below hb) (fun k hk => Nat.lt_of_lt_of_le (h4 k hk).2.2.2 hb.size) hl hm (h3.below hb) hlc hmc (hrc.below hb) hst hq)
  have HS := hid h1
  have HR := hid h3
  have H4 := hid h4
  have H5 := hid h5
  have H6 := hid h6
  have HF := hid hF
  have HC := hid hc
  have hq0 := hst
  have hsb := h1.lt
  clear h1 h2 h3 h4 h5 h6 hF hl hm hlc hmc hrc hst hq hc
  generalize commR j s rows H l = r at *
  go_enter Tryz.func47, Tryz.ntmps47
  go_wp2_with fail
  refine hnow.mono ?_
  rintro e w1 ⟨rfl, hb1⟩
  have B1 := hid hb1
  have hb2 := (Below.refl w1.heap.size w1).alloc (Nat.le_refl _) (.cells #[.pointer (some ⟨jb, 0, none⟩), .slice A n c] 85)
  have B2 := hid (below_chain hb1 hb2)
  clear hb1 hb2
  go_wp2_with fail
  generalize w1.alloc (.cells #[.pointer (some ⟨jb, 0, none⟩), .slice A n c] 85) = w2 at *
  refine (HWI.out w2 B2.out).mono ?_
  rintro e w3 ⟨ev, v3, hA, hn, hcc, hj, FJ', rfl, he, ho, hFJ', ht, hok, hj1⟩
  have hev := he.one
  have E3 := hid he
  have O3 := hid ho
  have F3 := hid hFJ'
  have T3 := hid ht
  have K3 := hid hok
  have hs2 := B2.out.size
  have hs3 := T3.out.size
  have hnsb : ¬ grownF FJ w2 sb := fun h => by
    rcases h with h | h
    · exact (H4.out sb h).2.2.1 rfl
    · omega
  have ks := (HS.out.below B2.out HS.out.lt).turn ht hnsb
  have S3 := hid ks
  clear he ho hFJ' ht hok hnow ks
  have hr0 := HC.out
  have hev0 : ev = .nilIface := by rcases E3.out with ⟨_, h⟩ | ⟨h, _⟩ <;> first | exact h | exact absurd hr0 h
  subst hev0
  obtain ⟨rfl, hrows, -⟩ : hj = some ⟨jb, 0, none⟩ ∧ LsV rowE w3 (fun k => w2.heap.size ≤ k ∧ ¬ FJ' k) (.slice hA hn hcc) r.rows ∧ True := ⟨(K3.out hr0).1, (K3.out hr0).2, trivial⟩
  have N3 := hid (hrows.mono (G := fun k => w2.heap.size ≤ k ∧ ¬ FJ' k ∧ k < w3.heap.size) fun k hk h => ⟨h.1, h.2, hk⟩)
  have hb4 := (Below.refl w3.heap.size w3).alloc (Nat.le_refl _) (.cells #[.pointer (some ⟨jb, 0, none⟩), .slice hA hn hcc] 85)
  have k4 := S3.out.below hb4 S3.out.lt
  have f1 := k4.frozen 1
  have f2 := k4.frozen 2
  have f3 := k4.frozen 3
  have c1 := k4.cell 1 rfl
  have c2 := k4.cell 2 rfl
  have c3 := k4.cell 3 rfl
  have B4 := hid hb4
  have K4 := hid k4
  clear hrows hb4 k4
  go_wp2_with fail
  generalize w3.alloc (.cells #[.pointer (some ⟨jb, 0, none⟩), .slice hA hn hcc] 85) = w4 at *
  have k5 := ((K4.out.set 1 (.pointer (some ⟨jb, 0, none⟩))).set 2 (.slice hA hn hcc)).set 3 (.bool false)
  have t5 := ((Turn.setAt w4 sb 1 (.pointer (some ⟨jb, 0, none⟩))).trans (Turn.setAt _ sb 2 (.slice hA hn hcc)) fun _ _ h => h).trans (Turn.setAt _ sb 3 (.bool false)) fun _ _ h => h
  go_ret
  have hs4 := B4.out.size
  have hFw : ∀ k, grownF FJ w2 k → F k := fun k hk => by
    rcases hk with hk | hk
    · exact (H4.out k hk).1
    · exact HF.out k (by omega)
  have hnb : ∀ k, FJ' k → ¬ k = sb := fun k hk e => hnsb (e ▸ F3.out k hk)
  refine ⟨_, rfl, .inl ⟨hr0, rfl⟩,
    ((((Turn.of_below B2.out F).trans (T3.out.mono fun k _ hk => hFw k hk) fun _ _ h => h).trans (Turn.of_below B4.out F) fun _ _ h => h).trans (t5.mono fun k _ e => e ▸ H6.out) fun _ _ h => h),
    jb, v3, hA, hn, hcc, fun k => FJ' k ∧ k < w4.heap.size, fun k => w2.heap.size ≤ k ∧ ¬ FJ' k ∧ k < w3.heap.size, ?_, ((O3.out.below B4.out).turn t5 hnb).mono fun k hk hh => ⟨hh, by simpa using hk⟩, (N3.out.below B4.out).turn t5 fun k hk e => by omega, fun k hk => ⟨hFw k (F3.out k hk.1), fun hr => hr.2.1 hk.1, hnb k hk.1, by simpa using hk.2⟩, fun k hk => ⟨HF.out k (by omega), by omega, by simp; omega⟩, H6.out⟩
  have e9 : decide (r.e = 9) = false := by rw [hr0]; rfl
  rw [e9]
  exact k5
theorem commit_v (K : K7) {w : World} {sb d : Nat} {u : Value} {j : JS} {s : DS} {H : Nat} {F G : Nat → Prop} {rows : List Rw} {l : List Ch} (h : OnS w sb d j s rows false H F) (hF : ∀ k, w.heap.size ≤ k → F k)
    (hl : rows.length ≤ 10000) (hm : mayP rows = true) (hlc : l.length ≤ 10000) (hmc : mayCP l = true) (hrc : LsV chgE w G u l)
    (hst : s.steps + 30000 < 4611686018427387904) (hq : s.q.length + 30000 < 1099511627776) :
    Calls Tryz.prog 47 #[.pointer (some ⟨sb, 0, none⟩), u] w fun e w' => CommitRet sb d (commR j s rows H l) H F w e w' := by
  by_cases hc : (commR j s rows H l).e = 0
  · exact commit_ok K h hF hl hm hlc hmc hrc hst hq hc
  · exact commit_err K h hF hl hm hlc hmc hrc hst hq hc
end Go.Proofs.YtfgbpinfplllgaaGreatDoor
