/- SWEPT -/
import Derived.Test.YtfgbpinfplllgaaGreatDoorZJourDK
set_option linter.unusedVariables false
set_option linter.unusedSimpArgs false
namespace Go.Proofs.YtfgbpinfplllgaaGreatDoor
open Go.RowKit
set_option maxRecDepth 100000
theorem append_all {ls : List (Option Lf)} {ps : List (List UInt8)} {N : Int} (hs : Small N ls) (hp : PartsOk ps) (hN : 0 < N) :
    (halfN (ls.take (halfN ls).2.1 ++ (newL N ps ++ (ls.drop (halfN ls).2.1).drop ps.length))) = ((halfN ls).1 ++ [ps.flatten], (halfN ls).2.1 + ps.length, N + ps.length - 1) := by
  obtain ⟨hk, hpre⟩ := counts_prefix (ls.length + 1) 0 ls
  have hend := counts_end (ls.length + 1) 0 ls N hs hN
  have hhalf : halfN ls = counts (ls.length + 1) 0 ls := rfl
  rw [← hhalf] at hk hpre hend
  generalize hr : newL N ps ++ (ls.drop (halfN ls).2.1).drop ps.length = r at *
  have hf := hpre ((ls.take (halfN ls).2.1 ++ r).length + 1) r
  have hful : halfN (ls.take (halfN ls).2.1 ++ r) = counts ((halfN ls).1.length + ((ls.take (halfN ls).2.1 ++ r).length + 1)) 0 (ls.take (halfN ls).2.1 ++ r) := counts_fuel _ _ _ _ (by omega) (by omega)
  have hc : counts ((ls.take (halfN ls).2.1 ++ r).length + 1) (halfN ls).2.2 r = ([ps.flatten], ps.length, N + ps.length - 1) := by
    rw [← hr]
    exact new_counts hp ((hs.drop _).drop _) hend.1 hend.2 _
  rw [hful, hf, hc]
theorem parts_some {ps : List (List UInt8)} (h : PartsOk ps) : ps ≠ [] := h.1
theorem tells_append {f : Tab} {H : Nat} {N : Int} {ps : List (List UInt8)} (h : LayOk f H N ps) (q : List (Int × Blk)) (hroom : usedT f H + ps.length ≤ H) (hc : Consec (startT H (secondT f H) + usedT f H) q) (hq : q.map (·.2) = newBlks N ps) :
    usedT (lay q f) H = usedT f H + ps.length ∧ secondT (lay q f) H = secondT f H ∧ nextT (lay q f) (2 * H) = N + ps.length := by
  have hql : q.length = ps.length := by have := congrArg List.length hq; rwa [List.length_map, newBlks_len] at this
  have hnew := lay_new ps N (startT H (secondT f H) + usedT f H) (H - usedT f H) q f (by omega) hc hq h.pos h.top h.cut
  have hut := under_lay ps N q f (by rw [hq]; exact List.prefix_refl _) h.under h.pos h.top h.cut
  have hst : 0 ≤ startT H (secondT f H) ∧ startT H (secondT f H) ≤ H := by unfold startT; split <;> omega
  have hnx := next_laid (D := 2 * H) hut h.pos (parts_some h.parts) (show 0 ≤ startT H (secondT f H) + usedT f H by omega) (show startT H (secondT f H) + usedT f H + ((H - usedT f H : Nat) : Int) ≤ ((2 * H : Nat) : Int) by omega) hnew
  have hover : Over ((rmap (startT H (secondT f H) + usedT f H) (H - usedT f H) fun p => leafOf (tell f p))) (newL N ps) (rmap (startT H (secondT f H) + usedT f H) (H - usedT f H) fun p => leafOf (tell (lay q f) p)) := by
    rw [hnew]
    have := over_all (newL N ps) (rmap (startT H (secondT f H) + usedT f H) (H - usedT f H) fun p => leafOf (tell f p)) (by rw [newL_len, rmap_len]; omega)
    rwa [newL_len] at this
  have hout := fun p hp => lay_out q (startT H (secondT f H) + usedT f H) p f hc hp
  generalize lay q f = g at *
  have hd : (lvs f H (secondT f H)).drop (usedT f H) = rmap (startT H (secondT f H) + usedT f H) (H - usedT f H) fun p => leafOf (tell f p) := rmap_drop _ _ _ _ (by omega)
  rw [← hd] at hover hnew
  have hfrom := lvs_from (f := f) (g := g) (s := secondT f H) (k := usedT f H) (by omega) (fun p h1 h2 => hout p (.inl h2))
  have ht : ThereN (lvs f H false) (lvs f H true) := h.there
  have key : ∀ b, secondT f H = b → (∀ p, startT H (!b) ≤ p → p < startT H (!b) + H → tell g p = tell f p) → secondT g H = b ∧ usedT g H = usedT f H + ps.length := by
    intro b hb hother
    have hoth : lvs g H (!b) = lvs f H (!b) := lvs_same hother
    have hu : usedT f H = (halfN (lvs f H b)).2.1 := by unfold usedT; rw [hb]
    rw [hb] at hover hfrom hnew
    rw [hu] at hover hfrom hnew
    have h2 := append_all (h.under.small (startT H b) H) h.parts h.pos
    have h2' : halfN (lvs g H b) = ((halfN (lvs f H b)).1 ++ [ps.flatten], (halfN (lvs f H b)).2.1 + ps.length, N + ps.length - 1) := by
      rw [hfrom]
      show halfN ((lvs f H b).take _ ++ _) = _
      rw [hnew]
      exact h2
    have hsec : secondT g H = b := by
      cases b with
      | false =>
        have h1 := append_first ht hb (h.under.small _ _) h.parts h.pos hover
        rw [← hfrom] at h1
        unfold secondT
        rw [show lvs g H true = lvs f H true from hoth]
        exact h1.2.1
      | true =>
        have h1 := append_second hb (h.under.small _ _) h.parts h.pos hover
        rw [← hfrom] at h1
        unfold secondT
        rw [show lvs g H false = lvs f H false from hoth]
        exact h1.2.1
    refine ⟨hsec, ?_⟩
    show (halfN (lvs g H (secondT g H))).2.1 = _
    rw [hsec, h2', hu]
  have := key _ rfl (fun p h1 h2 => hout p (by
    cases hb : secondT f H <;> rw [hb] at h1 h2 <;> simp [startT] at h1 h2 ⊢ <;> omega))
  exact ⟨this.2, this.1, hnx⟩
theorem tells_replace {f : Tab} {H : Nat} {N : Int} {ps : List (List UInt8)} (h : LayOk f H N ps) (q : List (Int × Blk)) (hroom : ps.length ≤ H) (hc : Consec (startT H (!secondT f H)) q) (hq : q.map (·.2) = newBlks N ps) :
    usedT (lay q f) H = ps.length ∧ secondT (lay q f) H = (!secondT f H) ∧ nextT (lay q f) (2 * H) = N + ps.length := by
  have hql : q.length = ps.length := by have := congrArg List.length hq; rwa [List.length_map, newBlks_len] at this
  have hnew := lay_new ps N (startT H (!secondT f H)) H q f hroom hc hq h.pos h.top h.cut
  have hut := under_lay ps N q f (by rw [hq]; exact List.prefix_refl _) h.under h.pos h.top h.cut
  have hst : 0 ≤ startT H (!secondT f H) ∧ startT H (!secondT f H) ≤ H := by unfold startT; split <;> omega
  have hnx := next_laid (D := 2 * H) hut h.pos (parts_some h.parts) hst.1 (show startT H (!secondT f H) + ((H : Nat) : Int) ≤ ((2 * H : Nat) : Int) by omega) hnew
  have hout := fun p hp => lay_out q (startT H (!secondT f H)) p f hc hp
  generalize lay q f = g at *
  have ht : ThereN (lvs f H false) (lvs f H true) := h.there
  have hcount : ∀ ls : List (Option Lf), Small N ls → halfN (newL N ps ++ ls.drop ps.length) = ([ps.flatten], ps.length, N + ps.length - 1) := fun ls hs => new_counts h.parts (hs.drop _) (Int.le_refl _) h.pos _
  cases hs : secondT f H with
  | false =>
    rw [hs] at hnew hout
    have hoth : lvs g H false = lvs f H false := lvs_same fun p h1 h2 => hout p (.inl (by simp [startT] at h2 ⊢; omega))
    have hd : lvs g H true = newL N ps ++ (lvs f H true).drop ps.length := hnew
    have hr := replace_done (ls := lvs f H true) (h.under.small _ _) h.parts h.pos
    have hcn := hcount (lvs f H true) (h.under.small _ _)
    rw [← hd] at hr hcn
    have hlt := begin_lt (h.under.small (startT H false) H) h.pos
    have hsec : secondT g H = true := by unfold secondT secondN; rw [hr.2, hoth]; exact decide_eq_true hlt
    refine ⟨?_, hsec, hnx⟩
    show (halfN (lvs g H (secondT g H))).2.1 = _
    rw [hsec, hcn]
  | true =>
    rw [hs] at hnew hout
    have hoth : lvs g H true = lvs f H true := lvs_same fun p h1 h2 => hout p (.inr (by simp [startT] at h1 ⊢; omega))
    have hd : lvs g H false = newL N ps ++ (lvs f H false).drop ps.length := hnew
    have hr := replace_done (ls := lvs f H false) (h.under.small _ _) h.parts h.pos
    have hcn := hcount (lvs f H false) (h.under.small _ _)
    rw [← hd] at hr hcn
    have hlt := begin_lt (h.under.small (startT H true) H) h.pos
    have hsec : secondT g H = false := by
      unfold secondT secondN
      rw [hr.2, hoth]
      have : beginN (lvs f H true) < N := hlt
      simp
      omega
    refine ⟨?_, hsec, hnx⟩
    show (halfN (lvs g H (secondT g H))).2.1 = _
    rw [hsec, hcn]
theorem wrs_young : ∀ (ls : List Blk) (s : DS) (n : Int), (wrs s n ls).2 = 0 → (wrs s n ls).1.young = none'
  | [], s, n, h => by
    unfold wrs at *
    simp only at *
    unfold flushE at h
    unfold flushS
    split at h
    · cases h
    · rename_i h1
      split at h
      · cases h
      · rename_i h2
        rw [if_neg h1, if_neg h2]
        rfl
  | l :: ls, s, n, h => by
    unfold wrs at *
    split
    · rename_i h1
      rw [if_pos h1] at h
      exact wrs_young ls _ _ h
    · rename_i h1
      rw [if_neg h1] at h
      exact absurd h h1
structure SJ (H : Nat) (s : DS) (j : JS) (now : List (List UInt8)) (i : Nat) : Prop where
  head : Head H s now i
  tells : Tells s H j
theorem head_done {H i : Nat} {s : DS} {now : List (List UInt8)} (h : Head H (crashed s []) now i) (h1 : s.dark = false) (h2 : s.q = []) (h3 : s.young = none') : Head H s now i := by
  have e : (crashed s []).laid = s.laid := by unfold crashed; rw [h2]; rfl
  obtain ⟨a1, a2, a3, a4, a5, a6, a7, a8, a9⟩ := h
  rw [e] at a5 a6 a7 a8
  exact ⟨h1, h2, h3, a4, a5, a6, a7, a8, a9⟩
theorem armed_self (s : DS) : armed s s.left = s := rfl
theorem sj_append {H i : Nat} {s : DS} {now : List (List UInt8)} {j : JS} (h : SJ H s j now i) {l : List UInt8} (hl : manyL l ≤ 50) (hi : i ≤ 1000) (hr : (appR s j H l).2 = 0) : SJ H (appR s j H l).1 (appJ s j H l) (now ++ [l]) (i + 1) := by
  obtain ⟨hh, ht⟩ := h
  have hps : (partsOf l).length = manyL l := rfl
  have hok := layR_ok (show (layR s j.next l ((j.frm : Int) + (j.used : Int)) ((H : Int) - (j.used : Int))).2 = 0 from hr)
  have hu := used_le s.laid H
  have hu2 : usedT s.laid H + (partsOf l).length ≤ H := by have := hok.2.2; rw [ht.used] at this; omega
  have hlay := hh.lay (parts_ok l) (parts_cut l) (show (partsOf l).length ≤ 50 by omega) hi
  have hst : 0 ≤ startT H (secondT s.laid H) ∧ startT H (secondT s.laid H) ≤ H := by unfold startT; split <;> omega
  have hJ : appJ s j H l = tookJ j l := by unfold appJ; rw [if_pos hr]
  have hR : appR s j H l = wrs s (startT H (secondT s.laid H) + usedT s.laid H) (newBlks (nextT s.laid (2 * H)) (partsOf l)) := by
    have hne : fitsE j.next l.length (manyL l) ((H : Int) - (j.used : Int)) = 0 := fits_ok hok.1 hok.2.1 hok.2.2
    unfold appR layR
    rw [if_neg (by rw [hh.light]; decide), if_neg (by rw [hne]; decide), ht.frm, ht.used, ht.next]
  rw [hJ]
  rw [hR] at hr ⊢
  have hap := head_append hh s.left (parts_ok l) (parts_cut l) (show (partsOf l).length ≤ 50 by omega) hi hu2 []
  rw [armed_self, parts_flatten] at hap
  have hran := lay_ran s (startT H (secondT s.laid H) + usedT s.laid H) (newBlks (nextT s.laid (2 * H)) (partsOf l)) hh.light hh.queue (by omega) (by rw [newBlks_len, hh.blocks]; omega)
  have hyo := wrs_young _ _ _ hr
  obtain ⟨_, now', hd, _, hn⟩ := hap
  obtain ⟨hb, hrn⟩ := hran
  rcases hrn with ⟨_, hdk, hq0, q, hc, hm, hlaid⟩ | ⟨h9, _⟩
  · obtain ⟨t1, t2, t3⟩ := tells_append hlay q hu2 hc hm
    rw [hn hr] at hd
    have hhd := head_done hd hdk hq0 hyo
    refine ⟨hhd, ⟨?_, ?_, ?_, ?_⟩⟩
    · show j.batches ++ [l] = _
      rw [ht.batches, hh.batches, hhd.batches]
    · show j.used + manyL l = _
      rw [hlaid, t1, ht.used, hps]
    · show (j.frm : Int) = _
      rw [hlaid, t2, ht.frm]
    · show j.next + (manyL l : Int) = _
      rw [hlaid, t3, ht.next, hps]
  · rw [h9] at hr; cases hr
theorem sj_replace {H i : Nat} {s : DS} {now : List (List UInt8)} {j : JS} (h : SJ H s j now i) {l : List UInt8} (hl : manyL l ≤ 50) (hi : i ≤ 1000) (hr : (repR s j H l).2 = 0) : SJ H (repR s j H l).1 (repJ s j H l) [l] (i + 1) := by
  obtain ⟨hh, ht⟩ := h
  have hps : (partsOf l).length = manyL l := rfl
  have hok := layR_ok (show (layR s j.next l ((H : Int) - (j.frm : Int)) (H : Int)).2 = 0 from hr)
  have hu2 : (partsOf l).length ≤ H := by have := hok.2.2; omega
  have hlay := hh.lay (parts_ok l) (parts_cut l) (show (partsOf l).length ≤ 50 by omega) hi
  have hst : 0 ≤ startT H (!secondT s.laid H) ∧ startT H (!secondT s.laid H) ≤ H := by unfold startT; split <;> omega
  have hother : (H : Int) - startT H (secondT s.laid H) = startT H (!secondT s.laid H) := by
    unfold startT
    cases secondT s.laid H <;> simp
  have hJ : repJ s j H l = tookJ ⟨H - j.frm, [], 0, 0, j.next⟩ l := by unfold repJ; rw [if_pos hr]
  have hR : repR s j H l = wrs s (startT H (!secondT s.laid H)) (newBlks (nextT s.laid (2 * H)) (partsOf l)) := by
    have hne : fitsE j.next l.length (manyL l) (H : Int) = 0 := fits_ok hok.1 hok.2.1 hok.2.2
    unfold repR layR
    rw [if_neg (by rw [hh.light]; decide), if_neg (by rw [hne]; decide), ht.frm, ht.next, hother]
  rw [hJ]
  rw [hR] at hr ⊢
  have hap := head_replace hh s.left (parts_ok l) (parts_cut l) (show (partsOf l).length ≤ 50 by omega) hi hu2 []
  rw [armed_self, parts_flatten] at hap
  have hran := lay_ran s (startT H (!secondT s.laid H)) (newBlks (nextT s.laid (2 * H)) (partsOf l)) hh.light hh.queue (by omega) (by rw [newBlks_len, hh.blocks]; omega)
  have hyo := wrs_young _ _ _ hr
  obtain ⟨_, now', hd, _, hn⟩ := hap
  obtain ⟨hb, hrn⟩ := hran
  rcases hrn with ⟨_, hdk, hq0, q, hc, hm, hlaid⟩ | ⟨h9, _⟩
  · obtain ⟨t1, t2, t3⟩ := tells_replace hlay q hu2 hc hm
    rw [hn hr] at hd
    have hhd := head_done hd hdk hq0 hyo
    have hfrm : ((H - j.frm : Nat) : Int) = startT H (!secondT s.laid H) := by
      rw [← hother, ← ht.frm]
      have := ht.frm
      have hs1 : startT H (secondT s.laid H) ≤ H := by unfold startT; split <;> omega
      omega
    refine ⟨hhd, ⟨?_, ?_, ?_, ?_⟩⟩
    · show [] ++ [l] = _
      rw [hhd.batches]; rfl
    · show 0 + manyL l = _
      rw [hlaid, t1, hps]; omega
    · show ((H - j.frm : Nat) : Int) = _
      rw [hlaid, t2]; exact hfrm
    · show j.next + (manyL l : Int) = _
      rw [hlaid, t3, ht.next, hps]
  · rw [h9] at hr; cases hr
end Go.Proofs.YtfgbpinfplllgaaGreatDoor
