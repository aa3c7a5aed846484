/- SWEPT -/
import Derived.Test.YtfgbpinfplllgaaGreatDoorZJourCutsP
import Derived.Test.YtfgbpinfplllgaaGreatDoorZStCommit
import Derived.Test.YtfgbpinfplllgaaGreatDoorZStTells
set_option linter.unusedVariables false
set_option linter.unusedSimpArgs false
namespace Go.Proofs.YtfgbpinfplllgaaGreatDoor
open Go.RowKit Go.Shelf
set_option maxRecDepth 100000
def ToldN (bts : List (List UInt8)) (rows : List Rw) (n : Nat) : Prop := ∃ bs : List (List Ch), bts.map getC = bs.map Except.ok ∧ rows = tellsP bs ∧ bs.flatten.length ≤ n
theorem ToldN.told {bts : List (List UInt8)} {rows : List Rw} {n : Nat} (h : ToldN bts rows n) : ToldP bts rows := by
  obtain ⟨bs, h1, h2, _⟩ := h
  exact ⟨bs, h1, h2⟩
theorem fold_len : ∀ (bs : List (List Ch)) (t : List Rw), (bs.foldl applyP t).length ≤ t.length + bs.flatten.length
  | [], t => by simp
  | l :: bs, t => by
    have h1 := fold_len bs (applyP t l)
    have h2 := stApply_len l t
    rw [List.foldl_cons, List.flatten_cons, List.length_append]
    omega
theorem ToldN.len {bts : List (List UInt8)} {rows : List Rw} {n : Nat} (h : ToldN bts rows n) : rows.length ≤ n := by
  obtain ⟨bs, -, rfl, h⟩ := h
  have := fold_len bs []
  unfold tellsP
  simp only [List.length_nil] at this
  omega
theorem ToldN.mono {bts : List (List UInt8)} {rows : List Rw} {n m : Nat} (h : ToldN bts rows n) (hm : n ≤ m) : ToldN bts rows m := by
  obtain ⟨bs, h1, h2, h3⟩ := h
  exact ⟨bs, h1, h2, Nat.le_trans h3 hm⟩
theorem ToldN.app {bts : List (List UInt8)} {rows : List Rw} {n : Nat} (h : ToldN bts rows n) {l : List Ch} (hl : mayCP l = true) : ToldN (bts ++ [putFrom [] l]) (applyP rows l) (n + l.length) := by
  obtain ⟨bs, h1, rfl, h3⟩ := h
  refine ⟨bs ++ [l], by rw [List.map_append, List.map_append, h1]; simp [get_put hl], ?_, by rw [List.flatten_append, List.length_append]; simpa using h3⟩
  unfold tellsP
  rw [List.foldl_append]
  rfl
theorem toldN_rep {rows : List Rw} {n : Nat} (h : mayP rows = true) (hn : rows.length ≤ n) : ToldN [putFrom [] (betweenP [] rows)] rows n :=
  ⟨[betweenP [] rows], by simp [get_put (may_between may_nil h)], (apply_between may_nil h).symm, by
    have := between_len rows h
    simpa using Nat.le_trans this hn⟩
theorem app_cut {H i : Nat} {s : DS} {now : List (List UInt8)} {j : JS} (h : Head H s now i) (ht : Tells s H j) (n : Nat) (l : List UInt8) (hH : H ≤ 47) (hi : i ≤ 100) :
    (appR (armed s n) j H l = (armed s n, 10) ∨ appR (armed s n) j H l = (armed s n, 3)) ∨ (l.length ≤ 2000 ∧ ((appR (armed s n) j H l).2 = 0 ∨ (appR (armed s n) j H l).2 = 9) ∧ (appR (armed s n) j H l).1.q.length ≤ 50 ∧ ∀ picks, ∃ now', Head H (crashed (appR (armed s n) j H l).1 picks) now' (i + 1) ∧ (now' = now ∨ now' = now ++ [l]) ∧ ((appR (armed s n) j H l).2 = 0 → now' = now ++ [l])) := by
  by_cases hl : l.length ≤ 2000
  · rcases cut_append h ht n hl hi with h1 | h1
    · exact .inl (.inl h1)
    · exact .inr ⟨hl, h1⟩
  · left
    have hn := h.next
    have hm := many_is l
    unfold appR layR
    rw [if_neg (by rw [show (armed s n).dark = s.dark from rfl, h.light]; decide), ht.used, ht.next]
    unfold fitsE
    by_cases h1 : 524288 < l.length
    · rw [if_pos h1, if_pos (by decide)]
      exact .inr rfl
    · rw [if_neg h1, if_neg (show ¬ 2147483648 < nextT s.laid (2 * H) + (manyL l : Int) - 1 by omega), if_pos (show (H : Int) - (usedT s.laid H : Int) < (manyL l : Int) by omega), if_pos (by decide)]
      exact .inl rfl
theorem rep_cut {H i : Nat} {s : DS} {now : List (List UInt8)} {j : JS} (h : Head H s now i) (ht : Tells s H j) (n : Nat) (l : List UInt8) (hH : H ≤ 47) (hi : i ≤ 100) :
    (repR (armed s n) j H l = (armed s n, 10) ∨ repR (armed s n) j H l = (armed s n, 3)) ∨ (l.length ≤ 2000 ∧ ((repR (armed s n) j H l).2 = 0 ∨ (repR (armed s n) j H l).2 = 9) ∧ (repR (armed s n) j H l).1.q.length ≤ 50 ∧ ∀ picks, ∃ now', Head H (crashed (repR (armed s n) j H l).1 picks) now' (i + 1) ∧ (now' = now ∨ now' = [l]) ∧ ((repR (armed s n) j H l).2 = 0 → now' = [l])) := by
  have hn := h.next
  have hm := many_is l
  have hps : (partsOf l).length = manyL l := rfl
  unfold repR layR
  rw [if_neg (by rw [show (armed s n).dark = s.dark from rfl, h.light]; decide), ht.frm, ht.next]
  unfold fitsE
  by_cases h1 : 524288 < l.length
  · rw [if_pos h1, if_pos (by decide)]
    exact .inl (.inr rfl)
  rw [if_neg h1, if_neg (show ¬ 2147483648 < nextT s.laid (2 * H) + (manyL l : Int) - 1 by omega)]
  by_cases h2 : (H : Int) < (manyL l : Int)
  · rw [if_pos h2, if_pos (by decide)]
    exact .inl (.inl rfl)
  rw [if_neg h2, if_neg (by decide)]
  right
  have hother : (H : Int) - startT H (secondT s.laid H) = startT H (!secondT s.laid H) := by
    unfold startT
    cases secondT s.laid H <;> simp
  rw [hother]
  have hst : 0 ≤ startT H (!secondT s.laid H) ∧ startT H (!secondT s.laid H) ≤ H := by unfold startT; split <;> omega
  have hran := lay_ran (armed s n) (startT H (!secondT s.laid H)) (newBlks (nextT s.laid (2 * H)) (partsOf l)) h.light h.queue (by omega) (by rw [newBlks_len]; show _ ≤ (s.blocks : Int); rw [h.blocks]; omega)
  have hq := wrs_qlen hran
  rw [newBlks_len] at hq
  have hap := fun picks => head_replace h n (parts_ok l) (parts_cut l) (show (partsOf l).length ≤ 50 by omega) (show i ≤ 1000 by omega) (show (partsOf l).length ≤ H by omega) picks
  rw [parts_flatten] at hap
  exact ⟨by omega, (hap []).1, by omega, fun picks => (hap picks).2⟩
theorem appJ_err {s : DS} {j : JS} {H : Nat} {l : List UInt8} (h : (appR s j H l).2 ≠ 0) : appJ s j H l = j := by unfold appJ; rw [if_neg h]
theorem repJ_err {s : DS} {j : JS} {H : Nat} {l : List UInt8} (h : (repR s j H l).2 ≠ 0) : repJ s j H l = j := by unfold repJ; rw [if_neg h]
def CutS (H i N : Nat) (s0 : DS) (j : JS) (rows next : List Rw) (now : List (List UInt8)) (r : SR) : Prop :=
  ((r.e = 10 ∨ r.e = 3) ∧ r.s = s0 ∧ r.j = j ∧ r.rows = rows) ∨
  ((r.e = 0 ∨ r.e = 9) ∧ r.s.q.length ≤ 50 ∧ (r.e = 0 → r.rows = next) ∧ ∀ picks, ∃ now' rows', Head H (crashed r.s picks) now' (i + 1) ∧ ToldN now' rows' N ∧ (∀ b ∈ now', b.length ≤ 2000) ∧ (rows' = rows ∨ rows' = next) ∧ (r.e = 0 → rows' = next))
theorem commR_cut {H i N : Nat} {s : DS} {now : List (List UInt8)} {j : JS} {rows : List Rw} {l : List Ch} (h : Head H s now i) (ht : Tells s H j) (n : Nat) (hm : mayCP l = true) (htd : ToldN now rows N) (hsh : ∀ b ∈ now, b.length ≤ 2000) (hl : l.length ≤ 12) (hH : H ≤ 47) (hi : i ≤ 100) :
    CutS H i (N + 12) (armed s n) j rows (applyP rows l) now (commR j (armed s n) rows H l) := by
  have hmr := htd.told.may
  have hma := may_apply hmr hm
  have hN := htd.len
  have hal := stApply_len l rows
  have t1 := (htd.app hm).mono (show N + l.length ≤ N + 12 by omega)
  have t2 := toldN_rep hma (show (applyP rows l).length ≤ N + 12 by omega)
  have t0 := htd.mono (show N ≤ N + 12 by omega)
  unfold commR
  simp only
  rcases app_cut h ht n (putFrom [] l) hH hi with h1 | ⟨hpl, h1, h2, h3⟩
  · have h10 : (appR (armed s n) j H (putFrom [] l)).2 = 10 ∨ (appR (armed s n) j H (putFrom [] l)).2 = 3 := h1.imp (fun h => by rw [h]) fun h => by rw [h]
    have hs : (appR (armed s n) j H (putFrom [] l)).1 = armed s n := by rcases h1 with h | h <;> rw [h]
    have hj : appJ (armed s n) j H (putFrom [] l) = j := appJ_err (by rcases h10 with h | h <;> rw [h] <;> decide)
    rw [if_pos h10, hs, hj]
    rcases rep_cut h ht n (putFrom [] (betweenP [] (applyP rows l))) hH hi with k1 | ⟨kpl, k1, k2, k3⟩
    · have k10 : (repR (armed s n) j H (putFrom [] (betweenP [] (applyP rows l)))).2 = 10 ∨ (repR (armed s n) j H (putFrom [] (betweenP [] (applyP rows l)))).2 = 3 := k1.imp (fun h => by rw [h]) fun h => by rw [h]
      have ks : (repR (armed s n) j H (putFrom [] (betweenP [] (applyP rows l)))).1 = armed s n := by rcases k1 with h | h <;> rw [h]
      have k0 : (repR (armed s n) j H (putFrom [] (betweenP [] (applyP rows l)))).2 ≠ 0 := by rcases k10 with h | h <;> rw [h] <;> decide
      exact .inl ⟨k10, ks, repJ_err k0, if_neg k0⟩
    · refine .inr ⟨k1, k2, fun h => if_pos h, fun picks => ?_⟩
      obtain ⟨now', a, b, c⟩ := k3 picks
      rcases b with rfl | rfl
      · refine ⟨_, rows, a, t0, hsh, .inl rfl, fun e => ?_⟩
        have e1 := c e
        rw [e1] at htd
        exact htd.told.uniq t2.told
      · exact ⟨_, _, a, t2, fun b hb => by rw [List.mem_singleton] at hb; subst hb; exact kpl, .inr rfl, fun _ => rfl⟩
  · have h10 : ¬ ((appR (armed s n) j H (putFrom [] l)).2 = 10 ∨ (appR (armed s n) j H (putFrom [] l)).2 = 3) := by rcases h1 with h | h <;> rw [h] <;> decide
    rw [if_neg h10]
    refine .inr ⟨h1, h2, fun h => if_pos h, fun picks => ?_⟩
    obtain ⟨now', a, b, c⟩ := h3 picks
    rcases b with rfl | rfl
    · refine ⟨_, rows, a, t0, hsh, .inl rfl, fun e => ?_⟩
      have e1 := c e
      have := congrArg List.length e1
      simp at this
    · exact ⟨_, _, a, t1, fun b hb => by
        rcases List.mem_append.1 hb with hb | hb
        · exact hsh b hb
        · rw [List.mem_singleton] at hb; subst hb; exact hpl, .inr rfl, fun _ => rfl⟩
theorem head_crash {H i : Nat} {s : DS} {now : List (List UInt8)} (h : Head H s now i) (picks : List Int) : Head H (crashed s picks) now i := by
  have e : (crashed s picks).laid = s.laid := by unfold crashed; rw [h.queue]; rfl
  obtain ⟨a1, a2, a3, a4, a5, a6, a7, a8, a9⟩ := h
  refine ⟨rfl, rfl, rfl, a4, ?_, ?_, ?_, ?_, a9⟩
  · rw [e]; exact a5
  · rw [e]; exact a6
  · rw [e]; exact a7
  · rw [e]; exact a8
theorem comR_cut {H i N : Nat} {s : DS} {now : List (List UInt8)} {j : JS} {rows : List Rw} {l : List Ch} (h : Head H s now i) (ht : Tells s H j) (n : Nat) (hm : mayCP l = true) (htd : ToldN now rows N) (hsh : ∀ b ∈ now, b.length ≤ 2000) (hl : l.length ≤ 12) (hH : H ≤ 47) (hi : i ≤ 100) :
    CutS H i (N + 12) (armed s n) j rows (applyP rows l) now (comR j (armed s n) rows H l).1 ∧ ((comR j (armed s n) rows H l).1.e = 10 → (comR j (armed s n) rows H l).2 = false) ∧ (comR j (armed s n) rows H l).1.e ≠ 3 := by
  unfold comR
  rw [if_neg (by rw [show (armed s n).dark = s.dark from rfl, h.light]; decide), if_pos hm]
  by_cases h0 : l = []
  · subst h0
    rw [if_pos rfl]
    refine ⟨.inr ⟨.inl rfl, by show s.q.length ≤ 50; rw [h.queue]; decide, fun _ => rfl, fun picks => ⟨now, rows, (head_crash h.arm picks).up, htd.mono (by omega), hsh, .inl rfl, fun _ => rfl⟩⟩, fun h => absurd h (show ¬ (0 : Int) = 10 by decide), show (0 : Int) ≠ 3 by decide⟩
  · rw [if_neg h0]
    have hc := commR_cut h ht n hm htd hsh hl hH hi
    generalize commR j (armed s n) rows H l = r at *
    rcases hc with ⟨h1, h2, h3, h4⟩ | ⟨h1, h2, h3, h4⟩
    · rw [if_pos h1]
      exact ⟨.inl ⟨.inl rfl, h2, h3, h4⟩, fun _ => (by show decide (r.e = 9) = false; rcases h1 with h | h <;> rw [h] <;> rfl), show (10 : Int) ≠ 3 by decide⟩
    · rw [if_neg (by rcases h1 with h | h <;> rw [h] <;> decide)]
      exact ⟨.inr ⟨h1, h2, h3, h4⟩, fun (e : r.e = 10) => (by rcases h1 with h | h <;> rw [h] at e <;> cases e), show r.e ≠ 3 by rcases h1 with h | h <;> rw [h] <;> decide⟩
end Go.Proofs.YtfgbpinfplllgaaGreatDoor
