/- SWEPT -/
import Derived.Test.YtfgbpinfplllgaaGreatDoorZJourDK
import Derived.Test.YtfgbpinfplllgaaGreatDoorZStOpen
import Derived.Test.YtfgbpinfplllgaaGreatDoorZStTells
set_option linter.unusedVariables false
set_option linter.unusedSimpArgs false
namespace Go.Proofs.YtfgbpinfplllgaaGreatDoor
open Go.RowKit
set_option maxRecDepth 100000
structure LvS (s : DS) (j : JS) (rows : List Rw) (now : List (List UInt8)) (u i K : Nat) : Prop where
  quiet : Quiet s 32 K
  sj : SJ 32 s j now i
  used : j.used = u
  told : ToldP now rows
theorem LvS.frm {s : DS} {j : JS} {rows : List Rw} {now : List (List UInt8)} {u i K : Nat} (h : LvS s j rows now u i K) : j.frm ≤ 32 := by
  have := h.sj.tells.frm
  have hst : startT 32 (secondT s.laid 32) ≤ 32 := by unfold startT; split <;> omega
  omega
theorem LvS.next {s : DS} {j : JS} {rows : List Rw} {now : List (List UInt8)} {u i K : Nat} (h : LvS s j rows now u i K) : j.next ≤ 2 + 50 * i := by
  rw [h.sj.tells.next]
  exact h.sj.head.next
theorem lv_app {s : DS} {j : JS} {rows : List Rw} {now : List (List UInt8)} {u i K : Nat} (h : LvS s j rows now u i K) {l : List Ch} (hm : mayCP l = true) (hne : l ≠ []) (hfit : u + manyL (putFrom [] l) ≤ 32) (hl : (putFrom [] l).length ≤ 2000) (hi : i ≤ 100) :
    (comR j s rows 32 l).1.e = 0 ∧ (comR j s rows 32 l).2 = false ∧ (comR j s rows 32 l).1.rows = applyP rows l ∧ LvS (comR j s rows 32 l).1.s (comR j s rows 32 l).1.j (applyP rows l) (now ++ [putFrom [] l]) (u + manyL (putFrom [] l)) (i + 1) (K + manyL (putFrom [] l) + 1) := by
  have hn := h.next
  obtain ⟨q1, q2, q3⟩ := quiet_app (l := putFrom [] l) (j := j) h.quiet (by omega) (by rw [h.used]; exact hfit) h.frm (by omega)
  have hc : commR j s rows 32 l = ⟨appJ s j 32 (putFrom [] l), (appR s j 32 (putFrom [] l)).1, applyP rows l, 0⟩ := by
    unfold commR
    simp only
    rw [if_neg (by omega), if_pos q1, q1]
  have hR : comR j s rows 32 l = (⟨appJ s j 32 (putFrom [] l), (appR s j 32 (putFrom [] l)).1, applyP rows l, 0⟩, false) := by
    unfold comR
    rw [if_neg (by rw [h.quiet.light]; decide), if_pos hm, if_neg hne, hc]
    rfl
  rw [hR]
  refine ⟨rfl, rfl, rfl, q2, sj_append h.sj (by omega) (by omega) q1, ?_, h.told.app hm⟩
  show (appJ s j 32 (putFrom [] l)).used = _
  rw [q3]
  show j.used + _ = _
  rw [h.used]
theorem quiet_rep_full {s : DS} {H K : Nat} {j : JS} {l : List UInt8} (h : Quiet s H K) (hl : l.length ≤ 524288) (hu : H < manyL l) (hn : j.next + (manyL l : Int) - 1 ≤ 2147483648) : repR s j H l = (s, 10) ∧ repJ s j H l = j := by
  have hf := fits_full (N := j.next) (n := l.length) (m := (manyL l : Int)) (room := (H : Int)) hl hn (by omega)
  have hq := quiet_full h (N := j.next) (l := l) (at' := (H : Int) - (j.frm : Int)) (room := (H : Int)) (by rw [hf]; decide)
  have e : repR s j H l = (s, 10) := by unfold repR; rw [hq, hf]
  refine ⟨e, ?_⟩
  unfold repJ
  rw [e, if_neg (show ¬ (10 : Int) = 0 by decide)]
theorem lv_full {s : DS} {j : JS} {rows : List Rw} {now : List (List UInt8)} {u i K : Nat} (h : LvS s j rows now u i K) {l : List Ch} (hm : mayCP l = true) (hne : l ≠ []) (hfit : 32 < u + manyL (putFrom [] l)) (hl : (putFrom [] l).length ≤ 2000) (hi : i ≤ 100)
    (hfit2 : 32 < manyL (putFrom [] (betweenP [] (applyP rows l)))) (hl2 : (putFrom [] (betweenP [] (applyP rows l))).length ≤ 2000) :
    comR j s rows 32 l = (⟨j, s, rows, 10⟩, false) := by
  have hn := h.next
  have hm1 : manyL (putFrom [] l) ≤ 48 := by rw [many_is]; omega
  have hm2 : manyL (putFrom [] (betweenP [] (applyP rows l))) ≤ 48 := by rw [many_is]; omega
  obtain ⟨q1, q2⟩ := quiet_app_full (l := putFrom [] l) (j := j) h.quiet (by omega) (by rw [h.used]; exact hfit) (by omega)
  obtain ⟨q3, q4⟩ := quiet_rep_full (l := putFrom [] (betweenP [] (applyP rows l))) (j := j) h.quiet (by omega) hfit2 (by omega)
  have hc : commR j s rows 32 l = ⟨j, s, rows, 10⟩ := by
    unfold commR
    simp only
    rw [q1, q2, if_pos (.inl rfl), q3, q4, if_neg (show ¬ (10 : Int) = 0 by decide)]
  unfold comR
  rw [if_neg (by rw [h.quiet.light]; decide), if_pos hm, if_neg hne, hc]
  rfl
theorem lv_rep {s : DS} {j : JS} {rows : List Rw} {now : List (List UInt8)} {u i K : Nat} (h : LvS s j rows now u i K) {l : List Ch} (hm : mayCP l = true) (hne : l ≠ []) (hfit : 32 < u + manyL (putFrom [] l)) (hl : (putFrom [] l).length ≤ 2000) (hi : i ≤ 100)
    (hfit2 : manyL (putFrom [] (betweenP [] (applyP rows l))) ≤ 32) (hl2 : (putFrom [] (betweenP [] (applyP rows l))).length ≤ 2000) :
    (comR j s rows 32 l).1.e = 0 ∧ (comR j s rows 32 l).2 = false ∧ (comR j s rows 32 l).1.rows = applyP rows l ∧ LvS (comR j s rows 32 l).1.s (comR j s rows 32 l).1.j (applyP rows l) [putFrom [] (betweenP [] (applyP rows l))] (manyL (putFrom [] (betweenP [] (applyP rows l)))) (i + 1) (K + manyL (putFrom [] (betweenP [] (applyP rows l))) + 1) := by
  have hn := h.next
  have hm1 : manyL (putFrom [] l) ≤ 48 := by rw [many_is]; omega
  have hm2 : manyL (putFrom [] (betweenP [] (applyP rows l))) ≤ 48 := by rw [many_is]; omega
  obtain ⟨q1, q2⟩ := quiet_app_full (l := putFrom [] l) (j := j) h.quiet (by omega) (by rw [h.used]; exact hfit) (by omega)
  obtain ⟨q3, q4, q5⟩ := quiet_rep (l := putFrom [] (betweenP [] (applyP rows l))) (j := j) h.quiet (by omega) hfit2 h.frm (by omega)
  have hc : commR j s rows 32 l = ⟨repJ s j 32 (putFrom [] (betweenP [] (applyP rows l))), (repR s j 32 (putFrom [] (betweenP [] (applyP rows l)))).1, applyP rows l, 0⟩ := by
    unfold commR
    simp only
    rw [q1, q2, if_pos (.inl rfl), if_pos q3, q3]
  have hR : comR j s rows 32 l = (⟨repJ s j 32 (putFrom [] (betweenP [] (applyP rows l))), (repR s j 32 (putFrom [] (betweenP [] (applyP rows l)))).1, applyP rows l, 0⟩, false) := by
    unfold comR
    rw [if_neg (by rw [h.quiet.light]; decide), if_pos hm, if_neg hne, hc]
    rfl
  rw [hR]
  refine ⟨rfl, rfl, rfl, q4, sj_replace h.sj (by omega) (by omega) q3, ?_, told_rep (may_apply h.told.may hm)⟩
  show (repJ s j 32 (putFrom [] (betweenP [] (applyP rows l)))).used = _
  rw [q5]
  show 0 + _ = _
  omega
def lA : List Ch := [([97], [7], false)]
def lB (n : Nat) : List Ch := [([98], zs n, false)]
theorem put_one (k v : List UInt8) (hk : k ≠ [] ∧ k.length ≤ 16) (hv : v.length ≤ 8192) : (putFrom [] [(k, v, false)]).length = k.length + v.length + 4 := by
  have hs : sharedP [] k = 0 := by have := (shared_le [] k).1; simpa using this
  unfold putFrom putFrom
  rw [one_be2 (last := []) (x := (k, v, false)) (by simp [sizeC]; omega)]
  simp [hs]
  omega
theorem mayA : mayCP lA = true := by decide
theorem mayB {n : Nat} (h : n ≤ 8192) : mayCP (lB n) = true := by
  rw [mayC_iff]
  refine ⟨fun x hx => ?_, List.pairwise_singleton _ _⟩
  simp [lB] at hx
  subst hx
  exact ⟨⟨by simp, by simp, by simp [zs_len]; omega⟩, fun e => by cases e⟩
theorem lenA : (putFrom [] lA).length = 6 := by rw [show lA = [([97], [7], false)] from rfl, put_one _ _ (by decide) (by decide)]; rfl
theorem lenB {n : Nat} (h : n ≤ 8192) : (putFrom [] (lB n)).length = n + 5 := by
  rw [show lB n = [([98], zs n, false)] from rfl, put_one _ _ (by decide) (by rw [zs_len]; exact h), zs_len]
  simp
  omega
def rA : List Rw := [([97], [7])]
def rAB (n : Nat) : List Rw := [([97], [7]), ([98], zs n)]
theorem applyA : applyP [] lA = rA := by decide
theorem applyB (n : Nat) : applyP rA (lB n) = rAB n := rfl
theorem applyBB (m n : Nat) : applyP (rAB m) (lB n) = rAB n := rfl
theorem betwAB (n : Nat) : betweenP [] (rAB n) = [([97], [7], false), ([98], zs n, false)] := rfl
theorem lenAB {n : Nat} (h : n ≤ 8192) : (putFrom [] (betweenP [] (rAB n))).length = n + 11 := by
  rw [betwAB]
  have hs : sharedP [] [97] = 0 := by decide
  have hs2 : sharedP [97] [98] = 0 := by decide
  unfold putFrom putFrom putFrom
  rw [one_be2 (last := []) (x := ([97], [7], false)) (by decide), one_be2 (last := [97]) (x := ([98], zs n, false)) (by simp [sizeC, zs_len]; omega)]
  simp [hs, hs2, zs_len]
theorem open_facts {H i : Nat} {s : DS} {now : List (List UInt8)} {rows : List Rw} (h : Head H s now i) (ht : ToldP now rows) (hi : i ≤ 1000) :
    (openJ s H).first ≠ 0 ∧ (openJ s H).batches = now ∧ nextToV s s.blocks + 1 ≤ 2147483649 ∧ ∃ bs, decs now = some bs ∧ tellsP bs = rows := by
  obtain ⟨t1, t2, t3⟩ := open_tells h.light h.young h.blocks h.within
  have hn := h.next
  obtain ⟨bs, hb, rfl⟩ := ht
  exact ⟨fun e => t2.1 e h.there, t1.batches.trans h.batches, by rw [t3]; omega, bs, decs_ok.2 hb, rfl⟩
end Go.Proofs.YtfgbpinfplllgaaGreatDoor
