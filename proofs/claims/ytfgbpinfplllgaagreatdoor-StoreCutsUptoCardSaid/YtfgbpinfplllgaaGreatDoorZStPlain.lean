/- SWEPT -/
import Derived.Test.YtfgbpinfplllgaaGreatDoorZTblK
set_option linter.unusedVariables false
set_option linter.unusedSimpArgs false
namespace Go.Proofs.YtfgbpinfplllgaaGreatDoor
open Go.RowKit
set_option maxRecDepth 100000
def lastCh (cs : List Ch) (k : Key) : Option Ch := cs.reverse.find? fun c => c.1 == k
theorem lastOf_nil (k : Key) : lastCh [] k = none := rfl
theorem lastOf_append (cs l : List Ch) (k : Key) : lastCh (cs ++ l) k = (lastCh l k).or (lastCh cs k) := by
  unfold lastCh
  rw [List.reverse_append, List.find?_append]
theorem lastOf_one (c : Ch) (k : Key) : lastCh [c] k = if c.1 = k then some c else none := by
  unfold lastCh
  by_cases h : c.1 = k <;> simp [List.find?_cons, h]
theorem lastOf_snoc (cs : List Ch) (c : Ch) (k : Key) : lastCh (cs ++ [c]) k = if c.1 = k then some c else lastCh cs k := by
  rw [lastOf_append, lastOf_one]
  by_cases h : c.1 = k <;> simp [h]
theorem lastOf_mem {cs : List Ch} {k : Key} {c : Ch} (h : lastCh cs k = some c) : c ∈ cs ∧ c.1 = k := by
  unfold lastCh at h
  exact ⟨List.mem_reverse.1 (List.mem_of_find?_eq_some h), by simpa using List.find?_some h⟩
theorem lastOf_none {cs : List Ch} {k : Key} (h : lastCh cs k = none) : ∀ c ∈ cs, c.1 ≠ k := by
  unfold lastCh at h
  rw [List.find?_eq_none] at h
  exact fun c hc e => h c (List.mem_reverse.2 hc) (by simp [e])
theorem lastOf_has {cs : List Ch} {c : Ch} (h : c ∈ cs) : ∃ d, lastCh cs c.1 = some d := by
  cases h' : lastCh cs c.1 with
  | some d => exact ⟨d, rfl⟩
  | none => exact absurd rfl (lastOf_none h' c h)
def effC (c : Ch) : Option (List UInt8) := if c.2.2 then none else some c.2.1
theorem look_last {l : List Ch} (h : SortC l) (k : Key) : lookC l k = (lastCh l k).map effC := by
  cases h' : lastCh l k with
  | none => exact lookC_none (lastOf_none h')
  | some c =>
    obtain ⟨hm, rfl⟩ := lastOf_mem h'
    exact lookC_mem h hm
def tellsP (bs : List (List Ch)) : List Rw := bs.foldl applyP []
theorem look_fold : ∀ (bs : List (List Ch)) (t : List Rw) (k : Key), (∀ l ∈ bs, SortC l) → lookR (bs.foldl applyP t) k = ((lastCh bs.flatten k).map effC).getD (lookR t k)
  | [], t, k, _ => by rw [List.flatten_nil, lastOf_nil]; rfl
  | l :: bs, t, k, h => by
    rw [List.foldl_cons, look_fold bs _ k fun x hx => h x (List.mem_cons_of_mem _ hx), List.flatten_cons, lastOf_append, look_apply l t k (h l List.mem_cons_self), look_last (h l List.mem_cons_self)]
    cases lastCh bs.flatten k <;> cases lastCh l k <;> rfl
theorem sort_fold : ∀ (bs : List (List Ch)) (t : List Rw), SortR t → SortR (bs.foldl applyP t)
  | [], t, h => h
  | l :: bs, t, h => sort_fold bs _ (sort_apply l h)
theorem may_fold : ∀ (bs : List (List Ch)) (t : List Rw), mayP t = true → (∀ l ∈ bs, mayCP l = true) → mayP (bs.foldl applyP t) = true
  | [], t, h, _ => h
  | l :: bs, t, h, hb => may_fold bs _ (may_apply h (hb l List.mem_cons_self)) fun x hx => hb x (List.mem_cons_of_mem _ hx)
theorem may_nil : mayP [] = true := rfl
theorem may_tells {bs : List (List Ch)} (h : ∀ l ∈ bs, mayCP l = true) : mayP (tellsP bs) = true := may_fold bs [] may_nil h
theorem table_of {bs : List (List Ch)} {L : List Ch} (hb : ∀ l ∈ bs, mayCP l = true) (hL : SortC L) (hm : ∀ c, c ∈ L ↔ lastCh bs.flatten c.1 = some c) : mayCP L = true ∧ applyP [] L = tellsP bs := by
  refine ⟨(mayC_iff L).2 ⟨fun c hc => ?_, hL⟩, ?_⟩
  · obtain ⟨l, hl, hcl⟩ := List.mem_flatten.1 (lastOf_mem ((hm c).1 hc)).1
    exact ((mayC_iff l).1 (hb l hl)).1 c hcl
  · have hsb : ∀ l ∈ bs, SortC l := fun l hl => ((mayC_iff l).1 (hb l hl)).2
    refine table_ext _ _ (sort_apply L List.Pairwise.nil) (sort_fold bs [] List.Pairwise.nil) fun k => ?_
    unfold tellsP
    rw [look_fold bs [] k hsb, look_apply L [] k hL, look_last hL]
    have e : lastCh L k = lastCh bs.flatten k := by
      cases h1 : lastCh bs.flatten k with
      | some c =>
        obtain ⟨_, rfl⟩ := lastOf_mem h1
        obtain ⟨d, hd⟩ := lastOf_has ((hm c).2 h1)
        have := (hm d).1 (lastOf_mem hd).1
        rw [(lastOf_mem hd).2, h1] at this
        rw [hd]
        exact this.symm
      | none =>
        cases h2 : lastCh L k with
        | none => rfl
        | some d =>
          have := (hm d).1 (lastOf_mem h2).1
          rw [(lastOf_mem h2).2, h1] at this
          cases this
    rw [e]
def ToldP (bts : List (List UInt8)) (rows : List Rw) : Prop := ∃ bs : List (List Ch), bts.map getC = bs.map Except.ok ∧ rows = tellsP bs
theorem told_ok {bts : List (List UInt8)} {bs : List (List Ch)} (h : bts.map getC = bs.map Except.ok) : ∀ l ∈ bs, mayCP l = true := fun l hl => by
  have : Except.ok l ∈ bts.map getC := by rw [h]; exact List.mem_map.2 ⟨l, hl, rfl⟩
  obtain ⟨b, _, hb⟩ := List.mem_map.1 this
  exact (get_back hb).1
theorem ToldP.may {bts : List (List UInt8)} {rows : List Rw} (h : ToldP bts rows) : mayP rows = true := by
  obtain ⟨bs, h1, rfl⟩ := h
  exact may_tells (told_ok h1)
theorem ToldP.uniq {bts : List (List UInt8)} {r r' : List Rw} (h : ToldP bts r) (k : ToldP bts r') : r = r' := by
  obtain ⟨bs, h1, rfl⟩ := h
  obtain ⟨cs, h2, rfl⟩ := k
  have e : bs.map (Except.ok (ε := Int)) = cs.map Except.ok := h1.symm.trans h2
  have : bs = cs := (List.map_inj_right fun x y h => by cases h; rfl).1 e
  rw [this]
theorem told_first : ToldP [[]] [] := ⟨[[]], rfl, rfl⟩
theorem ToldP.app {bts : List (List UInt8)} {rows : List Rw} (h : ToldP bts rows) {l : List Ch} (hl : mayCP l = true) : ToldP (bts ++ [putFrom [] l]) (applyP rows l) := by
  obtain ⟨bs, h1, rfl⟩ := h
  refine ⟨bs ++ [l], by rw [List.map_append, List.map_append, h1]; simp [get_put hl], ?_⟩
  unfold tellsP
  rw [List.foldl_append]
  rfl
theorem told_rep {rows : List Rw} (h : mayP rows = true) : ToldP [putFrom [] (betweenP [] rows)] rows :=
  ⟨[betweenP [] rows], by simp [get_put (may_between may_nil h)], (apply_between may_nil h).symm⟩
theorem stStep_len (t : List Rw) (c : Ch) : (stepP t c).length ≤ t.length + 1 := by
  have hw : (withoutP t c.1).length ≤ t.length := List.length_filter_le _ _
  unfold stepP
  split
  · omega
  · have : ∀ (u : List Rw) (x : Rw), (withP u x).length = u.length + 1 := fun u x => by
      unfold withP
      rw [List.length_append, List.length_cons]
      have h1 : (u.filter fun y => lessK y.1 x.1).length + (u.filter fun y => !lessK y.1 x.1).length = u.length := by
        induction u with
        | nil => rfl
        | cons y u ih =>
          rw [List.filter_cons, List.filter_cons]
          cases lessK y.1 x.1
          all_goals
            simp only [Bool.not_false, Bool.not_true, if_true, List.length_cons, Bool.false_eq_true, if_false]
            omega
      omega
    rw [this]
    omega
theorem stApply_len : ∀ (l : List Ch) (t : List Rw), (applyP t l).length ≤ t.length + l.length
  | [], t => Nat.le_refl _
  | c :: l, t => by
    have := stApply_len l (stepP t c)
    have := stStep_len t c
    rw [List.length_cons]
    unfold applyP at *
    rw [List.foldl_cons]
    omega
theorem apply_nil (t : List Rw) : applyP t [] = t := rfl
end Go.Proofs.YtfgbpinfplllgaaGreatDoor
