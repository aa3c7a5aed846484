/- SWEPT -/
import Derived.Test.YtfgbpinfplllgaaGreatDoorZBchDK
import Derived.Test.YtfgbpinfplllgaaGreatDoorZJourDK
import Derived.Test.YtfgbpinfplllgaaGreatDoorZStNum
import Derived.Test.YtfgbpinfplllgaaGreatDoorZStPlain
import Derived.Test.YtfgbpinfplllgaaGreatDoorZStSort
set_option linter.unusedVariables false
set_option linter.unusedSimpArgs false
namespace Go.Proofs.YtfgbpinfplllgaaGreatDoor
open Go.RowKit Go.Shelf Go.Maps Go.Sort
set_option maxRecDepth 100000
def decs : List (List UInt8) → Option (List (List Ch))
  | [] => some []
  | b :: r => match getC b with
    | .ok l => (decs r).map (l :: ·)
    | .error _ => none
theorem decs_ok : ∀ {bts : List (List UInt8)} {bs : List (List Ch)}, decs bts = some bs ↔ bts.map getC = bs.map Except.ok
  | [], bs => by cases bs <;> simp [decs]
  | b :: r, bs => by
    unfold decs
    cases h : getC b with
    | error e => cases bs <;> simp [h]
    | ok l =>
      cases bs with
      | nil => simp
      | cons c cs =>
        simp only [List.map_cons, h, Option.map_eq_some_iff, List.cons.injEq, Except.ok.injEq]
        constructor
        · rintro ⟨a, ha, rfl, rfl⟩
          exact ⟨rfl, decs_ok.1 ha⟩
        · rintro ⟨rfl, hb⟩
          exact ⟨cs, decs_ok.2 hb, rfl, rfl⟩
theorem decs_snoc (bts : List (List UInt8)) (b : List UInt8) : decs (bts ++ [b]) = match decs bts, getC b with | some bs, .ok l => some (bs ++ [l]) | _, _ => none := by
  induction bts with
  | nil => rw [List.nil_append]; cases h : getC b <;> simp [decs, h]
  | cons a r ih =>
    rw [List.cons_append]
    unfold decs
    cases getC a with
    | error e => simp
    | ok l =>
      simp only [ih]
      cases decs r <;> cases getC b <;> simp
theorem decs_bad {bts : List (List UInt8)} {i : Nat} (hi : i < bts.length) {e : Int} (h : getC bts[i] = .error e) : decs bts = none := by
  cases hd : decs bts with
  | none => rfl
  | some bs =>
    have := decs_ok.1 hd
    have h1 : (bts.map getC)[i]? = some (.error e) := by rw [List.getElem?_map, List.getElem?_eq_getElem hi, Option.map_some, h]
    rw [this, List.getElem?_map] at h1
    cases hb : bs[i]? <;> rw [hb] at h1 <;> simp at h1
theorem BsV.notmap {w : World} {F : Nat → Prop} {v : Value} {l : List UInt8} {b : Nat} {es c} (h : BsV w F v l) (hb : w.heap[b]? = some (.map es c)) : BsV w (fun k => F k ∧ k ≠ b) v l := by
  obtain ⟨A, c', h1, h2, h3⟩ := h
  refine ⟨A, c', h1, ?_, h3⟩
  rcases h2 with h2 | ⟨b', off, e, hF, hc⟩
  · exact .inl h2
  · cases l with
    | nil => exact .inl rfl
    | cons x l =>
      refine .inr ⟨b', off, e, ⟨hF, fun e' => ?_⟩, hc⟩
      subst e'
      have := hc 0 (by simp)
      simp [World.cell?, hb] at this
def MapT (w : World) (b n : Nat) (cs : List Ch) : Prop := ∃ D : DataW Value, w.ownsMap Tryz.prog 9 chgElem b n D ∧ KeyIn D ∧ ∀ k, match lastCh cs k with
  | none => has D (.string k) = false
  | some c => has D (.string k) = true ∧ ∃ p : Raw, (∀ zd, D.atKey (.string k) zd = .held (enc3 p)) ∧ p.k = k ∧ chgE.rd w (· ≠ b) (cells3 p) c
theorem MapT.below {w w' : World} {b n : Nat} {cs : List Ch} (h : MapT w b n cs) (hb : Below w.heap.size w w') : MapT w' b n cs := by
  obtain ⟨D, h1, h2, h3⟩ := h
  refine ⟨D, ownsMap_turn h1 (Turn.of_below hb fun _ => False) (fun h => h), h2, fun k => ?_⟩
  have := h3 k
  cases hl : lastCh cs k with
  | none => rw [hl] at this; exact this
  | some c =>
    rw [hl] at this
    obtain ⟨a1, p, a2, a3, a4⟩ := this
    exact ⟨a1, p, a2, a3, chgE.turn a4 (Turn.of_below hb fun _ => False) fun _ _ h => h⟩
theorem keyIn_nil : KeyIn (.map []) := fun x y h => by
  have := h (.lit (.bool true))
  rw [atKey_of_not_has (D := .map []) (by rfl)] at this
  cases this
theorem MapT.new (w : World) : MapT (w.alloc (.map #[] 0)) w.heap.size 0 [] :=
  ⟨.map [], World.ownsMap_made w Tryz.prog _ _, keyIn_nil, fun k => rfl⟩
theorem enc3_key {x y : Raw} (h : enc3 x = enc3 y) : x = y := by
  obtain ⟨a1, a2, a3, a4, a5⟩ := x
  obtain ⟨b1, b2, b3, b4, b5⟩ := y
  simp [enc3, sv] at h
  obtain ⟨rfl, ⟨rfl, rfl, rfl⟩, rfl⟩ := h
  rfl
theorem MapT.put {w w' : World} {b n : Nat} {cs : List Ch} {D : DataW Value} {c : Ch} {p : Raw} (hD : IsMap D) (h2 : KeyIn D) (h3 : ∀ k, match lastCh cs k with
  | none => has D (.string k) = false
  | some c => has D (.string k) = true ∧ ∃ p : Raw, (∀ zd, D.atKey (.string k) zd = .held (enc3 p)) ∧ p.k = k ∧ chgE.rd w (· ≠ b) (cells3 p) c)
    (hown : w'.ownsMap Tryz.prog 9 chgElem b (n + 1) (D.put (.string c.1) (.held (enc3 p)))) (hg : w.grownBy w' (some b)) (hp : p.k = c.1) (hr : chgE.rd w (· ≠ b) (cells3 p) c) : MapT w' b (n + 1) (cs ++ [c]) := by
  have ht : Turn w w' (fun k => some b = some k) := Turn.of_grown hg
  have hn : ∀ k, k ≠ b → ¬ (some b = some k) := fun k hk e => hk (by cases e; rfl)
  refine ⟨_, hown, fun x y hxy => ?_, fun k => ?_⟩
  · by_cases hx : x = c.1
    · subst hx
      have := hxy (.lit (.bool true))
      rw [atKey_put_same hD (by trivial)] at this
      rw [← enc3_key (DataW.held.inj this)]
      exact hp
    · refine h2 x y fun zd => ?_
      have := hxy zd
      rwa [atKey_put_other (fun e => hx (by injection e))] at this
  · rw [lastOf_snoc]
    by_cases hk : c.1 = k
    · subst hk
      rw [if_pos rfl]
      exact ⟨has_put_same hD (by trivial) _, p, fun zd => atKey_put_same hD (by trivial) _ _, hp, chgE.turn hr ht hn⟩
    · rw [if_neg hk]
      have hne : (Lit.string k) ≠ Lit.string c.1 := fun e => hk (by injection e with e; exact e.symm)
      have := h3 k
      cases hl : lastCh cs k with
      | none => rw [hl] at this; exact (has_put_other hne _).trans this
      | some d =>
        rw [hl] at this
        obtain ⟨a1, q, a2, a3, a4⟩ := this
        exact ⟨(has_put_other hne _).trans a1, q, fun zd => (atKey_put_other hne _ _).trans (a2 zd), a3, chgE.turn a4 ht hn⟩
def chOf (cs : List Ch) (p : Raw) : Ch := (lastCh cs p.k).getD ([], [], false)
theorem rows_of {w : World} {b : Nat} {cs : List Ch} {D : DataW Value} {qs : List Raw} (hD : ∀ k, match lastCh cs k with
  | none => has D (.string k) = false
  | some c => has D (.string k) = true ∧ ∃ p : Raw, (∀ zd, D.atKey (.string k) zd = .held (enc3 p)) ∧ p.k = k ∧ chgE.rd w (· ≠ b) (cells3 p) c) (ha : AllOf3 D qs) (hs : qs.Pairwise (fun x y => lessK y.k x.k = false)) :
    SortC (qs.map (chOf cs)) ∧ (∀ c, c ∈ qs.map (chOf cs) ↔ lastCh cs c.1 = some c) ∧ ∀ p ∈ qs, chgE.rd w (· ≠ b) (cells3 p) (chOf cs p) := by
  obtain ⟨a1, a0, a2, a3⟩ := ha
  have key : ∀ p ∈ qs, ∃ c, lastCh cs p.k = some c ∧ c.1 = p.k ∧ chgE.rd w (· ≠ b) (cells3 p) c := fun p hp => by
    have h1 := (a2 p.k).1 (List.mem_map.2 ⟨p, hp, rfl⟩)
    have h2 := hD p.k
    cases hl : lastCh cs p.k with
    | none => rw [hl] at h2; rw [h2] at h1; cases h1
    | some c =>
      rw [hl] at h2
      obtain ⟨_, q, hq1, _, hq3⟩ := h2
      have := (hq1 (.lit (.bool true))).symm.trans (a3 p hp (.lit (.bool true)))
      obtain rfl := enc3_key (DataW.held.inj this)
      exact ⟨c, rfl, (lastOf_mem hl).2, hq3⟩
  have hch : ∀ p ∈ qs, lastCh cs p.k = some (chOf cs p) ∧ (chOf cs p).1 = p.k ∧ chgE.rd w (· ≠ b) (cells3 p) (chOf cs p) := fun p hp => by
    obtain ⟨c, h1, h2, h3⟩ := key p hp
    have : chOf cs p = c := by unfold chOf; rw [h1]; rfl
    rw [this]
    exact ⟨h1, h2, h3⟩
  refine ⟨?_, fun c => ⟨fun hc => ?_, fun hc => ?_⟩, fun p hp => (hch p hp).2.2⟩
  · have hnd : qs.Pairwise (fun x y => x.k ≠ y.k) := List.pairwise_map.1 a1
    refine List.pairwise_map.2 ((hs.and hnd).imp_of_mem fun {x y} hx hy h => ?_)
    rw [(hch x hx).2.1, (hch y hy).2.1]
    cases hlt : lessK x.k y.k with
    | true => rfl
    | false => exact absurd (lessK_total hlt h.1) h.2
  · obtain ⟨p, hp, rfl⟩ := List.mem_map.1 hc
    rw [(hch p hp).2.1]
    exact (hch p hp).1
  · have h2 := hD c.1
    rw [hc] at h2
    obtain ⟨p, hp, hk⟩ := List.mem_map.1 ((a2 c.1).2 h2.1)
    refine List.mem_map.2 ⟨p, hp, ?_⟩
    have := (hch p hp).1
    rw [hk, hc] at this
    cases this
    rfl
theorem drop_take_flat (qs : List Raw) (j : Nat) (hj : j < qs.length) : ((qs.flatMap cells3).drop (j * 3)).take 3 = cells3 qs[j] := by
  apply List.ext_getElem?
  intro i
  rw [List.getElem?_take]
  by_cases hi : i < 3
  · rw [if_pos hi, List.getElem?_drop, flat_get qs j i hj hi]
  · rw [if_neg hi]
    simp [cells3]
    omega
theorem list_of {w : World} {g cap : Nat} {b : Nat} {qs : List Raw} {cs : List Ch} (h : ∀ p ∈ qs, chgE.rd w (· ≠ b) (cells3 p) (chOf cs p)) (hc : ∀ i u, (qs.flatMap cells3)[i]? = some u → w.cell? ⟨g, i, none⟩ = some u) (h1 : qs.length ≤ cap) (h2 : cap ≤ maxLen) :
    LsV chgE w anyB (.slice (some ⟨g, 0, none⟩) qs.length cap) (qs.map (chOf cs)) := by
  refine ⟨some ⟨g, 0, none⟩, cap, by rw [List.length_map], .inr ⟨g, 0, qs.flatMap cells3, rfl, trivial, ⟨by rw [cells3_len, List.length_map]; rfl, fun j hj => ?_⟩, fun i u hu => by rw [Nat.zero_add]; exact hc i u hu⟩, by rw [List.length_map]; exact h1, h2, fun e => by cases e⟩
  have hj' : j < qs.length := by simpa using hj
  show chgE.rd w anyB (((qs.flatMap cells3).drop (j * 3)).take 3) _
  rw [drop_take_flat qs j hj', List.getElem_map]
  exact chgE.mono (h _ (List.getElem_mem hj')) fun _ _ _ => trivial
def TabRet (bts : List (List UInt8)) (w : World) (e : Ending) (w' : World) : Prop := Below w.heap.size w w' ∧ match decs bts with
  | some bs => ∃ u, e = .returned (.tuple #[u, .nilIface]) ∧ LsV rowN w' (w.heap.size ≤ ·) u (tellsP bs)
  | none => ∃ q, e = .returned (.tuple #[.slice none 0 0, .iface 154 (.pointer (some q))])
end Go.Proofs.YtfgbpinfplllgaaGreatDoor
