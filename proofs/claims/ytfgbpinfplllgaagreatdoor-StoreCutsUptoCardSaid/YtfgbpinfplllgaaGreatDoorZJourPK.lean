/- SWEPT -/
import Derived.Test.YtfgbpinfplllgaaGreatDoorZDiskK
import Derived.Test.YtfgbpinfplllgaaGreatDoorZPlainK
set_option linter.unusedVariables false
set_option linter.unusedSimpArgs false
namespace Go.Proofs.YtfgbpinfplllgaaGreatDoor
set_option maxRecDepth 100000
def wrs : DS → Int → List Blk → DS × Int
  | s, _, [] => (flushS s, flushE s)
  | s, n, l :: ls => if writeE s n = 0 then wrs (writeS s n l) (n + 1) ls else (writeS s n l, writeE s n)
def Ran (s : DS) (base : Int) (ls : List Blk) (r : DS × Int) : Prop :=
  r.1.blocks = s.blocks ∧ ((r.2 = 0 ∧ r.1.dark = false ∧ r.1.q = [] ∧ ∃ q, Consec base q ∧ q.map (·.2) = ls ∧ r.1.laid = lay q s.laid) ∨
    (r.2 = 9 ∧ r.1.dark = true ∧ r.1.laid = s.laid ∧ Consec base r.1.q ∧ r.1.q.map (·.2) <+: ls))
theorem consec_snoc : ∀ (q : List (Int × Blk)) (base : Int) (l : Blk), Consec base q → Consec base (q ++ [(base + q.length, l)])
  | [], base, l, _ => ⟨by simp, trivial⟩
  | x :: q, base, l, h => by
    refine ⟨h.1, ?_⟩
    have := consec_snoc q (base + 1) l h.2
    rwa [show base + 1 + (q.length : Int) = base + ((x :: q).length : Int) by simp only [List.length_cons]; omega] at this
theorem wrs_run : ∀ (ls : List Blk) (s s0 : DS) (base : Int) (done : List Blk), s.dark = false → s.laid = s0.laid → s.blocks = s0.blocks → Consec base s.q → s.q.map (·.2) = done → 0 ≤ base → base + done.length + ls.length ≤ s.blocks → Ran s0 base (done ++ ls) (wrs s (base + done.length) ls)
  | [], s, s0, base, done, hd, hl, hb, hc, hq, h0, hfit => by
    rw [wrs, List.append_nil]
    unfold Ran flushS flushE
    simp only [hd, Bool.false_eq_true, if_false]
    by_cases h1 : s.left = 1
    · rw [if_pos h1, if_pos h1]
      exact ⟨hb, .inr ⟨rfl, rfl, hl, hc, by rw [show (gone s).q = s.q from rfl, hq]; exact List.prefix_refl _⟩⟩
    · rw [if_neg h1, if_neg h1]
      exact ⟨hb, .inl ⟨rfl, hd, rfl, s.q, hc, hq, by rw [← hl]; rfl⟩⟩
  | l :: ls, s, s0, base, done, hd, hl, hb, hc, hq, h0, hfit => by
    have hlen : s.q.length = done.length := by have := congrArg List.length hq; rwa [List.length_map] at this
    have hin : inB s (base + done.length) = true := by unfold inB; simp only [List.length_cons] at hfit; exact decide_eq_true (by omega)
    have hw : writeE s (base + done.length) = if s.left = 1 then 9 else 0 := by unfold writeE; rw [hd, hin]; rfl
    have hs : writeS s (base + done.length) l = if s.left = 1 then gone s else wrote s (base + done.length) l := by unfold writeS; rw [hd, hin]; rfl
    rw [wrs, hw, hs]
    by_cases h1 : s.left = 1
    · rw [if_pos h1, if_pos h1, if_neg (by decide)]
      exact ⟨hb, .inr ⟨rfl, rfl, hl, hc, by rw [show (gone s).q = s.q from rfl, hq]; exact List.prefix_append _ _⟩⟩
    · rw [if_neg h1, if_neg h1, if_pos rfl]
      have hq2 : (wrote s (base + done.length) l).q = s.q ++ [(base + done.length, l)] := rfl
      have := wrs_run ls (wrote s (base + done.length) l) s0 base (done ++ [l]) hd hl hb (by rw [hq2, ← hlen]; exact consec_snoc _ _ _ hc) (by rw [hq2, List.map_append, hq]; rfl) h0 (by
        have e : (wrote s (base + done.length) l).blocks = s.blocks := rfl
        rw [e]
        simp only [List.length_append, List.length_cons, List.length_nil] at hfit ⊢
        omega)
      rw [List.append_assoc, List.singleton_append] at this
      rwa [show base + ((done ++ [l]).length : Int) = base + done.length + 1 by simp only [List.length_append, List.length_cons, List.length_nil]; omega] at this
theorem lay_ran (s : DS) (base : Int) (ls : List Blk) (hd : s.dark = false) (hq : s.q = []) (h0 : 0 ≤ base) (hfit : base + ls.length ≤ s.blocks) : Ran s base ls (wrs s base ls) := by
  have := wrs_run ls s s base [] hd rfl rfl (by rw [hq]; trivial) (by rw [hq]; rfl) h0 (by simpa using hfit)
  simpa using this
def CutOk (f : Tab) (H : Nat) (N : Int) (m : Nat) (ahead behind : List (List UInt8)) (r : DS × Int) (picks : List Int) : Prop :=
  (r.2 = 0 ∨ r.2 = 9) ∧ (crashed r.1 picks).dark = false ∧ (crashed r.1 picks).q = [] ∧ ThereT (crashed r.1 picks).laid H ∧ Under (N + m) (crashed r.1 picks).laid ∧
    (batchesT (crashed r.1 picks).laid H = ahead ∨ batchesT (crashed r.1 picks).laid H = behind) ∧ (r.2 = 0 → batchesT (crashed r.1 picks).laid H = behind)
theorem append_run {s : DS} {H : Nat} {N : Int} {ps : List (List UInt8)} (h : LayOk s.laid H N ps) (hd : s.dark = false) (hq : s.q = []) (hB : s.blocks = 2 * H) (hroom : usedT s.laid H + ps.length ≤ H) (picks : List Int) :
    CutOk s.laid H N ps.length (batchesT s.laid H) (batchesT s.laid H ++ [ps.flatten]) (wrs s (startT H (secondT s.laid H) + usedT s.laid H) (newBlks N ps)) picks := by
  have hst : 0 ≤ startT H (secondT s.laid H) ∧ startT H (secondT s.laid H) ≤ H := by unfold startT; split <;> omega
  have hr := lay_ran s (startT H (secondT s.laid H) + usedT s.laid H) (newBlks N ps) hd hq (by omega) (by rw [newBlks_len, hB]; omega)
  generalize wrs s (startT H (secondT s.laid H) + usedT s.laid H) (newBlks N ps) = r at *
  obtain ⟨hb, hr⟩ := hr
  rcases hr with ⟨h2, hdk, hq0, q, hc, hm, hl⟩ | ⟨h2, hdk, hl, hc, hm⟩
  · have e : (crashed r.1 picks).laid = lay q s.laid := by unfold crashed; rw [hq0, ← hl]; rfl
    obtain ⟨a1, a2, a3⟩ := append_ok h q hroom hc hm
    refine ⟨.inl h2, rfl, rfl, ?_, ?_, ?_, ?_⟩ <;> rw [e]
    · exact a1
    · exact a2
    · exact .inr a3
    · exact fun _ => a3
  · have e : (crashed r.1 picks).laid = tear (r.1.q.zip picks) s.laid := by unfold crashed; rw [← hl]
    obtain ⟨a1, a2, a3⟩ := append_cut h r.1.q picks hroom hc hm
    refine ⟨.inr h2, rfl, rfl, ?_, ?_, ?_, ?_⟩ <;> rw [e]
    · exact a1
    · exact a2
    · exact a3
    · exact fun h0 => by omega
theorem replace_run {s : DS} {H : Nat} {N : Int} {ps : List (List UInt8)} (h : LayOk s.laid H N ps) (hd : s.dark = false) (hq : s.q = []) (hB : s.blocks = 2 * H) (hroom : ps.length ≤ H) (picks : List Int) :
    CutOk s.laid H N ps.length (batchesT s.laid H) [ps.flatten] (wrs s (startT H (!secondT s.laid H)) (newBlks N ps)) picks := by
  have hst : 0 ≤ startT H (!secondT s.laid H) ∧ startT H (!secondT s.laid H) ≤ H := by unfold startT; split <;> omega
  have hr := lay_ran s (startT H (!secondT s.laid H)) (newBlks N ps) hd hq (by omega) (by rw [newBlks_len, hB]; omega)
  generalize wrs s (startT H (!secondT s.laid H)) (newBlks N ps) = r at *
  obtain ⟨hb, hr⟩ := hr
  rcases hr with ⟨h2, hdk, hq0, q, hc, hm, hl⟩ | ⟨h2, hdk, hl, hc, hm⟩
  · have e : (crashed r.1 picks).laid = lay q s.laid := by unfold crashed; rw [hq0, ← hl]; rfl
    obtain ⟨a1, a2, a3⟩ := replace_ok h q hroom hc hm
    refine ⟨.inl h2, rfl, rfl, ?_, ?_, ?_, ?_⟩ <;> rw [e]
    · exact a1
    · exact a2
    · exact .inr a3
    · exact fun _ => a3
  · have e : (crashed r.1 picks).laid = tear (r.1.q.zip picks) s.laid := by unfold crashed; rw [← hl]
    obtain ⟨a1, a2, a3⟩ := replace_cut h r.1.q picks hroom hc hm
    refine ⟨.inr h2, rfl, rfl, ?_, ?_, ?_, ?_⟩ <;> rw [e]
    · exact a1
    · exact a2
    · exact a3
    · exact fun h0 => by omega
end Go.Proofs.YtfgbpinfplllgaaGreatDoor
namespace Go.Proofs.YtfgbpinfplllgaaGreatDoor
set_option maxRecDepth 100000
theorem Within.upd {f : Tab} {D : Nat} (h : Within f D) (k : Int) (l : Blk) (hl : l.length = 64) (h0 : 0 ≤ k) (h1 : k < D) : Within (upd f k l) D := fun p => by
  by_cases e : p = k
  · subst e
    rw [tell_same]
    exact ⟨hl, fun hp => by omega⟩
  · rw [tell_other f l e]
    exact h p
theorem within_lay : ∀ (q : List (Int × Blk)) (base : Int) (f : Tab) (D : Nat), Within f D → Consec base q → 0 ≤ base → base + q.length ≤ D → (∀ x ∈ q, x.2.length = 64) → Within (lay q f) D
  | [], _, f, D, h, _, _, _, _ => h
  | x :: q, base, f, D, h, hc, h0, h1, hl => by
    simp only [List.length_cons] at h1
    rw [lay_cons]
    exact within_lay q (base + 1) _ D (h.upd _ _ (hl x List.mem_cons_self) (by have := hc.1; omega) (by have := hc.1; omega)) hc.2 (by omega) (by omega) fun y hy => hl y (List.mem_cons_of_mem _ hy)
theorem within_tear : ∀ (q : List (Int × Blk)) (picks : List Int) (base : Int) (f : Tab) (D : Nat), Within f D → Consec base q → 0 ≤ base → base + q.length ≤ D → (∀ x ∈ q, x.2.length = 64) → Within (tear (q.zip picks) f) D
  | [], _, _, f, D, h, _, _, _, _ => h
  | x :: q, [], _, f, D, h, _, _, _, _ => h
  | x :: q, k :: picks, base, f, D, h, hc, h0, h1, hl => by
    simp only [List.length_cons] at h1
    rw [List.zip_cons_cons, tear_cons]
    exact within_tear q picks (base + 1) _ D (h.upd _ _ (torn_len _ _ _ (h _).1 (hl x List.mem_cons_self)) (by have := hc.1; show 0 ≤ x.1; omega) (by have := hc.1; show x.1 < (D : Int); omega)) hc.2 (by omega) (by omega) fun y hy => hl y (List.mem_cons_of_mem _ hy)
theorem newBlks_64 : ∀ (n : Int) (ps : List (List UInt8)), Cut42 ps → ∀ l ∈ newBlks n ps, l.length = 64
  | _, [], _, l, h => by cases h
  | n, p :: ps, hc, l, h => by
    obtain ⟨last, eb, -, -⟩ := newBlks_cons n p ps
    obtain ⟨hct, hp, -⟩ := hc.tail
    rw [eb] at h
    rcases List.mem_cons.1 h with rfl | h
    · exact putN_len _ _ (by rw [leafBody_len]; omega)
    · exact newBlks_64 (n + 1) ps hct l h
theorem wrs_steps : ∀ (ls : List Blk) (s : DS) (n : Int), (wrs s n ls).1.steps ≤ s.steps + ls.length + 1
  | [], s, n => by
    rw [wrs]
    unfold flushS
    split
    · simp
    · split
      · show s.steps ≤ _; simp
      · show s.steps + 1 ≤ _; simp
  | l :: ls, s, n => by
    have hw : (writeS s n l).steps ≤ s.steps + 1 := by
      unfold writeS
      split
      · omega
      · split
        · split
          · show s.steps ≤ _; omega
          · exact Nat.le_refl _
        · omega
    rw [wrs]
    split
    · have := wrs_steps ls (writeS s n l) (n + 1)
      simp only [List.length_cons]
      omega
    · simp only [List.length_cons]
      omega
structure Head (H : Nat) (s : DS) (now : List (List UInt8)) (i : Nat) : Prop where
  light : s.dark = false
  queue : s.q = []
  young : s.young = none'
  blocks : s.blocks = 2 * H
  within : Within s.laid (2 * H)
  there : ThereT s.laid H
  batches : batchesT s.laid H = now
  next : nextT s.laid (2 * H) ≤ 2 + 50 * i
  steps : s.steps ≤ 10 + 60 * i
theorem Head.lay {H i : Nat} {s : DS} {now : List (List UInt8)} (h : Head H s now i) {ps : List (List UInt8)} (hp : PartsOk ps) (hc : Cut42 ps) (h48 : ps.length ≤ 50) (hi : i ≤ 1000) : LayOk s.laid H (nextT s.laid (2 * H)) ps :=
  have hu := next_under h.within
  ⟨h.there, hu.1, hu.2, by have := h.next; omega, hp, hc⟩
theorem head_round {H i : Nat} {s : DS} {now ahead behind : List (List UInt8)} (h : Head H s now i) (n : Nat) {ps : List (List UInt8)} (hp : PartsOk ps) (hcut : Cut42 ps) (h48 : ps.length ≤ 50) (hi : i ≤ 1000) (base : Int) (h0 : 0 ≤ base) (hfit : base + ps.length ≤ 2 * H) (picks : List Int)
    (hr : CutOk s.laid H (nextT s.laid (2 * H)) ps.length ahead behind (wrs (armed s n) base (newBlks (nextT s.laid (2 * H)) ps)) picks) :
    ((wrs (armed s n) base (newBlks (nextT s.laid (2 * H)) ps)).2 = 0 ∨ (wrs (armed s n) base (newBlks (nextT s.laid (2 * H)) ps)).2 = 9) ∧
      ∃ now', Head H (crashed (wrs (armed s n) base (newBlks (nextT s.laid (2 * H)) ps)).1 picks) now' (i + 1) ∧ (now' = ahead ∨ now' = behind) ∧ ((wrs (armed s n) base (newBlks (nextT s.laid (2 * H)) ps)).2 = 0 → now' = behind) := by
  have hran := lay_ran (armed s n) base (newBlks (nextT s.laid (2 * H)) ps) h.light h.queue h0 (by rw [newBlks_len]; show base + (ps.length : Int) ≤ s.blocks; rw [h.blocks]; omega)
  have hst := wrs_steps (newBlks (nextT s.laid (2 * H)) ps) (armed s n) base
  rw [newBlks_len] at hst
  have hst0 : (armed s n).steps = s.steps := rfl
  have hl64 := newBlks_64 (nextT s.laid (2 * H)) ps hcut
  have hnb := newBlks_len (nextT s.laid (2 * H)) ps
  generalize newBlks (nextT s.laid (2 * H)) ps = bl at *
  generalize hrr : wrs (armed s n) base bl = r at *
  obtain ⟨c1, c2, c3, c4, c5, c6, c7⟩ := hr
  refine ⟨c1, _, ⟨c2, c3, rfl, ?_, ?_, c4, rfl, ?_, ?_⟩, c6, c7⟩
  · show r.1.blocks = 2 * H
    rw [hran.1]
    exact h.blocks
  · show Within (tear (r.1.q.zip picks) r.1.laid) (2 * H)
    rcases hran.2 with ⟨-, -, hq0, q, hc, hm, hl⟩ | ⟨-, -, hl, hc, hm⟩
    · rw [hq0, hl]
      have hql : q.length = bl.length := by have := congrArg List.length hm; rwa [List.length_map] at this
      exact within_lay q base s.laid (2 * H) h.within hc h0 (by omega) fun x hx => hl64 _ (by rw [← hm]; exact List.mem_map_of_mem hx)
    · rw [hl]
      have hql : r.1.q.length ≤ bl.length := by have := hm.length_le; rwa [List.length_map] at this
      exact within_tear r.1.q picks base s.laid (2 * H) h.within hc h0 (by omega) fun x hx => hl64 _ (hm.subset (List.mem_map_of_mem hx))
  · have := under_next (D := 2 * H) c5 (by have := (next_under h.within).2; omega)
    have := h.next
    omega
  · show r.1.steps ≤ _
    have := h.steps
    omega
theorem head_append {H i : Nat} {s : DS} {now : List (List UInt8)} (h : Head H s now i) (n : Nat) {ps : List (List UInt8)} (hp : PartsOk ps) (hcut : Cut42 ps) (h48 : ps.length ≤ 50) (hi : i ≤ 1000) (hroom : usedT s.laid H + ps.length ≤ H) (picks : List Int) :
    ((wrs (armed s n) (startT H (secondT s.laid H) + usedT s.laid H) (newBlks (nextT s.laid (2 * H)) ps)).2 = 0 ∨ (wrs (armed s n) (startT H (secondT s.laid H) + usedT s.laid H) (newBlks (nextT s.laid (2 * H)) ps)).2 = 9) ∧
      ∃ now', Head H (crashed (wrs (armed s n) (startT H (secondT s.laid H) + usedT s.laid H) (newBlks (nextT s.laid (2 * H)) ps)).1 picks) now' (i + 1) ∧ (now' = now ∨ now' = now ++ [ps.flatten]) ∧ ((wrs (armed s n) (startT H (secondT s.laid H) + usedT s.laid H) (newBlks (nextT s.laid (2 * H)) ps)).2 = 0 → now' = now ++ [ps.flatten]) := by
  have hst : 0 ≤ startT H (secondT s.laid H) ∧ startT H (secondT s.laid H) ≤ H := by unfold startT; split <;> omega
  have hr := append_run (s := armed s n) (h.lay hp hcut h48 hi) h.light h.queue h.blocks hroom picks
  have e : batchesT (armed s n).laid H = now := h.batches
  rw [e] at hr
  exact head_round h n hp hcut h48 hi _ (by omega) (by omega) picks hr
theorem head_replace {H i : Nat} {s : DS} {now : List (List UInt8)} (h : Head H s now i) (n : Nat) {ps : List (List UInt8)} (hp : PartsOk ps) (hcut : Cut42 ps) (h48 : ps.length ≤ 50) (hi : i ≤ 1000) (hroom : ps.length ≤ H) (picks : List Int) :
    ((wrs (armed s n) (startT H (!secondT s.laid H)) (newBlks (nextT s.laid (2 * H)) ps)).2 = 0 ∨ (wrs (armed s n) (startT H (!secondT s.laid H)) (newBlks (nextT s.laid (2 * H)) ps)).2 = 9) ∧
      ∃ now', Head H (crashed (wrs (armed s n) (startT H (!secondT s.laid H)) (newBlks (nextT s.laid (2 * H)) ps)).1 picks) now' (i + 1) ∧ (now' = now ∨ now' = [ps.flatten]) ∧ ((wrs (armed s n) (startT H (!secondT s.laid H)) (newBlks (nextT s.laid (2 * H)) ps)).2 = 0 → now' = [ps.flatten]) := by
  have hst : 0 ≤ startT H (!secondT s.laid H) ∧ startT H (!secondT s.laid H) ≤ H := by unfold startT; split <;> omega
  have hr := replace_run (s := armed s n) (h.lay hp hcut h48 hi) h.light h.queue h.blocks hroom picks
  have e : batchesT (armed s n).laid H = now := h.batches
  rw [e] at hr
  exact head_round h n hp hcut h48 hi _ (by omega) (by omega) picks hr
end Go.Proofs.YtfgbpinfplllgaaGreatDoor
namespace Go.Proofs.YtfgbpinfplllgaaGreatDoor
set_option maxRecDepth 100000
theorem leaf_zb : leafOf zb = none := leaf_bad (by decide +kernel)
def Blank (f : Tab) : Prop := ∀ p, tell f p = zb
theorem blank_none : Blank none' := fun p => rfl
theorem Blank.upd {f : Tab} (h : Blank f) (k : Int) : Blank (upd f k zb) := fun p => by
  by_cases e : p = k
  · subst e; exact tell_same _ _ _
  · rw [tell_other f _ e]; exact h p
theorem Blank.within {f : Tab} (h : Blank f) (D : Nat) : Within f D := fun p => ⟨by rw [h p]; exact zb_len, fun _ => h p⟩
theorem Blank.next {f : Tab} (h : Blank f) (D : Nat) : nextT f D = 1 := by
  have h1 := nextTo_le f 0 (Int.le_refl _) D fun i _ => by rw [h i, greatest_zb]; exact Int.le_refl _
  have h2 := nextTo_nonneg f D
  unfold nextT
  omega
theorem Blank.lvs {f : Tab} (h : Blank f) (H : Nat) (s : Bool) : headN (lvs f H s) = 0 := by
  unfold Go.Proofs.YtfgbpinfplllgaaGreatDoor.lvs
  cases H with
  | zero => rfl
  | succ H =>
    rw [rmap_succ]
    show headN (leafOf (tell f _) :: _) = 0
    rw [h, leaf_zb]
    rfl
theorem newL_last : ∀ (N : Int) (ps : List (List UInt8)), ps ≠ [] → ∃ b, (newL N ps)[ps.length - 1]? = some (some (N + ps.length - 1, true, b))
  | N, [], h => absurd rfl h
  | N, [p], _ => ⟨p, by rw [newL_one]; simp⟩
  | N, p :: q :: ps, _ => by
    obtain ⟨b, hb⟩ := newL_last (N + 1) (q :: ps) (by simp)
    refine ⟨b, ?_⟩
    rw [newL_more, show (p :: q :: ps).length - 1 = ((q :: ps).length - 1) + 1 by simp, List.getElem?_cons_succ, hb]
    simp only [List.length_cons]
    congr 3
    omega
theorem next_laid {f : Tab} {D : Nat} {N base : Int} {n : Nat} {ps : List (List UInt8)} {t : List (Option Lf)} (hu : Under (N + ps.length) f) (h0 : 0 < N) (hp : ps ≠ []) (hb : 0 ≤ base) (hD : base + n ≤ D) (hl : rmap base n (fun p => leafOf (tell f p)) = newL N ps ++ t) : nextT f D = N + ps.length := by
  have h1 := under_next (D := D) hu (by omega)
  obtain ⟨b, hb1⟩ := newL_last N ps hp
  have hlen : 1 ≤ ps.length := by
    cases ps with
    | nil => exact absurd rfl hp
    | cons p ps => simp
  have hn : ps.length ≤ n := by
    have := congrArg List.length hl
    rw [rmap_len, List.length_append, newL_len] at this
    omega
  have e : (rmap base n (fun p => leafOf (tell f p)))[ps.length - 1]? = some (some (N + ps.length - 1, true, b)) := by
    rw [hl, List.getElem?_append_left (by rw [newL_len]; omega)]
    exact hb1
  have e2 : (rmap base n (fun p => leafOf (tell f p)))[ps.length - 1]? = some (leafOf (tell f (base + ((ps.length - 1 : Nat) : Int)))) := by
    unfold rmap
    rw [List.getElem?_map, List.getElem?_range (by omega)]
    rfl
  rw [e2] at e
  have e3 := (leaf_num (Option.some.inj e)).2
  obtain ⟨i, hi⟩ := Int.eq_ofNat_of_zero_le (show 0 ≤ base + ((ps.length - 1 : Nat) : Int) by omega)
  rw [hi] at e3
  have h2 := nextTo_ge f D i (by omega)
  have h3 := (greatest_is (tell f (i : Int))).1.1
  unfold nextT
  unfold nextT at h1
  omega
theorem make_laid {f : Tab} {H : Nat} {ps : List (List UInt8)} (hf : Blank f) (hp : PartsOk ps) (hcut : Cut42 ps) (hH : ps.length ≤ H) (hbig : (ps.length : Int) ≤ 4000000000) (q : List (Int × Blk)) (hc : Consec 0 q) (hq : q.map (·.2) = newBlks 1 ps) :
    ThereT (lay q f) H ∧ batchesT (lay q f) H = [ps.flatten] ∧ nextT (lay q f) (2 * H) = 1 + ps.length ∧ Within (lay q f) (2 * H) := by
  have hu : Under 1 f := by
    have := (next_under (hf.within (2 * H))).1
    rwa [hf.next] at this
  have hql : q.length = ps.length := by have := congrArg List.length hq; rwa [List.length_map, newBlks_len] at this
  have hnew := lay_new ps 1 0 H q f hH hc hq (by decide) (by omega) hcut
  have hut := under_lay ps 1 q f (by rw [hq]; exact List.prefix_refl _) hu (by decide) (by omega) hcut
  have hw := within_lay q 0 f (2 * H) (hf.within _) hc (Int.le_refl _) (by omega) fun x hx => newBlks_64 1 ps hcut _ (by rw [← hq]; exact List.mem_map_of_mem hx)
  have hout := fun p hp => lay_out q 0 p f hc hp
  generalize lay q f = g at *
  have hfst : lvs g H false = newL 1 ps ++ (lvs f H false).drop ps.length := hnew
  have hsnd : lvs g H true = lvs f H true := lvs_same fun p h1 h2 => hout p (.inr (by simp [startT] at h1 ⊢; omega))
  have hr := replace_done (ls := lvs f H false) (hu.small _ _) hp (by decide)
  rw [← hfst] at hr
  have hb2 : beginN (lvs f H true) = 0 := by
    unfold beginN
    rw [half_low (by rw [hf.lvs]; exact Int.le_refl _), if_pos rfl]
  have hsec : secondN (lvs g H false) (lvs g H true) = false := by
    unfold secondN
    rw [hr.2, hsnd, hb2]
    rfl
  refine ⟨.inl (by rw [hr.1]; simp), ?_, next_laid hut (by decide) hp.1 (Int.le_refl _) (by omega) hnew, hw⟩
  unfold batchesT batchesN
  rw [hsec]
  exact hr.1
end Go.Proofs.YtfgbpinfplllgaaGreatDoor
