/- JourDK: JourTell Typed JourBat JourLives0 JourLives. -/
import Derived.Test.YtdjjlhfgfogdeaaJourCK
import Derived.Test.YtdjjlhfgfogdeaaJourPK
/- What a journal in memory tells is what stands on its disk; what is done in the light goes well. No walk. -/
namespace Go.Proofs.Ytdjjlhfgfogdeaa
open Go.RowKit Go.Shelf
set_option linter.unusedVariables false
set_option maxRecDepth 100000
set_option linter.unusedSimpArgs false

theorem readV_tell {s : DS} {H : Nat} (hd : s.dark = false) (hy : s.young = none') (hb : s.blocks = 2 * H) (hw : Within s.laid (2 * H)) (p : Int) : readV s p = tell s.laid p := by
  unfold readV
  by_cases hin : inB s p = true
  · rw [if_pos ⟨hd, hin⟩]
    unfold readN
    rw [hy]
    rfl
  · rw [if_neg (fun h => hin h.2)]
    have : p < 0 ∨ ((2 * H : Nat) : Int) ≤ p := by
      simp [inB] at hin
      omega
    exact ((hw p).2 this).symm
/-- what a journal in memory tells is what stands there -/
structure Tells (s : DS) (H : Nat) (j : JS) : Prop where
  batches : j.batches = batchesT s.laid H
  used : j.used = usedT s.laid H
  frm : (j.frm : Int) = startT H (secondT s.laid H)
  next : j.next = nextT s.laid (2 * H)
theorem nextToV_tell {s : DS} (h : ∀ p, readV s p = tell s.laid p) : ∀ k, nextToV s k = nextTo s.laid k
  | 0 => rfl
  | k + 1 => by
    rw [nextToV_succ, nextToV_tell h k, h]
    rfl
theorem open_tells {s : DS} {H : Nat} (hd : s.dark = false) (hy : s.young = none') (hb : s.blocks = 2 * H) (hw : Within s.laid (2 * H)) : Tells s H (openJ s H) ∧ ((openJ s H).first = 0 ↔ ¬ ThereT s.laid H) ∧ nextToV s s.blocks + 1 = nextT s.laid (2 * H) := by
  have hr := readV_tell hd hy hb hw
  have hn : nextToV s s.blocks + 1 = nextT s.laid (2 * H) := by rw [nextToV_tell hr, hb]; rfl
  have ha : lvsV s 0 H = lvs s.laid H false := by
    unfold lvsV lvs
    exact rmap_congr fun p _ _ => by rw [hr]
  have hb' : lvsV s (H : Int) H = lvs s.laid H true := by
    unfold lvsV lvs
    exact rmap_congr fun p _ _ => by rw [hr]
  unfold openJ
  rw [ha, hb', hn]
  have hs : secondN (lvs s.laid H false) (lvs s.laid H true) = secondT s.laid H := rfl
  rw [hs]
  cases hsec : secondT s.laid H with
  | true =>
    rw [if_pos rfl]
    have hbt : batchesT s.laid H = (halfN (lvs s.laid H true)).1 := by unfold batchesT batchesN; rw [hs, hsec]; rfl
    refine ⟨⟨hbt.symm, by unfold usedT; rw [hsec], by rw [hsec]; rfl, rfl⟩, ?_, rfl⟩
    have h2 := there_second (hs.trans hsec)
    exact ⟨fun h => absurd (begin_zero h) h2, fun h => absurd (.inr h2) h⟩
  | false =>
    rw [if_neg (by decide)]
    have hbt : batchesT s.laid H = (halfN (lvs s.laid H false)).1 := by unfold batchesT batchesN; rw [hs, hsec]; rfl
    refine ⟨⟨hbt.symm, by unfold usedT; rw [hsec], by rw [hsec]; rfl, rfl⟩, ?_, rfl⟩
    exact ⟨fun h ht => there_first ht (hs.trans hsec) (begin_zero h), fun h => by
      have : (halfN (lvs s.laid H false)).1 = [] := Decidable.byContradiction fun hne => h (.inl hne)
      exact beginN_zero.2 this⟩
theorem armed_tells {s : DS} {H n : Nat} {j : JS} (h : Tells s H j) : Tells (armed s n) H j := ⟨h.batches, h.used, h.frm, h.next⟩
theorem wrs_qlen {ls : List Blk} {s : DS} {n : Int} (h : Ran s n ls (wrs s n ls)) : (wrs s n ls).1.q.length ≤ ls.length := by
  rcases h.2 with h | h
  · rw [h.2.2.1]; exact Nat.zero_le _
  · have := h.2.2.2.2.length_le
    rwa [List.length_map] at this
/-- a round of Append: refused for want of room, or as the disk's heart says -/
theorem cut_append {H i : Nat} {s : DS} {now : List (List UInt8)} {j : JS} (h : Head H s now i) (ht : Tells s H j) (n : Nat) {l : List UInt8} (hl : l.length ≤ 2000) (hi : i ≤ 100) :
    appR (armed s n) j H l = (armed s n, 10) ∨ (((appR (armed s n) j H l).2 = 0 ∨ (appR (armed s n) j H l).2 = 9) ∧ (appR (armed s n) j H l).1.q.length ≤ 50 ∧ ∀ picks, ∃ now', Head H (crashed (appR (armed s n) j H l).1 picks) now' (i + 1) ∧ (now' = now ∨ now' = now ++ [l]) ∧ ((appR (armed s n) j H l).2 = 0 → now' = now ++ [l])) := by
  have hm : manyL l ≤ 48 := by rw [many_is]; omega
  have hn := h.next
  have hu := used_le s.laid H
  have hps : (partsOf l).length = manyL l := rfl
  unfold appR layR
  rw [if_neg (by rw [show (armed s n).dark = s.dark from rfl, h.light]; decide), ht.frm, ht.used, ht.next]
  unfold fitsE
  rw [if_neg (show ¬ 524288 < l.length by omega), if_neg (show ¬ 2147483648 < nextT s.laid (2 * H) + (manyL l : Int) - 1 by omega)]
  by_cases hr : (H : Int) - (usedT s.laid H : Int) < (manyL l : Int)
  · rw [if_pos hr, if_pos (by decide)]
    exact .inl rfl
  · rw [if_neg hr, if_neg (by decide)]
    right
    have hlay := h.lay (parts_ok l) (parts_cut l) (show (partsOf l).length ≤ 50 by omega) (show i ≤ 1000 by omega)
    have hst : 0 ≤ startT H (secondT s.laid H) ∧ startT H (secondT s.laid H) ≤ H := by unfold startT; split <;> omega
    have hran := lay_ran (armed s n) (startT H (secondT s.laid H) + usedT s.laid H) (newBlks (nextT s.laid (2 * H)) (partsOf l)) h.light h.queue (by omega) (by rw [newBlks_len]; show _ ≤ (s.blocks : Int); rw [h.blocks]; omega)
    have hq := wrs_qlen hran
    rw [newBlks_len] at hq
    have hap := fun picks => head_append h n (parts_ok l) (parts_cut l) (show (partsOf l).length ≤ 50 by omega) (show i ≤ 1000 by omega) (show usedT s.laid H + (partsOf l).length ≤ H by omega) picks
    rw [parts_flatten] at hap
    exact ⟨(hap []).1, by omega, fun picks => (hap picks).2⟩
/-- a round of Replace -/
theorem cut_replace {H i : Nat} {s : DS} {now : List (List UInt8)} {j : JS} (h : Head H s now i) (ht : Tells s H j) (n : Nat) {l : List UInt8} (hl : l.length ≤ 2000) (hi : i ≤ 100) (hH : 48 ≤ H) :
    ((repR (armed s n) j H l).2 = 0 ∨ (repR (armed s n) j H l).2 = 9) ∧ (repR (armed s n) j H l).1.q.length ≤ 50 ∧ ∀ picks, ∃ now', Head H (crashed (repR (armed s n) j H l).1 picks) now' (i + 1) ∧ (now' = now ∨ now' = [l]) ∧ ((repR (armed s n) j H l).2 = 0 → now' = [l]) := by
  have hm : manyL l ≤ 48 := by rw [many_is]; omega
  have hn := h.next
  have hps : (partsOf l).length = manyL l := rfl
  unfold repR layR
  rw [if_neg (by rw [show (armed s n).dark = s.dark from rfl, h.light]; decide), ht.frm, ht.next]
  unfold fitsE
  rw [if_neg (show ¬ 524288 < l.length by omega), if_neg (show ¬ 2147483648 < nextT s.laid (2 * H) + (manyL l : Int) - 1 by omega), if_neg (show ¬ (H : Int) < (manyL l : Int) by omega), if_neg (by decide)]
  have hother : (H : Int) - startT H (secondT s.laid H) = startT H (!secondT s.laid H) := by
    unfold startT
    cases secondT s.laid H <;> simp
  rw [hother]
  have hst : 0 ≤ startT H (!secondT s.laid H) ∧ startT H (!secondT s.laid H) ≤ H := by unfold startT; split <;> omega
  have hran := lay_ran (armed s n) (startT H (!secondT s.laid H)) (newBlks (nextT s.laid (2 * H)) (partsOf l)) h.light h.queue (by omega) (by rw [newBlks_len]; show _ ≤ (s.blocks : Int); rw [h.blocks]; omega)
  have hq := wrs_qlen hran
  rw [newBlks_len] at hq
  have hap := fun picks => head_replace h n (parts_ok l) (parts_cut l) (show (partsOf l).length ≤ 50 by omega) (show i ≤ 1000 by omega) (show (partsOf l).length ≤ H by omega) picks
  rw [parts_flatten] at hap
  exact ⟨(hap []).1, by omega, fun picks => (hap picks).2⟩
/-- a disk in the light, of which the power does not go, with nothing in its queue -/
structure Quiet (s : DS) (H K : Nat) : Prop where
  light : s.dark = false
  left : s.left = 0
  queue : s.q = []
  blocks : s.blocks = 2 * H
  steps : s.steps ≤ K
theorem wrs_quiet : ∀ (ls : List Blk) (s : DS) (n : Int), s.dark = false → s.left = 0 → 0 ≤ n → n + ls.length ≤ s.blocks → (wrs s n ls).2 = 0 ∧ (wrs s n ls).1.left = 0 ∧ (wrs s n ls).1.dark = false ∧ (wrs s n ls).1.q = [] ∧ (wrs s n ls).1.young = none'
  | [], s, n, hd, hl, h0, hf => by
    rw [wrs]
    unfold flushS flushE
    rw [hd, hl]
    simp only [Bool.false_eq_true, if_false, Nat.reduceEqDiff, Nat.zero_ne_one]
    refine ⟨by decide, ?_, hd, rfl, rfl⟩
    show (if 1 < s.left then s.left - 1 else s.left) = 0
    rw [hl]
    rfl
  | l :: ls, s, n, hd, hl, h0, hf => by
    simp only [List.length_cons] at hf
    have hin : inB s n = true := by unfold inB; exact decide_eq_true (by omega)
    have hw : writeE s n = 0 := by unfold writeE; rw [hd, hin, hl]; rfl
    have hs : writeS s n l = wrote s n l := by unfold writeS; rw [hd, hin, hl]; rfl
    rw [wrs, hw, if_pos rfl, hs]
    exact wrs_quiet ls (wrote s n l) (n + 1) hd (by show (if 1 < s.left then s.left - 1 else s.left) = 0; rw [hl]; rfl) (by omega) (by show _ ≤ (s.blocks : Int); omega)
theorem quiet_lay {s : DS} {H K : Nat} (h : Quiet s H K) {N : Int} {l : List UInt8} {at' room : Int} (h0 : 0 ≤ at') (hf : at' + (manyL l : Int) ≤ 2 * (H : Int)) (hfit : fitsE N l.length (manyL l) room = 0) : (layR s N l at' room).2 = 0 ∧ Quiet (layR s N l at' room).1 H (K + manyL l + 1) := by
  unfold layR
  rw [if_neg (by rw [h.light]; decide), if_neg (by rw [hfit]; decide)]
  have hw := wrs_quiet (newBlks N (partsOf l)) s at' h.light h.left h0 (by rw [newBlks_len, h.blocks]; show at' + (manyL l : Int) ≤ _; omega)
  have hst := wrs_steps (newBlks N (partsOf l)) s at'
  rw [newBlks_len] at hst
  have hb := wrs_blocks (newBlks N (partsOf l)) s at'
  have := h.steps
  exact ⟨hw.1, hw.2.2.1, hw.2.1, hw.2.2.2.1, hb.trans h.blocks, by show _ ≤ K + (partsOf l).length + 1; omega⟩
theorem quiet_full {s : DS} {H K : Nat} (h : Quiet s H K) {N : Int} {l : List UInt8} {at' room : Int} (hfit : fitsE N l.length (manyL l) room ≠ 0) : layR s N l at' room = (s, fitsE N l.length (manyL l) room) := by
  unfold layR
  rw [if_neg (by rw [h.light]; decide), if_pos hfit]
theorem fits_ok {N : Int} {n : Nat} {m room : Int} (h1 : n ≤ 524288) (h2 : N + m - 1 ≤ 2147483648) (h3 : m ≤ room) : fitsE N n m room = 0 := by
  unfold fitsE
  rw [if_neg (by omega), if_neg (by omega), if_neg (by omega)]
theorem fits_full {N : Int} {n : Nat} {m room : Int} (h1 : n ≤ 524288) (h2 : N + m - 1 ≤ 2147483648) (h3 : room < m) : fitsE N n m room = 10 := by
  unfold fitsE
  rw [if_neg (by omega), if_neg (by omega), if_pos h3]
theorem fresh_next (H k : Nat) : nextToV (fresh (2 * H)) k = 0 := by
  have h := nextToV_tell (readV_tell (s := fresh (2 * H)) rfl rfl rfl (blank_none.within (2 * H)))
  rw [h]
  have := blank_none.next k
  unfold nextT at this
  have e : (fresh (2 * H)).laid = none' := rfl
  rw [e]
  omega
/-- made on a new disk -/
theorem mak_fresh {H : Nat} (hH : 1 ≤ H) {l : List UInt8} (hm : manyL l ≤ H) (hl : l.length ≤ 524288) (hH2 : H ≤ 8192) :
    (makR (fresh (2 * H)) H l).2 = 0 ∧ Quiet (makR (fresh (2 * H)) H l).1 H (manyL l + 4) ∧ makJ (fresh (2 * H)) l = ⟨0, [l], manyL l, 0, 1 + (manyL l : Int)⟩ ∧
      (manyL l = 1 → Head H (makR (fresh (2 * H)) H l).1 [l] 0) ∧ Tells (makR (fresh (2 * H)) H l).1 H (makJ (fresh (2 * H)) l) := by
  have hN := fresh_next H (fresh (2 * H)).blocks
  have hj : makJ (fresh (2 * H)) l = ⟨0, [l], manyL l, 0, 1 + (manyL l : Int)⟩ := by
    unfold makJ tookJ
    rw [hN]
    simp
  have hfit : fitsE (nextToV (fresh (2 * H)) (fresh (2 * H)).blocks + 1) l.length (manyL l) (H : Int) = 0 := fits_ok hl (by rw [hN]; omega) (by omega)
  let f : Tab := upd (upd none' 0 zb) (H : Int) zb
  let s2 : DS := ⟨2 * H, f, none', [], 3, 0, false⟩
  have hR : makR (fresh (2 * H)) H l = wrs s2 0 (newBlks 1 (partsOf l)) := by
    unfold makR
    rw [if_neg (show ¬ (fresh (2 * H)).dark = true by simp [fresh]), hfit, if_neg (by decide)]
    unfold makGs
    rw [hN]
    have i1 : inB (fresh (2 * H)) 0 = true := by unfold inB; exact decide_eq_true (by show (0 : Int) ≤ 0 ∧ 0 < ((2 * H : Nat) : Int); omega)
    have i2 : inB (wrote (fresh (2 * H)) 0 zb) (H : Int) = true := by unfold inB; exact decide_eq_true (by show 0 ≤ (H : Int) ∧ (H : Int) < ((2 * H : Nat) : Int); omega)
    have g1 : wrG 0 zb (fresh (2 * H)) = (wrote (fresh (2 * H)) 0 zb, 0) := by unfold wrG writeS writeE; rw [i1]; rfl
    have g2 : wrG (H : Int) zb (wrote (fresh (2 * H)) 0 zb) = (wrote (wrote (fresh (2 * H)) 0 zb) (H : Int) zb, 0) := by unfold wrG writeS writeE; rw [i2]; rfl
    have g3 : flG (wrote (wrote (fresh (2 * H)) 0 zb) (H : Int) zb) = (s2, 0) := rfl
    show runG (wrG 0 zb :: wrG (H : Int) zb :: flG :: gsOf 0 (newBlks (0 + 1) (partsOf l))) (fresh (2 * H)) = _
    rw [runG_cons, g1, if_pos rfl, runG_cons, g2, if_pos rfl, runG_cons, g3, if_pos rfl, run_wrs]
    rfl
  have hblank : Blank f := (blank_none.upd 0).upd (H : Int)
  have hw := wrs_quiet (newBlks 1 (partsOf l)) s2 0 rfl rfl (Int.le_refl _) (by rw [newBlks_len]; show 0 + (manyL l : Int) ≤ ((2 * H : Nat) : Int); omega)
  have hran := lay_ran s2 0 (newBlks 1 (partsOf l)) rfl rfl (Int.le_refl _) (by rw [newBlks_len]; show 0 + (manyL l : Int) ≤ ((2 * H : Nat) : Int); omega)
  have hst := wrs_steps (newBlks 1 (partsOf l)) s2 0
  rw [newBlks_len] at hst
  have hst' : (wrs s2 0 (newBlks 1 (partsOf l))).1.steps ≤ 3 + manyL l + 1 := hst
  rw [hR, hj]
  generalize wrs s2 0 (newBlks 1 (partsOf l)) = r at *
  obtain ⟨hb, hr⟩ := hran
  have hb' : r.1.blocks = 2 * H := hb
  rcases hr with ⟨h2, hdk, hq0, q, hc, hmq, hlq⟩ | ⟨h2, -⟩
  · have hml := make_laid hblank (parts_ok l) (parts_cut l) (show (partsOf l).length ≤ H from hm) (by show (manyL l : Int) ≤ _; omega) q hc hmq
    have hlaid : r.1.laid = lay q f := hlq
    have hql : q.length = (partsOf l).length := by have := congrArg List.length hmq; rwa [List.length_map, newBlks_len] at this
    have hu : Under 1 f := by
      have := (next_under (hblank.within (2 * H))).1
      rwa [hblank.next] at this
    have hnew := lay_new (partsOf l) 1 0 H q f hm hc hmq (by decide) (by show (1 : Int) + (manyL l : Int) < _; omega) (parts_cut l)
    have hfst : lvs (lay q f) H false = newL 1 (partsOf l) ++ (lvs f H false).drop (partsOf l).length := hnew
    have hcnt : halfN (lvs (lay q f) H false) = ([(partsOf l).flatten], (partsOf l).length, 1 + ((partsOf l).length : Int) - 1) := by
      rw [hfst]
      exact new_counts (parts_ok l) ((hu.small _ _).drop _) (Int.le_refl _) (by decide) _
    have hsnd : lvs (lay q f) H true = lvs f H true := lvs_same fun p h1 h2 => lay_out q 0 p f hc (.inr (by simp [startT] at h1 ⊢; rw [hql]; show (manyL l : Int) ≤ p; omega))
    have hb2 : beginN (lvs f H true) = 0 := by
      unfold beginN
      rw [half_low (by rw [hblank.lvs]; exact Int.le_refl _), if_pos rfl]
    have hsec : secondT (lay q f) H = false := by
      unfold secondT secondN
      rw [hsnd, hb2]
      have := begin_nonneg (lvs (lay q f) H false)
      exact decide_eq_false (by omega)
    rw [parts_flatten] at hml
    refine ⟨h2, ⟨hdk, hw.2.1, hq0, hb', by omega⟩, rfl, fun h1 => ⟨hdk, hq0, hw.2.2.2.2, hb', by rw [hlaid]; exact hml.2.2.2, by rw [hlaid]; exact hml.1, by rw [hlaid]; exact hml.2.1, ?_, by omega⟩, ⟨?_, ?_, ?_, ?_⟩⟩
    · rw [hlaid, hml.2.2.1]
      show (1 : Int) + (manyL l : Int) ≤ _
      omega
    · rw [hlaid]; exact hml.2.1.symm
    · rw [hlaid]
      unfold usedT
      rw [hsec, hcnt]
      rfl
    · rw [hlaid, hsec]; rfl
    · rw [hlaid, hml.2.2.1]; rfl
  · exfalso
    have := hw.1
    omega

end Go.Proofs.Ytdjjlhfgfogdeaa

/- Rows of bytes whose spare room is bytes, too: append, Clone, Wide, Spoil. -/
namespace Go.Proofs.Ytdjjlhfgfogdeaa
open Go.RowKit Go.Shelf
set_option linter.unusedVariables false
set_option maxRecDepth 100000
set_option linter.unusedSimpArgs false

/-- nothing, or the head of a block of bytes, the room behind it, too -/
def TyB (w : World) (v : Value) : Prop := v = .slice none 0 0 ∨ ∃ g n cap cur, v = .slice (some ⟨g, 0, none⟩) n cap ∧ Cs w g 5 cur ∧ cur.size = cap ∧ cap ≤ maxLen ∧ cur.toList.all isU8 = true
theorem TyB.turn {w w' : World} {v : Value} {G : Nat → Prop} (h : TyB w v) (ht : Turn w w' G) (hG : ∀ k, v.ownBlock = some k → ¬ G k) : TyB w' v := by
  rcases h with h | ⟨g, n, cap, cur, rfl, hc, h1, h2, h3⟩
  · exact .inl h
  · exact .inr ⟨g, n, cap, cur, rfl, hc.turn ht (hG g rfl), h1, h2, h3⟩
theorem TyB.below {w w' : World} {v : Value} (h : TyB w v) (hb : Below w.heap.size w w') : TyB w' v := h.turn (Turn.of_below hb fun _ => False) fun _ _ h => h
theorem TyB.len {w : World} {g n m cap : Nat} (h : TyB w (.slice (some ⟨g, 0, none⟩) n cap)) : TyB w (.slice (some ⟨g, 0, none⟩) m cap) := by
  rcases h with h | ⟨g, n, cap, cur, h, r⟩
  · cases h
  · cases h
    exact .inr ⟨_, _, _, _, rfl, r⟩
theorem zeroCells_u8 (n : Nat) : (Builtin.zeroCells (Value.int .u8 0).cells n).toList.all isU8 = true := by
  rw [List.all_eq_true]
  intro v hv
  have : v = .int .u8 0 := by
    obtain ⟨i, hi, e⟩ := List.getElem_of_mem hv
    simp [Builtin.zeroCells, Value.cells, Nat.mod_one] at e
    exact e.symm
  subst this
  rfl
theorem append_ty {w : World} (ty : TypeId) {base n : Nat} {v : Value} {xs l : List UInt8} (hown : w.ownsRow base 5 1 v n (cellsOf xs)) (hty : TyB w v) (ad : Addr) (c : Nat) (hnews : ∀ j u, (cellsOf l)[j]? = some u → w.cell? (ad.add j) = some u) (hb : n + l.length ≤ 140737488355328)
    {v' : Value} {w' : World} (hrun : (Builtin.append_ #[31, 31] ty #[v, .slice (some ad) l.length c]).run Try.prog w = .ok v' w') : TyB w' v' := by
  obtain ⟨i0, hi, hz0, hz1, hz2⟩ := info_parts Try_info5
  have hcl := cellsOf_length l
  have hml : n + l.length ≤ maxLen := by simp only [maxLen]; omega
  have huxs := cells_u8 xs
  have hul := cells_u8 l
  have hlen := hown.1
  rw [Nat.mul_one] at hlen
  have grown : ∀ (old : Nat), TyB (w.drew.alloc (.cells ((cellsOf xs).toArray ++ (cellsOf l).toArray ++ Builtin.zeroCells (Value.int .u8 0).cells (grownCap w (n + l.length) old 5 - (n + l.length))) 5)) (.slice (some ⟨w.heap.size, 0, none⟩) (n + l.length) (grownCap w (n + l.length) old 5)) := fun old => by
    have hge := grownCap_ge w (n + l.length) old 5
    refine .inr ⟨_, _, _, _, rfl, heap_alloc_new w.drew _, ?_, grownCap_le_maxLen w _ old _ hml, ?_⟩
    · simp only [Array.size_append, List.size_toArray, size_zeroCells, hlen, hcl, Value.cells]
      simp only [List.size_toArray, List.length_cons, List.length_nil]
      omega
    · simp only [Array.toList_append, List.all_append, huxs, hul, zeroCells_u8, Bool.and_true]
  rcases hown.2 with ⟨rfl, rfl⟩ | ⟨g, cap, cur, rfl, hbg, hg, hnc, hcm, hcs, htake⟩
  · have hx : cellsOf xs = [] := List.eq_nil_of_length_eq_zero (by simpa using hown.1)
    by_cases hm : l.length = 0
    · have hl : l = [] := List.eq_nil_of_length_eq_zero hm
      subst hl
      have e1 : (Builtin.append_ #[31, 31] ty #[.slice none 0 0, .slice (some ad) ([] : List UInt8).length c]).run Try.prog w = .ok (.slice none 0 0) w := by
        simp [Builtin.append_, run_underlying Try.underlying31, sizeOf, typeInfo, hi, Builtin.lenOf, Builtin.firstCells, loadCells, loadCellsFrom]
      rw [e1] at hrun
      cases hrun
      exact .inl rfl
    · have hr := run_append_nil (P := Try.prog) w 31 ty 5 i0 (.int .u8 0) Try.underlying31 hi hz0 ad l.length c (cellsOf l) (by rw [hcl, hz1, Nat.mul_one]) hnews (by omega) (by omega) (by rw [hz2]; omega)
      rw [hr] at hrun
      cases hrun
      have := grown 0
      rw [hx, Nat.zero_add] at this
      simpa using this
  · by_cases hroom : n + l.length ≤ cap
    · have hfit : n * i0.size + (cellsOf l).length ≤ cur.size := by rw [hcl, hcs, hz1]; omega
      have hr := run_append_room (P := Try.prog) w 31 ty 5 i0 Try.underlying31 hi g n cap cur hg ad l.length c (cellsOf l) (by rw [hcl, hz1, Nat.mul_one]) hnews (cellsOf_one l) hroom hfit
      rw [hr] at hrun
      cases hrun
      have hcur : cur.toList.all isU8 = true := by
        rcases hty with h | ⟨g', n', cap', cur', h, hc', -, -, h3⟩
        · cases h
        · cases h
          have : cur' = cur := by
            unfold Cs at hc'
            rw [hg] at hc'
            cases hc'
            rfl
          rwa [this] at h3
      refine .inr ⟨g, _, cap, _, rfl, setRow_heap w g cur _ 5 _ hg, ?_, hcm, ?_⟩
      · simp only [List.size_toArray, List.length_append, List.length_take, List.length_drop, Array.length_toList]
        omega
      · rw [List.all_eq_true] at hcur
        simp only [List.all_append, hul, Bool.and_eq_true, Bool.true_and, and_true, List.all_eq_true]
        exact ⟨fun x hx => hcur x (List.mem_of_mem_take hx), fun x hx => hcur x (List.mem_of_mem_drop hx)⟩
    · have holds : ∀ j u, (cellsOf xs)[j]? = some u → w.cell? ((⟨g, 0, none⟩ : Addr).add j) = some u := hown.cells (g := g) rfl
      have hr := run_append_grow (P := Try.prog) w 31 ty 5 i0 (.int .u8 0) Try.underlying31 hi hz0 ⟨g, 0, none⟩ n cap (cellsOf xs) (by rw [hlen, hz1, Nat.mul_one]) holds ad l.length c (cellsOf l) (by rw [hcl, hz1, Nat.mul_one]) hnews (by omega) (by omega) (growslice_fits (by omega) (by rw [hz2]; omega))
      rw [hr] at hrun
      cases hrun
      exact grown cap
/-- append of bytes to a row of bytes -/
theorem append_rd_ty {w : World} {ops : Array Oper} {rest : List Oper} {o : Oper} {a : Act} {Q : Exit → Act → World → Prop} (hgd : o.guard = none) (s x : Operand)
    (ho : o.op = .call { callee := .builtin .append, args := #[s, x], argTypes := #[31, 31] })
    (base : Nat) (v : Value) (n : Nat) (xs : List UInt8) (hs : a.eval s = v) (hown : w.ownsRow base 5 1 v n (cellsOf xs)) (hty : TyB w v)
    (A : Option Addr) (l : List UInt8) (m c : Nat) (hm : m = l.length) (hx : a.eval x = .slice A m c) (hr : Rd w A l) (hA : A = none → l = [] ∧ c = 0) (hb : n + m ≤ 140737488355328) (hbase : base ≤ w.heap.size)
    (h : ∀ v' w', w'.ownsRow base 5 1 v' (n + m) (cellsOf (xs ++ l)) → TyB w' v' → w.grownBy w' v.ownBlock → wpList Try.prog ops Q rest (a.put o.dst v') w') : wpList Try.prog ops Q (o :: rest) a w := by
  obtain ⟨i0, hi, hz0, hz1, hz2⟩ := info_parts Try_info5
  subst hm
  rcases A with _ | ad
  · obtain ⟨rfl, rfl⟩ := hA rfl
    refine wpList_append_own_none hgd s x 31 ho base 5 i0 1 Try.underlying31 hi v n (cellsOf xs) hs hown hx ?_
    refine h v w ?_ hty (World.grownBy.refl w _)
    rw [List.append_nil]
    exact hown
  · obtain ⟨v', w', hrun, r1, r2, r3⟩ := run_append_own (P := Try.prog) w base 31 o.type 5 i0 (.int .u8 0) 1 1 Try.underlying31 hi hz0 hz1 hz2 rfl (by decide) v n (cellsOf xs) hown ad l.length c (cellsOf l) (by rw [cellsOf_length, Nat.mul_one]) (rd_cells hr) (cellsOf_one l) (by simp only [maxLen]; omega) (by omega) hbase
    have hty' := append_ty o.type hown hty ad c (rd_cells hr) hb hrun
    refine wpList_plain hgd fun K hK => ?_
    unfold Oper.wp execOp
    simp only [ho, resolve, invoke, builtin, Sem.run_bind, Sem.run_pure, Result.andThen_ok, List.map_toArray, List.map_cons, List.map_nil, hs, hx, hrun]
    rw [← cellsOf_append] at r1
    exact hK _ _ (h v' w' r1 hty' r2)
/-- what Clone hands back: bytes in new memory, the room behind them bytes -/
def BsTy (l : List UInt8) (w : World) (e : Ending) (w' : World) : Prop := ∃ v, e = .returned v ∧ BsV w' (w.heap.size ≤ ·) v l ∧ TyB w' v ∧ (∀ k, v.ownBlock = some k → w.heap.size ≤ k) ∧ Below w.heap.size w w'
theorem Clone_ty (l : List UInt8) (A : Option Addr) (c : Nat) (w : World) (hl : l.length ≤ 140737488355328) (hr : Rd w A l) (hA : A = none → l = [] ∧ c = 0) :
    Calls Try.prog 37 #[.slice A l.length c] w fun e w' => BsTy l w e w' := by
  rcases A with _ | ⟨b, off, sp⟩
  · obtain ⟨rfl, rfl⟩ := hA rfl
    have hq := run_eql_slice_nil (P := Try.prog) w 31 5 none 0 0 Try.underlying31
    simp only [Option.isNone_none] at hq
    go_enter Try.func37, Try.ntmps37
    go_wp2
    go_ret
    exact ⟨_, rfl, BsV.nil _ _, .inl rfl, (fun k h => by cases h), Below.refl _ _⟩
  · have HR := Lib.hid hr
    have hq := run_eql_slice_nil (P := Try.prog) w 31 5 (some ⟨b, off, sp⟩) l.length c Try.underlying31
    simp only [Option.isNone_some] at hq
    clear hr hA
    go_enter Try.func37, Try.ntmps37
    go_wp2_with (first | (at_builtin; refine append_rd_ty rfl (.tmp 5) (.tmp 6) rfl w.heap.size (.slice (some ⟨w.heap.size, 0, none⟩) 0 0) 0 [] rfl (World.ownsRow_lit w #[] 0 (Nat.le_refl _) (Nat.zero_le _) rfl) (.inr ⟨_, _, _, #[], rfl, Cs.new _ _ _, rfl, Nat.zero_le _, rfl⟩) (some ⟨b, off, sp⟩) l l.length c rfl rfl (HR.out.below ((Below.refl _ _).alloc (Nat.le_refl _) _)) (fun h => by cases h) (by omega) (by simp) ?_; intro v' w' hown hty hg; go_frame; have HO := Lib.hid hown; have HT := Lib.hid hty; have HG := Lib.hid hg; clear hown hty hg))
    go_ret
    have ho := HO.out
    rw [Nat.zero_add, List.nil_append] at ho
    exact ⟨_, rfl, BsV.own ho, HT.out, own_base ho, ((Below.refl _ _).alloc (Nat.le_refl _) _).grown HG.out (by simp) (fun k e => by cases e; exact Nat.le_refl _)⟩

end Go.Proofs.Ytdjjlhfgfogdeaa

/- Batches: what counts, in new memory. -/
namespace Go.Proofs.Ytdjjlhfgfogdeaa
open Go.RowKit Go.Shelf
set_option linter.unusedVariables false
set_option maxRecDepth 100000
set_option linter.unusedSimpArgs false

/-- an owned row of slices that read, each with bytes in the room behind it -/
structure OwnV (w : World) (base : Nat) (F : Nat → Prop) (v : Value) (vs : List Value) (ls : List (List UInt8)) : Prop where
  row : w.ownsRow base 31 1 v ls.length vs
  rd : BsL w (fun k => F k ∧ v.ownBlock ≠ some k) vs ls
  sub : ∀ k, v.ownBlock = some k → F k
  ty : ∀ u ∈ vs, TyB w u
  new : ∀ u ∈ vs, ∀ k, u.ownBlock = some k → base ≤ k
theorem OwnV.r {w : World} {base : Nat} {F : Nat → Prop} {v : Value} {vs : List Value} {ls : List (List UInt8)} (h : OwnV w base F v vs ls) : OwnR w base F v ls := ⟨⟨vs, h.row, h.rd⟩, h.sub⟩
theorem OwnV.nil (w : World) (base : Nat) (F : Nat → Prop) : OwnV w base F (.slice none 0 0) [] [] := ⟨World.ownsRow_nil _ _ _ _, BsL.nil _ _, (fun k h => by cases h), (fun u h => by cases h), (fun u h => by cases h)⟩
theorem OwnV.below {w w' : World} {base : Nat} {F : Nat → Prop} {v : Value} {vs : List Value} {ls : List (List UInt8)} (h : OwnV w base F v vs ls) (hb : Below w.heap.size w w') : OwnV w' base F v vs ls :=
  ⟨own_below h.row hb, h.rd.below hb, h.sub, (fun u hu => (h.ty u hu).below hb), h.new⟩
theorem append_bv {w : World} {ops : Array Oper} {rest : List Oper} {o : Oper} {a : Act} {Q : Exit → Act → World → Prop} (hgd : o.guard = none) (s x : Operand) (ho : o.op = .call { callee := .builtin .append, args := #[s, x], argTypes := #[30, 30] })
    (base : Nat) (F : Nat → Prop) (v : Value) (vs : List Value) (ls : List (List UInt8)) (hs : a.eval s = v) (hown : OwnV w base F v vs ls)
    (g c : Nat) (hx : a.eval x = .slice (some ⟨g, 0, none⟩) 1 c) (y : Value) (l : List UInt8) (hy : BsV w (fun k => F k ∧ v.ownBlock ≠ some k) y l) (hyt : TyB w y) (hyn : ∀ k, y.ownBlock = some k → base ≤ k) (hc : w.cell? ⟨g, 0, none⟩ = some y) (hb : ls.length + 1 ≤ 1099511627776) (hbase : base ≤ w.heap.size) (hF : F w.heap.size)
    (h : ∀ v' w', OwnV w' base F v' (vs ++ [y]) (ls ++ [l]) → w.grownBy w' v.ownBlock → wpList Try.prog ops Q rest (a.put o.dst v') w') : wpList Try.prog ops Q (o :: rest) a w := by
  obtain ⟨i0, hi, hz0, hz1, hz2⟩ := info_parts infoBs
  obtain ⟨h1, h2, h3, h4, h5⟩ := hown
  have hye : BsL w (fun k => F k ∧ v.ownBlock ≠ some k) [y] [l] := (BsL.nil w _).snoc hy
  obtain ⟨v', w', hrun, r1, r2, r3, r4⟩ := run_append_own_at (P := Try.prog) w base 30 o.type 31 i0 (.slice none 0 0) 1 24 Try.underlying30 hi hz0 hz1 hz2 rfl (by decide) v ls.length vs h1 ⟨g, 0, none⟩ 1 c [y] rfl
    (fun j u hu => by
      cases j with
      | zero => cases hu; exact hc
      | succ j => simp at hu) hye.cell1 (by simp only [maxLen]; omega) (by omega) hbase
  have hturn : Turn w w' fun k => v.ownBlock = some k := Turn.of_grown r2
  have htn : ∀ u, TyB w u → TyB w' u := fun u hu => hu.turn hturn fun k hk hk' => by
    obtain ⟨_, cs, hcs⟩ := own_blk h1 hk'
    rcases hu with rfl | ⟨g', n, cap, cur, rfl, hc', _⟩
    · cases hk
    · cases hk
      exact Cs.ne hc' hcs (by decide) rfl
  refine wpList_plain hgd fun K hK => ?_
  unfold Oper.wp execOp
  simp only [ho, resolve, invoke, builtin, Sem.run_bind, Sem.run_pure, Result.andThen_ok, List.map_toArray, List.map_cons, List.map_nil, hs, hx, hrun]
  refine hK _ _ (h v' w' ⟨by rw [List.length_append]; exact r1, ?_, (fun k hk => ?_), (fun u hu => ?_), (fun u hu => ?_)⟩ r2)
  · have e1 : BsL w (fun k => (F k ∧ v'.ownBlock ≠ some k) ∧ v.ownBlock ≠ some k) (vs ++ [y]) (ls ++ [l]) := (h2.append hye).mono fun k hk hh => ⟨⟨hh.1, fun e => by
      rcases r4 with r4 | r4
      · exact hh.2 (r4.symm.trans e)
      · rw [r4] at e
        cases e
        exact Nat.lt_irrefl _ hk⟩, hh.2⟩
    exact (e1.turn hturn fun k hk => hk.2).mono fun k _ hk => hk.1
  · rcases r4 with r4 | r4
    · exact h3 k (r4.symm.trans hk)
    · rw [r4] at hk
      cases hk
      exact hF
  · rcases List.mem_append.1 hu with hu | hu
    · exact htn u (h4 u hu)
    · rw [List.mem_singleton] at hu
      subst hu
      exact htn _ hyt
  · rcases List.mem_append.1 hu with hu | hu
    · exact h5 u hu
    · rw [List.mem_singleton] at hu
      subst hu
      exact hyn
/-- what Batches hands back -/
def BatRet (ls : List (List UInt8)) (w : World) (e : Ending) (w' : World) : Prop := ∃ v vs, e = .returned v ∧ OwnV w' w.heap.size (w.heap.size ≤ ·) v vs ls ∧ Below w.heap.size w w'
set_option maxHeartbeats 4000000 in
theorem Batches_v {w : World} {jb d : Nat} {v : Value} {j : JS} {s : DS} {Hf : Nat} {F : Nat → Prop} (h : OnJ w jb d v j s Hf F) (hb : ∀ b ∈ j.batches, b.length ≤ 1000000) :
    Calls Try.prog 14 #[.pointer (some ⟨jb, 0, none⟩)] w fun e w' => BatRet j.batches w e w' := by
  obtain ⟨FD, FJ, h1, h2, h3, h4, h5, h6, h7, h8⟩ := h
  have hc : Cs w jb 56 #[.pointer (some ⟨d, 0, none⟩), .int .i64 (j.frm : Int), v, .int .i64 (j.used : Int), .int .u32 j.first, .int .u64 j.next] := h2.cells
  have c0 := hc.cell 0 rfl
  have c2 := hc.cell 2 rfl
  have hn := isNoneJ_some jb d w c0
  obtain ⟨Av, cv, hv, hrd, hf1, hf2, hf3⟩ := h2.own.form
  subst hv
  have hfew : j.batches.length ≤ 8192 := Nat.le_trans h2.few.1 h2.few.2.1
  have HRD := Lib.hid hrd
  have HB := Lib.hid hb
  generalize j.batches = ls at *
  clear hb h1 h2 h3 h4 h5 h6 h7 h8 hc c0 hrd hf1 hf2 hf3
  go_enter Try.func14, Try.ntmps14
  go_wp2_with fail
  refine hn.mono ?_
  clear hn
  rintro e w' ⟨rfl, rfl⟩
  go_wp2_with fail
  go_loopw [3, 14] (fun x i wr => ∃ (k : Nat) (vs : List Value), k ≤ ls.length ∧ i = .int .i64 (k : Int) ∧ OwnV wr w.heap.size (w.heap.size ≤ ·) x vs (ls.take k) ∧ Below w.heap.size w wr) (fun _ i _ => ls.length - (intOf i).toNat)
  case atStart => exact ⟨0, [], Nat.zero_le _, rfl, OwnV.nil _ _ _, Below.refl _ _⟩
  case round =>
    obtain ⟨k, vs, hk, rfl, ho, hb⟩ := hrel
    have HO := Lib.hid ho
    have HBL := Lib.hid hb
    clear ho hb
    by_cases hlt : k < ls.length
    · have hlt' : (k : Int) < (ls.length : Int) := by omega
      have hget := HRD.out.get k hlt
      have hlk := HB.out _ (List.getElem_mem hlt)
      have htk : ls.take (k + 1) = ls.take k ++ [ls[k]] := by rw [List.take_add_one, List.getElem?_eq_getElem hlt]; rfl
      have HTK := Lib.hid htk
      clear htk
      generalize ls[k] = b at *
      obtain ⟨bb, off, A', c', rfl, hcell, hbf, hbn, hb1, hb2⟩ := hget
      have cc := (HBL.out.cell (lt_of_cell hcell)).trans hcell
      have hcl := Clone_ty b A' c' wr (by omega) ((hbf.rd).keep fun p u hu => (HBL.out.cell (lt_of_cell hu)).trans hu) hbn
      have HL := Lib.hid hlt
      have HCL := Lib.hid hcl
      clear hcell hbf hbn hcl hlt
      go_wp2_with fail
      refine HCL.out.mono ?_
      clear HCL
      rintro e w1 ⟨v1, rfl, hv1, ht1, hn1, hb1'⟩
      obtain ⟨A1, c1, rfl, -⟩ := id hv1
      have HV1 := Lib.hid hv1
      have HT1 := Lib.hid ht1
      have HN1 := Lib.hid hn1
      have HB1 := Lib.hid hb1'
      have bW := Lib.hid ((Below.refl w1.heap.size w1).alloc (Nat.le_refl _) (.cells #[.slice A1 b.length c1] 31))
      have kW := Lib.hid ((Cs.new w1 31 #[.slice A1 b.length c1]).cell 0 rfl)
      have hz := HBL.out.size
      have hz1 := HB1.out.size
      clear hv1 ht1 hn1 hb1'
      have htl : (ls.take k).length ≤ 8192 := by rw [List.length_take]; omega
      go_wp2_with (first
        | (at_builtin; refine append_bv rfl _ _ rfl w.heap.size (w.heap.size ≤ ·) _ vs (ls.take k) rfl ((HO.out.below HB1.out).below bW.out) w1.heap.size 1 rfl (.slice A1 b.length c1) b ((HV1.out.below bW.out).mono fun q _ hq => ⟨Nat.le_trans hz hq, fun e => by have := (own_blk HO.out.row e).2; obtain ⟨cs, hcs⟩ := this; have := hcs.lt; exact absurd this (Nat.not_lt.2 hq)⟩) (HT1.out.below bW.out) (fun q e => Nat.le_trans hz (HN1.out q e)) kW.out (by omega) (by simp; omega) (by simp; omega) ?_; intro v2 w2 ho2 hg2; have HO2 := Lib.hid ho2; have HB2 := Lib.hid ((HBL.out.trans ((HB1.out.trans (bW.out.mono HB1.out.size)).mono hz)).grown hg2 (Nat.le_trans hz (Nat.le_trans HB1.out.size bW.out.size)) fun q e => (own_blk HO.out.row e).1); clear ho2 hg2))
      go_roundw
      case rel => exact ⟨k + 1, _, HL.out, by go_num, by rw [HTK.out]; exact HO2.out, HB2.out⟩
      case measure => have := HL.out; simp [intOf]; omega
    · obtain rfl : k = ls.length := by omega
      go_wp2_with fail
      go_ret
      have := HO.out
      rw [List.take_length] at this
      exact ⟨_, vs, rfl, this, HBL.out⟩

end Go.Proofs.Ytdjjlhfgfogdeaa

/- Steps of a journal whose power does not go, for the one example. -/
namespace Go.Proofs.Ytdjjlhfgfogdeaa
open Go.RowKit Go.Shelf
set_option linter.unusedVariables false
set_option maxRecDepth 100000
set_option linter.unusedSimpArgs false

theorem TyB.nil (w : World) : TyB w (.slice none 0 0) := .inl rfl
theorem quiet_app {s : DS} {H K : Nat} {j : JS} {l : List UInt8} (h : Quiet s H K) (hl : l.length ≤ 524288) (hu : j.used + manyL l ≤ H) (hf : j.frm ≤ H) (hn : j.next + (manyL l : Int) - 1 ≤ 2147483648) : (appR s j H l).2 = 0 ∧ Quiet (appR s j H l).1 H (K + manyL l + 1) ∧ appJ s j H l = tookJ j l := by
  have hq := quiet_lay h (N := j.next) (l := l) (at' := (j.frm : Int) + (j.used : Int)) (room := (H : Int) - (j.used : Int)) (by omega) (by omega) (fits_ok hl hn (by omega))
  refine ⟨hq.1, hq.2, ?_⟩
  unfold appJ
  rw [if_pos (show (appR s j H l).2 = 0 from hq.1)]
theorem quiet_app_full {s : DS} {H K : Nat} {j : JS} {l : List UInt8} (h : Quiet s H K) (hl : l.length ≤ 524288) (hu : H < j.used + manyL l) (hn : j.next + (manyL l : Int) - 1 ≤ 2147483648) : appR s j H l = (s, 10) ∧ appJ s j H l = j := by
  have hf := fits_full (N := j.next) (n := l.length) (m := (manyL l : Int)) (room := (H : Int) - (j.used : Int)) hl hn (by omega)
  have hq := quiet_full h (N := j.next) (l := l) (at' := (j.frm : Int) + (j.used : Int)) (room := (H : Int) - (j.used : Int)) (by rw [hf]; decide)
  rw [hf] at hq
  have hq' : appR s j H l = (s, 10) := hq
  refine ⟨hq', ?_⟩
  unfold appJ
  rw [hq', if_neg (show ¬ (10 : Int) = 0 by decide)]
theorem quiet_rep {s : DS} {H K : Nat} {j : JS} {l : List UInt8} (h : Quiet s H K) (hl : l.length ≤ 524288) (hu : manyL l ≤ H) (hf : j.frm ≤ H) (hn : j.next + (manyL l : Int) - 1 ≤ 2147483648) : (repR s j H l).2 = 0 ∧ Quiet (repR s j H l).1 H (K + manyL l + 1) ∧ repJ s j H l = tookJ ⟨H - j.frm, [], 0, 0, j.next⟩ l := by
  have hq := quiet_lay h (N := j.next) (l := l) (at' := (H : Int) - (j.frm : Int)) (room := (H : Int)) (by omega) (by omega) (fits_ok hl hn (by omega))
  refine ⟨hq.1, hq.2, ?_⟩
  unfold repJ
  rw [if_pos (show (repR s j H l).2 = 0 from hq.1)]
/-- a journal on a quiet disk, in memory that is newer than w0 -/
def LV (H : Nat) (w0 u : World) (jb d : Nat) (bts : List (List UInt8)) (used frm : Nat) (next : Int) (K : Nat) : Prop :=
  Turn w0 u (w0.heap.size ≤ ·) ∧ ∃ v s, OnJ u jb d v ⟨frm, bts, used, 0, next⟩ s H (w0.heap.size ≤ ·) ∧ Quiet s H K
theorem LV.below {H : Nat} {w0 u u' : World} {jb d : Nat} {bts : List (List UInt8)} {used frm : Nat} {next : Int} {K : Nat} (h : LV H w0 u jb d bts used frm next K) (hb : Below u.heap.size u u') : LV H w0 u' jb d bts used frm next K := by
  obtain ⟨h1, v, s, h2, h3⟩ := h
  exact ⟨h1.trans (Turn.of_below hb _) fun _ _ h => h, v, s, h2.below hb, h3⟩
theorem LV.out {H : Nat} {w0 u : World} {jb d : Nat} {bts : List (List UInt8)} {used frm : Nat} {next : Int} {K : Nat} (h : LV H w0 u jb d bts used frm next K) : Below w0.heap.size w0 u := h.1.below (Nat.le_refl _) fun _ h => h
/-- where bytes that are handed in lie: nowhere, in old memory, or in a block that is newer than the journal's -/
def Apart (w0 u : World) (A : Option Addr) : Prop := ∀ b off, A = some ⟨b, off, none⟩ → b < w0.heap.size ∨ u.heap.size ≤ b
/-- the journal's blocks, with room for what is made, without those of bytes that are handed in -/
def Fof (w0 : World) (A : Option Addr) (k : Nat) : Prop := w0.heap.size ≤ k ∧ ∀ b off, A = some ⟨b, off, none⟩ → k ≠ b
theorem rdf_of {w0 u : World} {A : Option Addr} {l : List UInt8} (hr : Rd u A l) : RdF u (fun k => ¬ Fof w0 A k) A l := hr.f fun b off e _ h => h.2 b off e rfl
theorem LV.lent {H : Nat} {w0 u u' : World} {jb d : Nat} {bts : List (List UInt8)} {used frm : Nat} {next : Int} {K : Nat} (h : LV H w0 u jb d bts used frm next K) {A : Option Addr} (hA : Apart w0 u A) (hb : Below u.heap.size u u') : Turn w0 u' (w0.heap.size ≤ ·) ∧ ∃ v s, OnJ u' jb d v ⟨frm, bts, used, 0, next⟩ s H (Fof w0 A) ∧ Quiet s H K := by
  obtain ⟨h1, v, s, h2, h3⟩ := h
  exact ⟨h1.trans (Turn.of_below hb _) fun _ _ h => h, v, s, (h2.mono fun k hk hh => ⟨hh, fun b off e => by rcases hA b off e with h | h <;> omega⟩).below hb, h3⟩
/-- blocks that are made: none is that of bytes that are there -/
theorem fof_new {w0 u : World} {A : Option Addr} (hw : w0.heap.size ≤ u.heap.size) (hl : ∀ b off, A = some ⟨b, off, none⟩ → b < u.heap.size) : ∀ k, u.heap.size ≤ k → Fof w0 A k := fun k hk => ⟨Nat.le_trans hw hk, fun b off e => by have := hl b off e; omega⟩
theorem LV.back {H : Nat} {w0 u u' : World} {jb d : Nat} {v : Value} {j : JS} {s : DS} {K : Nat} {A : Option Addr} (h1 : Turn w0 u (w0.heap.size ≤ ·)) (ho : OnJ u' jb d v j s H (Fof w0 A)) (ht : Turn u u' (Fof w0 A)) (hq : Quiet s H K) (hf : j.first = 0) : LV H w0 u' jb d j.batches j.used j.frm j.next K := by
  refine ⟨h1.trans ht fun _ _ h => h.1, v, s, ?_, hq⟩
  have : (⟨j.frm, j.batches, j.used, 0, j.next⟩ : JS) = j := by rw [← hf]
  rw [this]
  exact ho.mono fun k _ hh => hh.1
set_option maxHeartbeats 1000000 in
theorem live_app {H : Nat} {w0 u u' : World} {jb d : Nat} {bts : List (List UInt8)} {used frm : Nat} {next : Int} {K : Nat} {A : Option Addr} {c : Nat} {l : List UInt8} (h : LV H w0 u jb d bts used frm next K) (hA : Apart w0 u A) (hb : Below u.heap.size u u') (hal : ∀ b off, A = some ⟨b, off, none⟩ → b < u'.heap.size) (hr : Rd u' A l) (hn : A = none → l = [] ∧ c = 0) (hlc : l.length ≤ c) (hc : c ≤ maxLen)
    (hl : l.length ≤ 524288) (hu : used + manyL l ≤ H) (hx : next + (manyL l : Int) ≤ 100000) (hK : K ≤ 100000) :
    Calls Try.prog 11 #[.pointer (some ⟨jb, 0, none⟩), .slice A l.length c] u' fun e w' => e = .returned (.int .i64 0) ∧ LV H w0 w' jb d (bts ++ [l]) (used + manyL l) frm (next + (manyL l : Int)) (K + manyL l + 1) := by
  obtain ⟨h1, v, s, h2, h3⟩ := h.lent hA hb
  have hfr : frm ≤ H := by obtain ⟨_, _, _, _, _, _, _, _, _, h8⟩ := h2; exact h8
  have hst := h3.steps
  refine (Append_v (A := A) (c := c) l h2 (fof_new h1.size hal) (rdf_of hr) hn hlc hc (by omega) (by rw [h3.queue]; decide)).mono ?_
  rintro e w' ⟨rfl, v', ho, ht⟩
  obtain ⟨q1, q2, q3⟩ := quiet_app (j := ⟨frm, bts, used, 0, next⟩) h3 hl hu hfr (show next + (manyL l : Int) - 1 ≤ 2147483648 by omega)
  rw [q1]
  rw [q3] at ho
  exact ⟨rfl, LV.back h1 ho ht q2 rfl⟩
set_option maxHeartbeats 1000000 in
theorem live_full {H : Nat} {w0 u u' : World} {jb d : Nat} {bts : List (List UInt8)} {used frm : Nat} {next : Int} {K : Nat} {A : Option Addr} {c : Nat} {l : List UInt8} (h : LV H w0 u jb d bts used frm next K) (hA : Apart w0 u A) (hb : Below u.heap.size u u') (hal : ∀ b off, A = some ⟨b, off, none⟩ → b < u'.heap.size) (hr : Rd u' A l) (hn : A = none → l = [] ∧ c = 0) (hlc : l.length ≤ c) (hc : c ≤ maxLen)
    (hl : l.length ≤ 524288) (hu : H < used + manyL l) (hx : next + (manyL l : Int) ≤ 100000) (hK : K ≤ 100000) :
    Calls Try.prog 11 #[.pointer (some ⟨jb, 0, none⟩), .slice A l.length c] u' fun e w' => e = .returned (.int .i64 10) ∧ LV H w0 w' jb d bts used frm next K := by
  obtain ⟨h1, v, s, h2, h3⟩ := h.lent hA hb
  have hst := h3.steps
  refine (Append_v (A := A) (c := c) l h2 (fof_new h1.size hal) (rdf_of hr) hn hlc hc (by omega) (by rw [h3.queue]; decide)).mono ?_
  rintro e w' ⟨rfl, v', ho, ht⟩
  obtain ⟨q1, q3⟩ := quiet_app_full (j := ⟨frm, bts, used, 0, next⟩) h3 hl hu (show next + (manyL l : Int) - 1 ≤ 2147483648 by omega)
  rw [q3, q1] at ho
  rw [q1]
  exact ⟨rfl, LV.back h1 ho ht h3 rfl⟩
set_option maxHeartbeats 1000000 in
theorem live_rep {H : Nat} {w0 u u' : World} {jb d : Nat} {bts : List (List UInt8)} {used frm : Nat} {next : Int} {K : Nat} {A : Option Addr} {c : Nat} {l : List UInt8} (h : LV H w0 u jb d bts used frm next K) (hA : Apart w0 u A) (hb : Below u.heap.size u u') (hal : ∀ b off, A = some ⟨b, off, none⟩ → b < u'.heap.size) (hr : Rd u' A l) (hn : A = none → l = [] ∧ c = 0) (hlc : l.length ≤ c) (hc : c ≤ maxLen)
    (hl : l.length ≤ 524288) (hu : manyL l ≤ H) (hx : next + (manyL l : Int) ≤ 100000) (hK : K ≤ 100000) :
    Calls Try.prog 10 #[.pointer (some ⟨jb, 0, none⟩), .slice A l.length c] u' fun e w' => e = .returned (.int .i64 0) ∧ LV H w0 w' jb d [l] (0 + manyL l) (H - frm) (next + (manyL l : Int)) (K + manyL l + 1) := by
  obtain ⟨h1, v, s, h2, h3⟩ := h.lent hA hb
  have hfr : frm ≤ H := by obtain ⟨_, _, _, _, _, _, _, _, _, h8⟩ := h2; exact h8
  have hst := h3.steps
  refine (Replace_v (A := A) (c := c) l h2 (fof_new h1.size hal) (rdf_of hr) hn hlc hc (by omega) (by rw [h3.queue]; decide)).mono ?_
  rintro e w' ⟨rfl, v', ho, ht⟩
  obtain ⟨q1, q2, q3⟩ := quiet_rep (j := ⟨frm, bts, used, 0, next⟩) h3 hl hu hfr (show next + (manyL l : Int) - 1 ≤ 2147483648 by omega)
  rw [q1]
  rw [q3] at ho
  exact ⟨rfl, LV.back h1 ho ht q2 rfl⟩
theorem live_room {H : Nat} {w0 u : World} {jb d : Nat} {bts : List (List UInt8)} {used frm : Nat} {next : Int} {K : Nat} (h : LV H w0 u jb d bts used frm next K) : Calls Try.prog 19 #[.pointer (some ⟨jb, 0, none⟩)] u fun e w' => e = .returned (.int .i64 ((H : Int) - (used : Int))) ∧ Below u.heap.size u w' := by
  obtain ⟨h1, v, s, h2, h3⟩ := h
  exact Room_v h2
theorem live_next {H : Nat} {w0 u : World} {jb d : Nat} {bts : List (List UInt8)} {used frm : Nat} {next : Int} {K : Nat} (h : LV H w0 u jb d bts used frm next K) : Calls Try.prog 20 #[.pointer (some ⟨jb, 0, none⟩)] u fun e w' => e = .returned (.int .u32 next) ∧ u = w' := by
  obtain ⟨h1, v, s, h2, h3⟩ := h
  exact h2.next
theorem live_bat {H : Nat} {w0 u : World} {jb d : Nat} {bts : List (List UInt8)} {used frm : Nat} {next : Int} {K : Nat} (h : LV H w0 u jb d bts used frm next K) (hb : ∀ b ∈ bts, b.length ≤ 1000000) : Calls Try.prog 14 #[.pointer (some ⟨jb, 0, none⟩)] u fun e w' => BatRet bts u e w' := by
  obtain ⟨h1, v, s, h2, h3⟩ := h
  exact Batches_v h2 hb
set_option maxHeartbeats 1000000 in
/-- made on a new disk -/
theorem live_make {H : Nat} {w0 u u' : World} {d : Nat} {A : Option Addr} {c : Nat} {l : List UInt8} (hw : Below w0.heap.size w0 u) (h : DiskV u d (fresh (2 * H)) (w0.heap.size ≤ ·)) (hA : Apart w0 u A) (hb : Below u.heap.size u u') (hal : ∀ b off, A = some ⟨b, off, none⟩ → b < u'.heap.size) (hr : Rd u' A l) (hn : A = none → l = [] ∧ c = 0) (hlc : l.length ≤ c) (hc : c ≤ maxLen)
    (hl : l.length ≤ 524288) (hH : 1 ≤ H) (hu : manyL l ≤ H) (hH2 : H ≤ 8192) :
    Calls Try.prog 7 #[.pointer (some ⟨d, 0, none⟩), .slice A l.length c] u' fun e w' => ∃ jb, e = .returned (.tuple #[.pointer (some ⟨jb, 0, none⟩), .int .i64 0]) ∧ LV H w0 w' jb d [l] (manyL l) 0 (1 + (manyL l : Int)) (manyL l + 4) := by
  have h1 : Turn w0 u' (w0.heap.size ≤ ·) := (Turn.of_below hw _).trans (Turn.of_below hb _) fun _ _ h => h
  have h2 : DiskV u' d (fresh (2 * H)) (Fof w0 A) := (h.within (G := Fof w0 A) fun k hh hk => ⟨hh, fun b off e => by rcases hA b off e with h | h <;> omega⟩).below hb
  obtain ⟨m1, m2, m3, m4, m5⟩ := mak_fresh hH hu hl hH2
  refine (Make_v (A := A) (c := c) (Hf := H) l h2 rfl (by rw [fresh_next]; decide) (fof_new h1.size hal) (rdf_of hr) hn hlc hc (by show 0 + 30000 < 4611686018427387904; decide) (by show 0 + 30000 < 1099511627776; decide)).mono ?_
  rintro e w' ⟨ht, hh⟩
  rcases hh with ⟨h0, _⟩ | ⟨_, jb, v, rfl, _, ho⟩
  · exact absurd m1 h0
  · rw [m3] at ho
    exact ⟨jb, rfl, LV.back h1 ho ht m2 rfl⟩
theorem open_bare {w : World} {d H : Nat} {F : Nat → Prop} (h : DiskV w d (fresh (2 * H)) F) : Calls Try.prog 13 #[.pointer (some ⟨d, 0, none⟩)] w fun e w' => e = .returned (.tuple #[.pointer none, .int .i64 5]) ∧ Below w.heap.size w w' := by
  refine (Open_v (Hf := H) h rfl rfl (by rw [fresh_next]; decide)).mono ?_
  rintro e w' ⟨hb, hh⟩
  have h0 := (open_tells (s := fresh (2 * H)) rfl rfl rfl (blank_none.within (2 * H))).2.1.2 fun ht => by
    have e1 : ∀ b, (halfN (lvs none' H b)).1 = [] := fun b => by rw [half_low (by rw [blank_none.lvs]; exact Int.le_refl _)]
    rcases ht with ht | ht
    · exact ht (e1 false)
    · exact ht (e1 true)
  rw [if_pos h0] at hh
  exact ⟨hh, hb⟩

end Go.Proofs.Ytdjjlhfgfogdeaa

/- lives: the one example. -/
namespace Go.Proofs.Ytdjjlhfgfogdeaa
open Go.RowKit Go.Shelf
set_option linter.unusedVariables false
set_option maxRecDepth 100000
set_option linter.unusedSimpArgs false

def zs (k : Nat) : List UInt8 := List.replicate k 0
theorem zs_len (k : Nat) : (zs k).length = k := by simp [zs]
theorem mkzs (k : Nat) (hk : k ≤ 100000) (W : World) : (Instr.makeSlice 31 (.int .i64 (k : Int)) (.int .i64 (k : Int))).run Try.prog W = .ok (.slice (some ⟨W.heap.size, 0, none⟩) k k) (W.alloc (.cells (cellsOf (zs k)).toArray 5)) := by
  obtain ⟨i0, hi, hz0, hz1, hz2⟩ := info_parts Try_info5
  have h := run_make (P := Try.prog) W 31 5 i0 (.int .u8 0) Try.underlying31 hi hz0 .i64 .i64 (k : Int) (k : Int) (by omega) (Int.le_refl _) (by rw [hz2]; omega) (by omega)
  rw [h, hz1]
  simp only [Int.toNat_natCast, Nat.mul_one]
  congr 3
  apply Array.ext
  · simp [zs, cellsOf, size_madeCells]
  · intro j h1 h2
    simp [madeCells, zs, cellsOf, Value.cells, Nat.mod_one]
theorem many_zs (k : Nat) : manyL (zs k) = max ((k + 41) / 42) 1 := by rw [many_is, zs_len]
theorem m0 : manyL [] = 1 := by rw [many_is]; rfl
theorem m1 : manyL [1] = 1 := by rw [many_is]; rfl
/-- bytes in a new block -/
theorem new_bytes (w : World) (l : List UInt8) : Rd (w.alloc (.cells (cellsOf l).toArray 5)) (some ⟨w.heap.size, 0, none⟩) l ∧ Below w.heap.size w (w.alloc (.cells (cellsOf l).toArray 5)) ∧ (w.alloc (.cells (cellsOf l).toArray 5)).heap.size = w.heap.size + 1 :=
  ⟨rd_cs (Cs.new _ _ _) rfl, (Below.refl _ _).alloc (Nat.le_refl _) _, by simp⟩
theorem apart_none (w0 u : World) : Apart w0 u none := fun b off e => by cases e
theorem apart_new (w0 u : World) : Apart w0 u (some ⟨u.heap.size, 0, none⟩) := fun b off e => by cases e; exact .inr (Nat.le_refl _)
set_option maxHeartbeats 8000000 in
theorem lives_any (w : World) : Calls Try.prog 9 #[] w fun e W' => e = .returned (.bool true) ∧ Below w.heap.size w W' := by
  have k85 : ∀ W, (Instr.makeSlice 31 (.int .i64 85) (.int .i64 85)).run Try.prog W = .ok (.slice (some ⟨W.heap.size, 0, none⟩) 85 85) (W.alloc (.cells (cellsOf (zs 85)).toArray 5)) := mkzs 85 (by decide)
  have k1176 : ∀ W, (Instr.makeSlice 31 (.int .i64 1176) (.int .i64 1176)).run Try.prog W = .ok (.slice (some ⟨W.heap.size, 0, none⟩) 1176 1176) (W.alloc (.cells (cellsOf (zs 1176)).toArray 5)) := mkzs 1176 (by decide)
  have k1344 : ∀ W, (Instr.makeSlice 31 (.int .i64 1344) (.int .i64 1344)).run Try.prog W = .ok (.slice (some ⟨W.heap.size, 0, none⟩) 1344 1344) (W.alloc (.cells (cellsOf (zs 1344)).toArray 5)) := mkzs 1344 (by decide)
  have hmix : Try.prog.follows .mixedOrders = true := by kernel_rfl
  go_enter Try.func9, Try.ntmps9
  go_wp2_with fail
  refine (New_v 64 w (by decide) (by decide)).mono ?_
  rintro e w1 ⟨d, rfl, hd, hb1⟩
  have D1 := Lib.hid (show DiskV w1 d (fresh (2 * 32)) (w.heap.size ≤ ·) from hd)
  have B1 := Lib.hid hb1
  clear hd hb1
  go_wp2_with fail
  refine (open_bare D1.out).mono ?_
  rintro e w2 ⟨rfl, hb2⟩
  have D2 := Lib.hid (D1.out.below hb2)
  have B2 := Lib.hid (below_chain B1.out hb2)
  clear hb2 D1 B1
  go_wp2_with fail
  refine (live_make (A := none) (c := 0) (l := []) B2.out D2.out (apart_none _ _) (Below.refl _ _) (fun b off e => by cases e) (.inl rfl) (fun _ => ⟨rfl, rfl⟩) (Nat.le_refl _) (Nat.zero_le _) (by decide) (by decide) (by rw [m0]; decide) (by decide)).mono ?_
  rintro e w3 ⟨jb, rfl, h3⟩
  rw [m0] at h3
  have L3 := Lib.hid h3
  clear h3 D2 B2
  go_wp2_with fail
  refine (live_room L3.out).mono ?_
  rintro e w4 ⟨rfl, hb4⟩
  have L4 := Lib.hid (L3.out.below hb4)
  clear hb4 L3
  go_wp2_with fail
  obtain ⟨r5, b5, s5⟩ := new_bytes w4 (zs 85)
  have R5 := Lib.hid r5
  have BB5 := Lib.hid b5
  have a5 := live_app (A := some ⟨w4.heap.size, 0, none⟩) (c := 85) (l := zs 85) L4.out (apart_new _ _) b5 (fun b off e => by cases e; omega) r5 (fun h => by cases h) (by rw [zs_len]; decide) (by decide) (by rw [zs_len]; decide) (by rw [many_zs]; decide) (by rw [many_zs]; decide) (by decide)
  rw [zs_len, many_zs] at a5
  clear r5 b5 s5 L4
  generalize w4.alloc (.cells (cellsOf (zs 85)).toArray 5) = w5 at *
  refine a5.mono ?_
  clear a5
  rintro e w6 ⟨rfl, h6⟩
  have L6 := Lib.hid h6
  clear h6
  go_wp2_with fail
  refine (live_room L6.out).mono ?_
  rintro e w7 ⟨rfl, hb7⟩
  have L7 := Lib.hid (L6.out.below hb7)
  clear hb7 L6
  go_wp2_with fail
  refine (live_next L7.out).mono ?_
  rintro e _ ⟨rfl, rfl⟩
  go_wp2_with fail
  have a8 := live_app (A := none) (c := 0) (l := []) L7.out (apart_none _ _) (Below.refl _ _) (fun b off e => by cases e) (.inl rfl) (fun _ => ⟨rfl, rfl⟩) (Nat.le_refl _) (Nat.zero_le _) (by decide) (by rw [m0]; decide) (by rw [m0]; decide) (by decide)
  rw [m0] at a8
  refine a8.mono ?_
  clear a8
  rintro e w8 ⟨rfl, h8⟩
  have L8 := Lib.hid h8
  clear h8 L7
  go_wp2_with fail
  refine (live_bat L8.out (fun b hb => by simp at hb; rcases hb with rfl | rfl | rfl <;> simp [zs_len])).mono ?_
  rintro e w9 ⟨v9, vs9, rfl, ho9, hb9⟩
  have L9 := Lib.hid (L8.out.below hb9)
  clear hb9 L8
  obtain ⟨A9, c9, rfl, hr9, hl9, hm9, hn9⟩ := ho9.r.form
  obtain ⟨b9, f9, A0, c0', rfl, q0, -⟩ := hr9.get 0 (by decide)
  obtain ⟨b9', f9', A1, c1', e9, q1, -⟩ := hr9.get 1 (by decide)
  cases e9
  obtain ⟨b9', f9', A2, c2', e9, q2, -⟩ := hr9.get 2 (by decide)
  cases e9
  have e85 : (([[]] ++ [zs 85] ++ [[]] : List (List UInt8))[1]'(by decide)).length = 85 := zs_len 85
  rw [e85] at q1
  change w9.cell? ⟨b9, f9 + 0, none⟩ = some (.slice A0 0 c0') at q0
  change w9.cell? ⟨b9, f9 + 2, none⟩ = some (.slice A2 0 c2') at q2
  rw [Nat.add_zero] at q0
  change OwnV w9 _ _ (.slice (some ⟨b9, f9, none⟩) 3 c9) _ _ at ho9
  change 3 ≤ c9 at hl9
  clear ho9 hr9 hn9 e85
  go_wp2_with fail
  go_quiet (fail)
  have h10 := L9.out.below (below_drewN (Below.refl w9.heap.size w9) nq)
  have L10 := Lib.hid (show LV 32 w (w9.drewN nq) jb d [[], zs 85, []] 5 0 6 11 from h10)
  clear h10 L9 q0 q1 q2 hl9 hm9
  generalize w9.drewN nq = w10 at *
  go_wp2_with fail
  obtain ⟨r11, b11, s11⟩ := new_bytes w10 (zs 1176)
  have a11 := live_full (A := some ⟨w10.heap.size, 0, none⟩) (c := 1176) (l := zs 1176) L10.out (apart_new _ _) b11 (fun b off e => by cases e; omega) r11 (fun h => by cases h) (by rw [zs_len]; decide) (by decide) (by rw [zs_len]; decide) (by rw [many_zs]; decide) (by rw [many_zs]; decide) (by decide)
  rw [zs_len] at a11
  clear r11 b11 s11 L10
  generalize w10.alloc (.cells (cellsOf (zs 1176)).toArray 5) = w11 at *
  refine a11.mono ?_
  clear a11
  rintro e w12 ⟨rfl, h12⟩
  have L12 := Lib.hid h12
  clear h12
  go_wp2_with fail
  obtain ⟨r13, b13, s13⟩ := new_bytes w12 (zs 1344)
  have a13 := live_rep (A := some ⟨w12.heap.size, 0, none⟩) (c := 1344) (l := zs 1344) L12.out (apart_new _ _) b13 (fun b off e => by cases e; omega) r13 (fun h => by cases h) (by rw [zs_len]; decide) (by decide) (by rw [zs_len]; decide) (by rw [many_zs]; decide) (by rw [many_zs]; decide) (by decide)
  rw [zs_len, many_zs] at a13
  clear r13 b13 s13 L12
  generalize w12.alloc (.cells (cellsOf (zs 1344)).toArray 5) = w13 at *
  refine a13.mono ?_
  clear a13
  rintro e w14 ⟨rfl, h14⟩
  have L14 := Lib.hid (show LV 32 w w14 jb d [zs 1344] 32 32 38 44 from h14)
  clear h14
  go_wp2_with fail
  refine (live_room L14.out).mono ?_
  rintro e w15 ⟨rfl, hb15⟩
  have L15 := Lib.hid (L14.out.below hb15)
  clear hb15 L14
  go_wp2_with fail
  refine (live_bat L15.out (fun b hb => by simp at hb; subst hb; rw [zs_len]; decide)).mono ?_
  rintro e w16 ⟨v16, vs16, rfl, ho16, hb16⟩
  have L16 := Lib.hid (L15.out.below hb16)
  clear hb16 L15
  obtain ⟨A16, c16, rfl, -⟩ := ho16.r.form
  change OwnV w16 _ _ (.slice A16 1 c16) _ _ at ho16
  clear ho16
  go_wp2_with fail
  obtain ⟨r17, b17, s17⟩ := new_bytes w16 [1]
  change Rd (w16.alloc (.cells #[.int .u8 1] 5)) _ _ at r17
  change Below _ _ (w16.alloc (.cells #[.int .u8 1] 5)) at b17
  change (w16.alloc (.cells #[.int .u8 1] 5)).heap.size = _ at s17
  have a17 := live_rep (A := some ⟨w16.heap.size, 0, none⟩) (c := 1) (l := [1]) L16.out (apart_new _ _) b17 (fun b off e => by cases e; omega) r17 (fun h => by cases h) (by decide) (by decide) (by decide) (by rw [m1]; decide) (by rw [m1]; decide) (by decide)
  rw [m1] at a17
  change Calls _ _ #[_, .slice _ 1 1] _ _ at a17
  clear r17 b17 s17 L16
  generalize w16.alloc (.cells #[.int .u8 1] 5) = w17 at *
  refine a17.mono ?_
  clear a17
  rintro e w18 ⟨rfl, h18⟩
  have L18 := Lib.hid h18
  clear h18
  go_wp2_with fail
  refine (live_room L18.out).mono ?_
  rintro e w19 ⟨rfl, hb19⟩
  have L19 := Lib.hid (L18.out.below hb19)
  clear hb19 L18
  go_wp2_with fail
  go_ret
  exact ⟨rfl, L19.out.out⟩

end Go.Proofs.Ytdjjlhfgfogdeaa
