/- SWEPT -/
import Derived.Test.YtfgbpinfplllgaaGreatDoorZJourCK
import Derived.Test.YtfgbpinfplllgaaGreatDoorZJourPK
import Derived.Test.YtfgbpinfplllgaaGreatDoorZTblK
set_option linter.unusedVariables false
set_option linter.unusedSimpArgs false
open Go.Lib (hid)
namespace Go.Proofs.YtfgbpinfplllgaaGreatDoor
open Go.RowKit Go.Shelf
set_option maxRecDepth 100000
theorem readV_tell {s : DS} {H : Nat} (hd : s.dark = false) (hy : s.young = none') (hb : s.blocks = 2 * H) (hw : Within s.laid (2 * H)) (p : Int) : readV s p = tell s.laid p := by
  unfold readV
  by_cases hin : inB s p = true
  · rw [if_pos ⟨hd, hin⟩]
    unfold readN
    rw [hy]
    rfl
  · rw [if_neg (fun h => hin h.2)]
    have : p < 0 ∨ ((2 * H : Nat) : Int) ≤ p := by
      simp [inB] at hin
      omega
    exact ((hw p).2 this).symm
structure Tells (s : DS) (H : Nat) (j : JS) : Prop where
  batches : j.batches = batchesT s.laid H
  used : j.used = usedT s.laid H
  frm : (j.frm : Int) = startT H (secondT s.laid H)
  next : j.next = nextT s.laid (2 * H)
theorem nextToV_tell {s : DS} (h : ∀ p, readV s p = tell s.laid p) : ∀ k, nextToV s k = nextTo s.laid k
  | 0 => rfl
  | k + 1 => by
    rw [nextToV_succ, nextToV_tell h k, h]
    rfl
theorem open_tells {s : DS} {H : Nat} (hd : s.dark = false) (hy : s.young = none') (hb : s.blocks = 2 * H) (hw : Within s.laid (2 * H)) : Tells s H (openJ s H) ∧ ((openJ s H).first = 0 ↔ ¬ ThereT s.laid H) ∧ nextToV s s.blocks + 1 = nextT s.laid (2 * H) := by
  have hr := readV_tell hd hy hb hw
  have hn : nextToV s s.blocks + 1 = nextT s.laid (2 * H) := by rw [nextToV_tell hr, hb]; rfl
  have ha : lvsV s 0 H = lvs s.laid H false := by
    unfold lvsV lvs
    exact rmap_congr fun p _ _ => by rw [hr]
  have hb' : lvsV s (H : Int) H = lvs s.laid H true := by
    unfold lvsV lvs
    exact rmap_congr fun p _ _ => by rw [hr]
  unfold openJ
  rw [ha, hb', hn]
  have hs : secondN (lvs s.laid H false) (lvs s.laid H true) = secondT s.laid H := rfl
  rw [hs]
  cases hsec : secondT s.laid H with
  | true =>
    rw [if_pos rfl]
    have hbt : batchesT s.laid H = (halfN (lvs s.laid H true)).1 := by unfold batchesT batchesN; rw [hs, hsec]; rfl
    refine ⟨⟨hbt.symm, by unfold usedT; rw [hsec], by rw [hsec]; rfl, rfl⟩, ?_, rfl⟩
    have h2 := there_second (hs.trans hsec)
    exact ⟨fun h => absurd (begin_zero h) h2, fun h => absurd (.inr h2) h⟩
  | false =>
    rw [if_neg (by decide)]
    have hbt : batchesT s.laid H = (halfN (lvs s.laid H false)).1 := by unfold batchesT batchesN; rw [hs, hsec]; rfl
    refine ⟨⟨hbt.symm, by unfold usedT; rw [hsec], by rw [hsec]; rfl, rfl⟩, ?_, rfl⟩
    exact ⟨fun h ht => there_first ht (hs.trans hsec) (begin_zero h), fun h => by
      have : (halfN (lvs s.laid H false)).1 = [] := Decidable.byContradiction fun hne => h (.inl hne)
      exact beginN_zero.2 this⟩
theorem armed_tells {s : DS} {H n : Nat} {j : JS} (h : Tells s H j) : Tells (armed s n) H j := ⟨h.batches, h.used, h.frm, h.next⟩
theorem wrs_qlen {ls : List Blk} {s : DS} {n : Int} (h : Ran s n ls (wrs s n ls)) : (wrs s n ls).1.q.length ≤ ls.length := by
  rcases h.2 with h | h
  · rw [h.2.2.1]; exact Nat.zero_le _
  · have := h.2.2.2.2.length_le
    rwa [List.length_map] at this
theorem cut_append {H i : Nat} {s : DS} {now : List (List UInt8)} {j : JS} (h : Head H s now i) (ht : Tells s H j) (n : Nat) {l : List UInt8} (hl : l.length ≤ 2000) (hi : i ≤ 100) :
    appR (armed s n) j H l = (armed s n, 10) ∨ (((appR (armed s n) j H l).2 = 0 ∨ (appR (armed s n) j H l).2 = 9) ∧ (appR (armed s n) j H l).1.q.length ≤ 50 ∧ ∀ picks, ∃ now', Head H (crashed (appR (armed s n) j H l).1 picks) now' (i + 1) ∧ (now' = now ∨ now' = now ++ [l]) ∧ ((appR (armed s n) j H l).2 = 0 → now' = now ++ [l])) := by
  have hm : manyL l ≤ 48 := by rw [many_is]; omega
  have hn := h.next
  have hu := used_le s.laid H
  have hps : (partsOf l).length = manyL l := rfl
  unfold appR layR
  rw [if_neg (by rw [show (armed s n).dark = s.dark from rfl, h.light]; decide), ht.frm, ht.used, ht.next]
  unfold fitsE
  rw [if_neg (show ¬ 524288 < l.length by omega), if_neg (show ¬ 2147483648 < nextT s.laid (2 * H) + (manyL l : Int) - 1 by omega)]
  by_cases hr : (H : Int) - (usedT s.laid H : Int) < (manyL l : Int)
  · rw [if_pos hr, if_pos (by decide)]
    exact .inl rfl
  · rw [if_neg hr, if_neg (by decide)]
    right
    have hlay := h.lay (parts_ok l) (parts_cut l) (show (partsOf l).length ≤ 50 by omega) (show i ≤ 1000 by omega)
    have hst : 0 ≤ startT H (secondT s.laid H) ∧ startT H (secondT s.laid H) ≤ H := by unfold startT; split <;> omega
    have hran := lay_ran (armed s n) (startT H (secondT s.laid H) + usedT s.laid H) (newBlks (nextT s.laid (2 * H)) (partsOf l)) h.light h.queue (by omega) (by rw [newBlks_len]; show _ ≤ (s.blocks : Int); rw [h.blocks]; omega)
    have hq := wrs_qlen hran
    rw [newBlks_len] at hq
    have hap := fun picks => head_append h n (parts_ok l) (parts_cut l) (show (partsOf l).length ≤ 50 by omega) (show i ≤ 1000 by omega) (show usedT s.laid H + (partsOf l).length ≤ H by omega) picks
    rw [parts_flatten] at hap
    exact ⟨(hap []).1, by omega, fun picks => (hap picks).2⟩
structure Quiet (s : DS) (H K : Nat) : Prop where
  light : s.dark = false
  left : s.left = 0
  queue : s.q = []
  blocks : s.blocks = 2 * H
  steps : s.steps ≤ K
theorem wrs_quiet : ∀ (ls : List Blk) (s : DS) (n : Int), s.dark = false → s.left = 0 → 0 ≤ n → n + ls.length ≤ s.blocks → (wrs s n ls).2 = 0 ∧ (wrs s n ls).1.left = 0 ∧ (wrs s n ls).1.dark = false ∧ (wrs s n ls).1.q = [] ∧ (wrs s n ls).1.young = none'
  | [], s, n, hd, hl, h0, hf => by
    rw [wrs]
    unfold flushS flushE
    rw [hd, hl]
    simp only [Bool.false_eq_true, if_false, Nat.reduceEqDiff, Nat.zero_ne_one]
    refine ⟨by decide, ?_, hd, rfl, rfl⟩
    show (if 1 < s.left then s.left - 1 else s.left) = 0
    rw [hl]
    rfl
  | l :: ls, s, n, hd, hl, h0, hf => by
    simp only [List.length_cons] at hf
    have hin : inB s n = true := by unfold inB; exact decide_eq_true (by omega)
    have hw : writeE s n = 0 := by unfold writeE; rw [hd, hin, hl]; rfl
    have hs : writeS s n l = wrote s n l := by unfold writeS; rw [hd, hin, hl]; rfl
    rw [wrs, hw, if_pos rfl, hs]
    exact wrs_quiet ls (wrote s n l) (n + 1) hd (by show (if 1 < s.left then s.left - 1 else s.left) = 0; rw [hl]; rfl) (by omega) (by show _ ≤ (s.blocks : Int); omega)
theorem quiet_lay {s : DS} {H K : Nat} (h : Quiet s H K) {N : Int} {l : List UInt8} {at' room : Int} (h0 : 0 ≤ at') (hf : at' + (manyL l : Int) ≤ 2 * (H : Int)) (hfit : fitsE N l.length (manyL l) room = 0) : (layR s N l at' room).2 = 0 ∧ Quiet (layR s N l at' room).1 H (K + manyL l + 1) := by
  unfold layR
  rw [if_neg (by rw [h.light]; decide), if_neg (by rw [hfit]; decide)]
  have hw := wrs_quiet (newBlks N (partsOf l)) s at' h.light h.left h0 (by rw [newBlks_len, h.blocks]; show at' + (manyL l : Int) ≤ _; omega)
  have hst := wrs_steps (newBlks N (partsOf l)) s at'
  rw [newBlks_len] at hst
  have hb := wrs_blocks (newBlks N (partsOf l)) s at'
  have := h.steps
  exact ⟨hw.1, hw.2.2.1, hw.2.1, hw.2.2.2.1, hb.trans h.blocks, by show _ ≤ K + (partsOf l).length + 1; omega⟩
theorem quiet_full {s : DS} {H K : Nat} (h : Quiet s H K) {N : Int} {l : List UInt8} {at' room : Int} (hfit : fitsE N l.length (manyL l) room ≠ 0) : layR s N l at' room = (s, fitsE N l.length (manyL l) room) := by
  unfold layR
  rw [if_neg (by rw [h.light]; decide), if_pos hfit]
theorem fits_ok {N : Int} {n : Nat} {m room : Int} (h1 : n ≤ 524288) (h2 : N + m - 1 ≤ 2147483648) (h3 : m ≤ room) : fitsE N n m room = 0 := by
  unfold fitsE
  rw [if_neg (by omega), if_neg (by omega), if_neg (by omega)]
theorem fits_full {N : Int} {n : Nat} {m room : Int} (h1 : n ≤ 524288) (h2 : N + m - 1 ≤ 2147483648) (h3 : room < m) : fitsE N n m room = 10 := by
  unfold fitsE
  rw [if_neg (by omega), if_neg (by omega), if_pos h3]
theorem fresh_next (H k : Nat) : nextToV (fresh (2 * H)) k = 0 := by
  have h := nextToV_tell (readV_tell (s := fresh (2 * H)) rfl rfl rfl (blank_none.within (2 * H)))
  rw [h]
  have := blank_none.next k
  unfold nextT at this
  have e : (fresh (2 * H)).laid = none' := rfl
  rw [e]
  omega
theorem mak_fresh {H : Nat} (hH : 1 ≤ H) {l : List UInt8} (hm : manyL l ≤ H) (hl : l.length ≤ 524288) (hH2 : H ≤ 8192) :
    (makR (fresh (2 * H)) H l).2 = 0 ∧ Quiet (makR (fresh (2 * H)) H l).1 H (manyL l + 4) ∧ makJ (fresh (2 * H)) l = ⟨0, [l], manyL l, 0, 1 + (manyL l : Int)⟩ ∧
      (manyL l = 1 → Head H (makR (fresh (2 * H)) H l).1 [l] 0) ∧ Tells (makR (fresh (2 * H)) H l).1 H (makJ (fresh (2 * H)) l) := by
  have hN := fresh_next H (fresh (2 * H)).blocks
  have hj : makJ (fresh (2 * H)) l = ⟨0, [l], manyL l, 0, 1 + (manyL l : Int)⟩ := by
    unfold makJ tookJ
    rw [hN]
    simp
  have hfit : fitsE (nextToV (fresh (2 * H)) (fresh (2 * H)).blocks + 1) l.length (manyL l) (H : Int) = 0 := fits_ok hl (by rw [hN]; omega) (by omega)
  let f : Tab := upd (upd none' 0 zb) (H : Int) zb
  let s2 : DS := ⟨2 * H, f, none', [], 3, 0, false⟩
  have hR : makR (fresh (2 * H)) H l = wrs s2 0 (newBlks 1 (partsOf l)) := by
    unfold makR
    rw [if_neg (show ¬ (fresh (2 * H)).dark = true by simp [fresh]), hfit, if_neg (by decide)]
    unfold makGs
    rw [hN]
    have i1 : inB (fresh (2 * H)) 0 = true := by unfold inB; exact decide_eq_true (by show (0 : Int) ≤ 0 ∧ 0 < ((2 * H : Nat) : Int); omega)
    have i2 : inB (wrote (fresh (2 * H)) 0 zb) (H : Int) = true := by unfold inB; exact decide_eq_true (by show 0 ≤ (H : Int) ∧ (H : Int) < ((2 * H : Nat) : Int); omega)
    have g1 : wrG 0 zb (fresh (2 * H)) = (wrote (fresh (2 * H)) 0 zb, 0) := by unfold wrG writeS writeE; rw [i1]; rfl
    have g2 : wrG (H : Int) zb (wrote (fresh (2 * H)) 0 zb) = (wrote (wrote (fresh (2 * H)) 0 zb) (H : Int) zb, 0) := by unfold wrG writeS writeE; rw [i2]; rfl
    have g3 : flG (wrote (wrote (fresh (2 * H)) 0 zb) (H : Int) zb) = (s2, 0) := rfl
    show runG (wrG 0 zb :: wrG (H : Int) zb :: flG :: gsOf 0 (newBlks (0 + 1) (partsOf l))) (fresh (2 * H)) = _
    rw [runG_cons, g1, if_pos rfl, runG_cons, g2, if_pos rfl, runG_cons, g3, if_pos rfl, run_wrs]
    rfl
  have hblank : Blank f := (blank_none.upd 0).upd (H : Int)
  have hw := wrs_quiet (newBlks 1 (partsOf l)) s2 0 rfl rfl (Int.le_refl _) (by rw [newBlks_len]; show 0 + (manyL l : Int) ≤ ((2 * H : Nat) : Int); omega)
  have hran := lay_ran s2 0 (newBlks 1 (partsOf l)) rfl rfl (Int.le_refl _) (by rw [newBlks_len]; show 0 + (manyL l : Int) ≤ ((2 * H : Nat) : Int); omega)
  have hst := wrs_steps (newBlks 1 (partsOf l)) s2 0
  rw [newBlks_len] at hst
  have hst' : (wrs s2 0 (newBlks 1 (partsOf l))).1.steps ≤ 3 + manyL l + 1 := hst
  rw [hR, hj]
  generalize wrs s2 0 (newBlks 1 (partsOf l)) = r at *
  obtain ⟨hb, hr⟩ := hran
  have hb' : r.1.blocks = 2 * H := hb
  rcases hr with ⟨h2, hdk, hq0, q, hc, hmq, hlq⟩ | ⟨h2, -⟩
  · have hml := make_laid hblank (parts_ok l) (parts_cut l) (show (partsOf l).length ≤ H from hm) (by show (manyL l : Int) ≤ _; omega) q hc hmq
    have hlaid : r.1.laid = lay q f := hlq
    have hql : q.length = (partsOf l).length := by have := congrArg List.length hmq; rwa [List.length_map, newBlks_len] at this
    have hu : Under 1 f := by
      have := (next_under (hblank.within (2 * H))).1
      rwa [hblank.next] at this
    have hnew := lay_new (partsOf l) 1 0 H q f hm hc hmq (by decide) (by show (1 : Int) + (manyL l : Int) < _; omega) (parts_cut l)
    have hfst : lvs (lay q f) H false = newL 1 (partsOf l) ++ (lvs f H false).drop (partsOf l).length := hnew
    have hcnt : halfN (lvs (lay q f) H false) = ([(partsOf l).flatten], (partsOf l).length, 1 + ((partsOf l).length : Int) - 1) := by
      rw [hfst]
      exact new_counts (parts_ok l) ((hu.small _ _).drop _) (Int.le_refl _) (by decide) _
    have hsnd : lvs (lay q f) H true = lvs f H true := lvs_same fun p h1 h2 => lay_out q 0 p f hc (.inr (by simp [startT] at h1 ⊢; rw [hql]; show (manyL l : Int) ≤ p; omega))
    have hb2 : beginN (lvs f H true) = 0 := by
      unfold beginN
      rw [half_low (by rw [hblank.lvs]; exact Int.le_refl _), if_pos rfl]
    have hsec : secondT (lay q f) H = false := by
      unfold secondT secondN
      rw [hsnd, hb2]
      have := begin_nonneg (lvs (lay q f) H false)
      exact decide_eq_false (by omega)
    rw [parts_flatten] at hml
    refine ⟨h2, ⟨hdk, hw.2.1, hq0, hb', by omega⟩, rfl, fun h1 => ⟨hdk, hq0, hw.2.2.2.2, hb', by rw [hlaid]; exact hml.2.2.2, by rw [hlaid]; exact hml.1, by rw [hlaid]; exact hml.2.1, ?_, by omega⟩, ⟨?_, ?_, ?_, ?_⟩⟩
    · rw [hlaid, hml.2.2.1]
      show (1 : Int) + (manyL l : Int) ≤ _
      omega
    · rw [hlaid]; exact hml.2.1.symm
    · rw [hlaid]
      unfold usedT
      rw [hsec, hcnt]
      rfl
    · rw [hlaid, hsec]; rfl
    · rw [hlaid, hml.2.2.1]; rfl
  · exfalso
    have := hw.1
    omega
end Go.Proofs.YtfgbpinfplllgaaGreatDoor
namespace Go.Proofs.YtfgbpinfplllgaaGreatDoor
open Go.RowKit Go.Shelf
set_option maxRecDepth 100000
structure OwnV (w : World) (base : Nat) (F : Nat → Prop) (v : Value) (vs : List Value) (ls : List (List UInt8)) : Prop where
  row : w.ownsRow base 60 1 v ls.length vs
  rd : BsL w (fun k => F k ∧ v.ownBlock ≠ some k) vs ls
  sub : ∀ k, v.ownBlock = some k → F k
  ty : ∀ u ∈ vs, TyB w u
  new : ∀ u ∈ vs, ∀ k, u.ownBlock = some k → base ≤ k
theorem OwnV.r {w : World} {base : Nat} {F : Nat → Prop} {v : Value} {vs : List Value} {ls : List (List UInt8)} (h : OwnV w base F v vs ls) : OwnR w base F v ls := ⟨⟨vs, h.row, h.rd⟩, h.sub⟩
theorem OwnV.nil (w : World) (base : Nat) (F : Nat → Prop) : OwnV w base F (.slice none 0 0) [] [] := ⟨World.ownsRow_nil _ _ _ _, BsL.nil _ _, (fun k h => by cases h), (fun u h => by cases h), (fun u h => by cases h)⟩
theorem OwnV.below {w w' : World} {base : Nat} {F : Nat → Prop} {v : Value} {vs : List Value} {ls : List (List UInt8)} (h : OwnV w base F v vs ls) (hb : Below w.heap.size w w') : OwnV w' base F v vs ls :=
  ⟨own_below h.row hb, h.rd.below hb, h.sub, (fun u hu => (h.ty u hu).below hb), h.new⟩
theorem append_bv {w : World} {ops : Array Oper} {rest : List Oper} {o : Oper} {a : Act} {Q : Exit → Act → World → Prop} (hgd : o.guard = none) (s x : Operand) (ho : o.op = .call { callee := .builtin .append, args := #[s, x], argTypes := #[53, 53] })
    (base : Nat) (F : Nat → Prop) (v : Value) (vs : List Value) (ls : List (List UInt8)) (hs : a.eval s = v) (hown : OwnV w base F v vs ls)
    (g c : Nat) (hx : a.eval x = .slice (some ⟨g, 0, none⟩) 1 c) (y : Value) (l : List UInt8) (hy : BsV w (fun k => F k ∧ v.ownBlock ≠ some k) y l) (hyt : TyB w y) (hyn : ∀ k, y.ownBlock = some k → base ≤ k) (hc : w.cell? ⟨g, 0, none⟩ = some y) (hb : ls.length + 1 ≤ 1099511627776) (hbase : base ≤ w.heap.size) (hF : F w.heap.size)
    (h : ∀ v' w', OwnV w' base F v' (vs ++ [y]) (ls ++ [l]) → w.grownBy w' v.ownBlock → wpList Tryz.prog ops Q rest (a.put o.dst v') w') : wpList Tryz.prog ops Q (o :: rest) a w := by
  obtain ⟨i0, hi, hz0, hz1, hz2⟩ := info_parts infoBs
  obtain ⟨h1, h2, h3, h4, h5⟩ := hown
  have hye : BsL w (fun k => F k ∧ v.ownBlock ≠ some k) [y] [l] := (BsL.nil w _).snoc hy
  obtain ⟨v', w', hrun, r1, r2, r3, r4⟩ := run_append_own_at (P := Tryz.prog) w base 53 o.type 60 i0 (.slice none 0 0) 1 24 Tryz.underlying53 hi hz0 hz1 hz2 rfl (by decide) v ls.length vs h1 ⟨g, 0, none⟩ 1 c [y] rfl
    (fun j u hu => by
      cases j with
      | zero => cases hu; exact hc
      | succ j => simp at hu) hye.cell1 (by simp only [maxLen]; omega) (by omega) hbase
  have hturn : Turn w w' fun k => v.ownBlock = some k := Turn.of_grown r2
  have htn : ∀ u, TyB w u → TyB w' u := fun u hu => hu.turn hturn fun k hk hk' => by
    obtain ⟨_, cs, hcs⟩ := own_blk h1 hk'
    rcases hu with rfl | ⟨g', n, cap, cur, rfl, hc', _⟩
    · cases hk
    · cases hk
      exact Cs.ne hc' hcs (by decide) rfl
  refine wpList_plain hgd fun K hK => ?_
  unfold Oper.wp execOp
  simp only [ho, resolve, invoke, builtin, Sem.run_bind, Sem.run_pure, Result.andThen_ok, List.map_toArray, List.map_cons, List.map_nil, hs, hx, hrun]
  refine hK _ _ (h v' w' ⟨by rw [List.length_append]; exact r1, ?_, (fun k hk => ?_), (fun u hu => ?_), (fun u hu => ?_)⟩ r2)
  · have e1 : BsL w (fun k => (F k ∧ v'.ownBlock ≠ some k) ∧ v.ownBlock ≠ some k) (vs ++ [y]) (ls ++ [l]) := (h2.append hye).mono fun k hk hh => ⟨⟨hh.1, fun e => by
      rcases r4 with r4 | r4
      · exact hh.2 (r4.symm.trans e)
      · rw [r4] at e
        cases e
        exact Nat.lt_irrefl _ hk⟩, hh.2⟩
    exact (e1.turn hturn fun k hk => hk.2).mono fun k _ hk => hk.1
  · rcases r4 with r4 | r4
    · exact h3 k (r4.symm.trans hk)
    · rw [r4] at hk
      cases hk
      exact hF
  · rcases List.mem_append.1 hu with hu | hu
    · exact htn u (h4 u hu)
    · rw [List.mem_singleton] at hu
      subst hu
      exact htn _ hyt
  · rcases List.mem_append.1 hu with hu | hu
    · exact h5 u hu
    · rw [List.mem_singleton] at hu
      subst hu
      exact hyn
def BatRet (ls : List (List UInt8)) (w : World) (e : Ending) (w' : World) : Prop := ∃ v vs, e = .returned v ∧ OwnV w' w.heap.size (w.heap.size ≤ ·) v vs ls ∧ Below w.heap.size w w'
set_option maxHeartbeats 4000000 in
theorem Batches_v {w : World} {jb d : Nat} {v : Value} {j : JS} {s : DS} {Hf : Nat} {F : Nat → Prop} (h : OnJ w jb d v j s Hf F) (hb : ∀ b ∈ j.batches, b.length ≤ 1000000) :
    Calls Tryz.prog 89 #[.pointer (some ⟨jb, 0, none⟩)] w fun e w' => BatRet j.batches w e w' := by
  obtain ⟨FD, FJ, h1, h2, h3, h4, h5, h6, h7, h8⟩ := h
  have hc : Cs w jb 123 #[.pointer (some ⟨d, 0, none⟩), .int .i64 (j.frm : Int), v, .int .i64 (j.used : Int), .int .u32 j.first, .int .u64 j.next] := h2.cells
  have c0 := hc.cell 0 rfl
  have c2 := hc.cell 2 rfl
  have hn := isNoneJ_some jb d w c0
  obtain ⟨Av, cv, hv, hrd, hf1, hf2, hf3⟩ := h2.own.form
  subst hv
  have hfew : j.batches.length ≤ 8192 := Nat.le_trans h2.few.1 h2.few.2.1
  have HRD := hid hrd
  have HB := hid hb
  generalize j.batches = ls at *
  clear hb h1 h2 h3 h4 h5 h6 h7 h8 hc c0 hrd hf1 hf2 hf3
  go_enter Tryz.func89, Tryz.ntmps89
  go_wp2_with fail
  refine hn.mono ?_
  clear hn
  rintro e w' ⟨rfl, rfl⟩
  go_wp2_with fail
  go_loopw [3, 14] (fun x i wr => ∃ (k : Nat) (vs : List Value), k ≤ ls.length ∧ i = .int .i64 (k : Int) ∧ OwnV wr w.heap.size (w.heap.size ≤ ·) x vs (ls.take k) ∧ Below w.heap.size w wr) (fun _ i _ => ls.length - (intOf i).toNat)
  case atStart => exact ⟨0, [], Nat.zero_le _, rfl, OwnV.nil _ _ _, Below.refl _ _⟩
  case round =>
    obtain ⟨k, vs, hk, rfl, ho, hb⟩ := hrel
    have HO := hid ho
    have HBL := hid hb
    clear ho hb
    by_cases hlt : k < ls.length
    · have hlt' : (k : Int) < (ls.length : Int) := by omega
      have hget := HRD.out.get k hlt
      have hlk := HB.out _ (List.getElem_mem hlt)
      have htk : ls.take (k + 1) = ls.take k ++ [ls[k]] := by rw [List.take_add_one, List.getElem?_eq_getElem hlt]; rfl
      have HTK := hid htk
      clear htk
      generalize ls[k] = b at *
      obtain ⟨bb, off, A', c', rfl, hcell, hbf, hbn, hb1, hb2⟩ := hget
      have cc := (HBL.out.cell (lt_of_cell hcell)).trans hcell
      have hcl := Clone_ty b A' c' wr (by omega) ((hbf.rd).keep fun p u hu => (HBL.out.cell (lt_of_cell hu)).trans hu) hbn
      have HL := hid hlt
      have HCL := hid hcl
      clear hcell hbf hbn hcl hlt
      go_wp2_with fail
      refine HCL.out.mono ?_
      clear HCL
      rintro e w1 ⟨v1, rfl, hv1, ht1, hn1, hb1'⟩
      obtain ⟨A1, c1, rfl, -⟩ := id hv1
      have HV1 := hid hv1
      have HT1 := hid ht1
      have HN1 := hid hn1
      have HB1 := hid hb1'
      have bW := hid ((Below.refl w1.heap.size w1).alloc (Nat.le_refl _) (.cells #[.slice A1 b.length c1] 60))
      have kW := hid ((Cs.new w1 60 #[.slice A1 b.length c1]).cell 0 rfl)
      have hz := HBL.out.size
      have hz1 := HB1.out.size
      clear hv1 ht1 hn1 hb1'
      have htl : (ls.take k).length ≤ 8192 := by rw [List.length_take]; omega
      go_wp2_with (first
        | (at_builtin; refine append_bv rfl _ _ rfl w.heap.size (w.heap.size ≤ ·) _ vs (ls.take k) rfl ((HO.out.below HB1.out).below bW.out) w1.heap.size 1 rfl (.slice A1 b.length c1) b ((HV1.out.below bW.out).mono fun q _ hq => ⟨Nat.le_trans hz hq, fun e => by have := (own_blk HO.out.row e).2; obtain ⟨cs, hcs⟩ := this; have := hcs.lt; exact absurd this (Nat.not_lt.2 hq)⟩) (HT1.out.below bW.out) (fun q e => Nat.le_trans hz (HN1.out q e)) kW.out (by omega) (by simp; omega) (by simp; omega) ?_; intro v2 w2 ho2 hg2; have HO2 := hid ho2; have HB2 := hid ((HBL.out.trans ((HB1.out.trans (bW.out.mono HB1.out.size)).mono hz)).grown hg2 (Nat.le_trans hz (Nat.le_trans HB1.out.size bW.out.size)) fun q e => (own_blk HO.out.row e).1); clear ho2 hg2))
      go_roundw
      case rel => exact ⟨k + 1, _, HL.out, by go_num, by rw [HTK.out]; exact HO2.out, HB2.out⟩
      case measure => have := HL.out; simp [intOf]; omega
    · obtain rfl : k = ls.length := by omega
      go_wp2_with fail
      go_ret
      have := HO.out
      rw [List.take_length] at this
      exact ⟨_, vs, rfl, this, HBL.out⟩
end Go.Proofs.YtfgbpinfplllgaaGreatDoor
namespace Go.Proofs.YtfgbpinfplllgaaGreatDoor
open Go.RowKit Go.Shelf
set_option maxRecDepth 100000
theorem quiet_app {s : DS} {H K : Nat} {j : JS} {l : List UInt8} (h : Quiet s H K) (hl : l.length ≤ 524288) (hu : j.used + manyL l ≤ H) (hf : j.frm ≤ H) (hn : j.next + (manyL l : Int) - 1 ≤ 2147483648) : (appR s j H l).2 = 0 ∧ Quiet (appR s j H l).1 H (K + manyL l + 1) ∧ appJ s j H l = tookJ j l := by
  have hq := quiet_lay h (N := j.next) (l := l) (at' := (j.frm : Int) + (j.used : Int)) (room := (H : Int) - (j.used : Int)) (by omega) (by omega) (fits_ok hl hn (by omega))
  refine ⟨hq.1, hq.2, ?_⟩
  unfold appJ
  rw [if_pos (show (appR s j H l).2 = 0 from hq.1)]
theorem quiet_app_full {s : DS} {H K : Nat} {j : JS} {l : List UInt8} (h : Quiet s H K) (hl : l.length ≤ 524288) (hu : H < j.used + manyL l) (hn : j.next + (manyL l : Int) - 1 ≤ 2147483648) : appR s j H l = (s, 10) ∧ appJ s j H l = j := by
  have hf := fits_full (N := j.next) (n := l.length) (m := (manyL l : Int)) (room := (H : Int) - (j.used : Int)) hl hn (by omega)
  have hq := quiet_full h (N := j.next) (l := l) (at' := (j.frm : Int) + (j.used : Int)) (room := (H : Int) - (j.used : Int)) (by rw [hf]; decide)
  rw [hf] at hq
  have hq' : appR s j H l = (s, 10) := hq
  refine ⟨hq', ?_⟩
  unfold appJ
  rw [hq', if_neg (show ¬ (10 : Int) = 0 by decide)]
theorem quiet_rep {s : DS} {H K : Nat} {j : JS} {l : List UInt8} (h : Quiet s H K) (hl : l.length ≤ 524288) (hu : manyL l ≤ H) (hf : j.frm ≤ H) (hn : j.next + (manyL l : Int) - 1 ≤ 2147483648) : (repR s j H l).2 = 0 ∧ Quiet (repR s j H l).1 H (K + manyL l + 1) ∧ repJ s j H l = tookJ ⟨H - j.frm, [], 0, 0, j.next⟩ l := by
  have hq := quiet_lay h (N := j.next) (l := l) (at' := (H : Int) - (j.frm : Int)) (room := (H : Int)) (by omega) (by omega) (fits_ok hl hn (by omega))
  refine ⟨hq.1, hq.2, ?_⟩
  unfold repJ
  rw [if_pos (show (repR s j H l).2 = 0 from hq.1)]
end Go.Proofs.YtfgbpinfplllgaaGreatDoor
namespace Go.Proofs.YtfgbpinfplllgaaGreatDoor
open Go.RowKit Go.Shelf
set_option maxRecDepth 100000
def zs (k : Nat) : List UInt8 := List.replicate k 0
theorem zs_len (k : Nat) : (zs k).length = k := by simp [zs]
theorem mkzs (k : Nat) (hk : k ≤ 100000) (W : World) : (Instr.makeSlice 60 (.int .i64 (k : Int)) (.int .i64 (k : Int))).run Tryz.prog W = .ok (.slice (some ⟨W.heap.size, 0, none⟩) k k) (W.alloc (.cells (cellsOf (zs k)).toArray 5)) := by
  obtain ⟨i0, hi, hz0, hz1, hz2⟩ := info_parts Try_info5
  have h := run_make (P := Tryz.prog) W 60 5 i0 (.int .u8 0) Tryz.underlying60 hi hz0 .i64 .i64 (k : Int) (k : Int) (by omega) (Int.le_refl _) (by rw [hz2]; omega) (by omega)
  rw [h, hz1]
  simp only [Int.toNat_natCast, Nat.mul_one]
  congr 3
  apply Array.ext
  · simp [zs, cellsOf, size_madeCells]
  · intro j h1 h2
    simp [madeCells, zs, cellsOf, Value.cells, Nat.mod_one]
theorem m0 : manyL [] = 1 := by rw [many_is]; rfl
theorem m1 : manyL [1] = 1 := by rw [many_is]; rfl
end Go.Proofs.YtfgbpinfplllgaaGreatDoor
