/- SWEPT -/
import Derived.Test.YtfgbpinfplllgaaGreatDoorZStLay
set_option linter.unusedVariables false
set_option linter.unusedSimpArgs false
open Go.Lib (hid)
namespace Go.Proofs.YtfgbpinfplllgaaGreatDoor
open Go.RowKit Go.Shelf
set_option maxRecDepth 100000
theorem grownF_le {FJ : Nat → Prop} {w w1 : World} {k : Nat} (hs : w.heap.size ≤ w1.heap.size) (h : grownF FJ w1 k) : grownF FJ w k := h.imp id fun h => Nat.le_trans hs h
theorem LsV.one {α : Type} {E : Elem α} {w : World} {F : Nat → Prop} {v : Value} {ls : List α} (h : LsV E w F v ls) : v.oneCell' = true := by
  obtain ⟨A, c, rfl, _⟩ := h
  rfl
theorem ErV.one {w : World} {F : Nat → Prop} {v : Value} {n : Int} (h : ErV w F v n) : v.oneCell' = true := by rcases h with ⟨_, rfl⟩ | ⟨_, g, rfl, _⟩ <;> rfl
theorem small_rows {t : List Rw} (h : mayP t = true) (hl : t.length ≤ 100000000) : SmallR t := ⟨by omega, fun x hx => by have := (((may_iff t).1 h).1 x hx).2.1; omega⟩
theorem between_len (b : List Rw) (hb : mayP b = true) : (betweenP [] b).length ≤ b.length := by
  have : ∀ l : List Rw, (l.filterMap fun x => chgP [] b x.1).length ≤ l.length := fun l => List.length_filterMap_le _ _
  have h1 := this (keysP b)
  have h2 : (keysP b).length ≤ b.length := by
    have key : ∀ (l ks : List Rw), (l.foldl (fun ks x => withP (withoutP ks x.1) (x.1, [])) ks).length ≤ ks.length + l.length := by
      intro l
      induction l with
      | nil => intro ks; exact Nat.le_refl _
      | cons x l ih =>
        intro ks
        rw [List.foldl_cons, List.length_cons]
        have := ih (withP (withoutP ks x.1) (x.1, []))
        have h3 := stStep_len ks (x.1, [], false)
        unfold stepP at h3
        simp only [Bool.false_eq_true, if_false] at h3
        omega
    have := key b []
    simpa [keysP] using this
  unfold betweenP
  rw [List.nil_append]
  omega
set_option maxHeartbeats 4000000 in
theorem replace_v (K : K7) {w : World} {jb d : Nat} {v u : Value} {j : JS} {s : DS} {H : Nat} {FJ G : Nat → Prop} {rows : List Rw} (xA : Option Addr) (xn xc : Nat) (h : OnJ w jb d v j s H FJ) (hFJ : ∀ k, FJ k → k < w.heap.size) (hl : rows.length ≤ 20000) (hm : mayP rows = true) (hr : LsV rowE w G u rows)
    (hst : s.steps + 30000 < 4611686018427387904) (hq : s.q.length + 30000 < 1099511627776) :
    Calls Tryz.prog 132 #[.agg #[.pointer (some ⟨jb, 0, none⟩), .slice xA xn xc], u] w fun e w' => layRRet jb d j s H FJ (betweenP [] rows) w e w' := by
  have hmb := may_between may_nil hm
  have hlb := between_len rows hm
  have hu1 := hr.one
  have hbt := fun W (hb : Below w.heap.size w W) => K.betw [] rows (.slice none 0 0) u anyB G W ⟨Nat.zero_le _, fun x hx => by cases hx⟩ (small_rows hm (by omega)) (Nat.zero_le _) hl (LsV.nil _ _) (hr.below hb)
  have HB := hid hbt
  have HJ := hid h
  have HF := hid hFJ
  have HM := hid hm
  have HMB := hid hmb
  have HLB := hid (Nat.le_trans hlb hl)
  have HST := hid (And.intro hst hq)
  clear h hFJ hl hm hr hst hq hbt hmb hlb
  go_enter Tryz.func132, Tryz.ntmps132
  go_wp2_with fail
  have hb1 := (Below.refl w.heap.size w).alloc (Nat.le_refl _) (.cells #[.pointer (some ⟨jb, 0, none⟩), .slice xA xn xc] 85)
  have hk1 := Cs.new w 85 #[.pointer (some ⟨jb, 0, none⟩), .slice xA xn xc]
  generalize hg2 : w.heap.size = g2 at hk1 ⊢
  have HG2 := hid hg2
  generalize w.alloc (.cells #[.pointer (some ⟨jb, 0, none⟩), .slice xA xn xc] 85) = w1 at *
  have B1 := hid hb1
  have K1 := hid hk1
  clear hb1 hk1 hg2
  refine ((HB.out w1 B1.out).mono fun _ _ h => h.yes (by rw [HM.out]; rfl)).mono ?_
  rintro e w2 ⟨A2, c2, rfl, hl2, hb2⟩
  have B2 := hid (B1.out.trans (hb2.mono B1.out.size))
  have hk2 := K1.out.below hb2 K1.out.lt
  have c20 := hk2.cell 0 rfl
  have ha := hid (fun t => layR_v (u := .slice A2 (betweenP [] rows).length c2) (G := anyB) (l := betweenP [] rows) t ((HJ.out.below B2.out).mono (G := FJ) fun _ _ h => h) (fun k hk => Nat.lt_of_lt_of_le (HF.out k hk) B2.out.size) (may_small HMB.out (by have := HLB.out; omega)) (by have := HLB.out; omega) ((hl2.mono fun _ _ _ => trivial).chgE) HMB.out HST.out.1 HST.out.2)
  clear hl2 hb2 hk2 K1
  go_wp2_with fail
  refine (ha.out _).mono ?_
  rintro e w3 ⟨ev, v3, rfl, he, ho, ht⟩
  have hev := he.one
  have E3 := hid he
  have O3 := hid ho
  have T3 := hid ht
  clear he ho ht ha
  go_wp2_with fail
  go_ret
  have hs2 := B2.out.size
  exact ⟨ev, v3, rfl, E3.out.mono fun k _ hk => Nat.le_trans hs2 hk, O3.out.mono fun k _ hk => grownF_le hs2 hk, (Turn.of_below B2.out (grownF FJ w)).trans (T3.out.mono fun k _ hk => grownF_le hs2 hk) fun _ _ h => h⟩
structure SR where
  j : JS
  s : DS
  rows : List Rw
  e : Int
def commR (j : JS) (s : DS) (rows : List Rw) (H : Nat) (l : List Ch) : SR :=
  let now := applyP rows l
  let r := appR s j H (putFrom [] l)
  if r.2 = 10 ∨ r.2 = 3 then
    let j1 := appJ s j H (putFrom [] l)
    let r' := repR r.1 j1 H (putFrom [] (betweenP [] now))
    ⟨repJ r.1 j1 H (putFrom [] (betweenP [] now)), r'.1, if r'.2 = 0 then now else rows, r'.2⟩
  else ⟨appJ s j H (putFrom [] l), r.1, if r.2 = 0 then now else rows, r.2⟩
def StWithRet (jb d : Nat) (r : SR) (H : Nat) (FJ : Nat → Prop) (w : World) (e : Ending) (w' : World) : Prop := ∃ ev v' hA hn hc, ∃ hj : Option Addr, ∃ FJ', e = .returned (.tuple #[.agg #[.pointer hj, .slice hA hn hc], ev]) ∧ ErV w' (w.heap.size ≤ ·) ev r.e ∧ OnJ w' jb d v' r.j r.s H FJ' ∧ (∀ k, FJ' k → grownF FJ w k) ∧ Turn w w' (grownF FJ w) ∧
  (r.e = 0 → hj = some ⟨jb, 0, none⟩ ∧ LsV rowE w' (fun k => w.heap.size ≤ k ∧ ¬ FJ' k) (.slice hA hn hc) r.rows) ∧ hj = hj
end Go.Proofs.YtfgbpinfplllgaaGreatDoor
