/- What is handed in stays; what is answered is new memory: the law's walk. -/
import Derived.Test.YtdjjlhfgfogdeaaTypedW
namespace Go.Proofs.Ytdjjlhfgfogdeaa
open Go.RowKit Go.Shelf
set_option linter.unusedVariables false
set_option maxRecDepth 100000
set_option linter.unusedSimpArgs false

/-- a journal on a quiet disk, its memory in F -/
def OV (w : World) (F : Nat → Prop) (H jb d : Nat) (bts : List (List UInt8)) (used frm : Nat) (next : Int) (K : Nat) : Prop := ∃ v s, OnJ w jb d v ⟨frm, bts, used, 0, next⟩ s H F ∧ Quiet s H K
theorem OV.turn {w w' : World} {F G : Nat → Prop} {H jb d : Nat} {bts : List (List UInt8)} {used frm : Nat} {next : Int} {K : Nat} (h : OV w F H jb d bts used frm next K) (ht : Turn w w' G) (hG : ∀ k, F k → ¬ G k) : OV w' F H jb d bts used frm next K := by
  obtain ⟨v, s, h1, h2⟩ := h
  exact ⟨v, s, h1.turn ht hG, h2⟩
theorem OV.below {w w' : World} {F : Nat → Prop} {H jb d : Nat} {bts : List (List UInt8)} {used frm : Nat} {next : Int} {K : Nat} (h : OV w F H jb d bts used frm next K) (hb : Below w.heap.size w w') : OV w' F H jb d bts used frm next K := h.turn (Turn.of_below hb fun _ => False) fun _ _ h => h
theorem OV.mono {w : World} {F G : Nat → Prop} {H jb d : Nat} {bts : List (List UInt8)} {used frm : Nat} {next : Int} {K : Nat} (h : OV w F H jb d bts used frm next K) (hG : ∀ k, k < w.heap.size → F k → G k) : OV w G H jb d bts used frm next K := by
  obtain ⟨v, s, h1, h2⟩ := h
  exact ⟨v, s, h1.mono hG, h2⟩
theorem OV.of {w : World} {F : Nat → Prop} {H jb d : Nat} {v : Value} {j : JS} {s : DS} {K : Nat} (h : OnJ w jb d v j s H F) (hq : Quiet s H K) (hf : j.first = 0) : OV w F H jb d j.batches j.used j.frm j.next K := by
  refine ⟨v, s, ?_, hq⟩
  have : (⟨j.frm, j.batches, j.used, 0, j.next⟩ : JS) = j := by rw [← hf]
  rw [this]
  exact h
set_option maxHeartbeats 1000000 in
theorem own_make {H : Nat} {u : World} {d : Nat} {F : Nat → Prop} {A : Option Addr} {c : Nat} {l : List UInt8} (h : DiskV u d (fresh (2 * H)) F) (hF : ∀ k, u.heap.size ≤ k → F k) (hr : RdF u (fun k => ¬ F k) A l) (hn : A = none → l = [] ∧ c = 0) (hlc : l.length ≤ c) (hc : c ≤ maxLen)
    (hl : l.length ≤ 524288) (hH : 1 ≤ H) (hu : manyL l ≤ H) (hH2 : H ≤ 8192) :
    Calls Try.prog 7 #[.pointer (some ⟨d, 0, none⟩), .slice A l.length c] u fun e w' => ∃ jb, e = .returned (.tuple #[.pointer (some ⟨jb, 0, none⟩), .int .i64 0]) ∧ OV w' F H jb d [l] (manyL l) 0 (1 + (manyL l : Int)) (manyL l + 4) ∧ Turn u w' F := by
  obtain ⟨m1, m2, m3, m4, m5⟩ := mak_fresh hH hu hl hH2
  refine (Make_v (A := A) (c := c) (Hf := H) l h rfl (by rw [fresh_next]; decide) hF hr hn hlc hc (by show 0 + 30000 < 4611686018427387904; decide) (by show 0 + 30000 < 1099511627776; decide)).mono ?_
  rintro e w' ⟨ht, hh⟩
  rcases hh with ⟨h0, _⟩ | ⟨_, jb, v, rfl, _, ho⟩
  · exact absurd m1 h0
  · rw [m3] at ho
    exact ⟨jb, rfl, OV.of ho m2 rfl, ht⟩
set_option maxHeartbeats 1000000 in
theorem own_app {H : Nat} {u : World} {jb d : Nat} {F : Nat → Prop} {bts : List (List UInt8)} {used frm : Nat} {next : Int} {K : Nat} {A : Option Addr} {c : Nat} {l : List UInt8} (h : OV u F H jb d bts used frm next K) (hF : ∀ k, u.heap.size ≤ k → F k) (hr : RdF u (fun k => ¬ F k) A l) (hn : A = none → l = [] ∧ c = 0) (hlc : l.length ≤ c) (hc : c ≤ maxLen)
    (hl : l.length ≤ 524288) (hu : used + manyL l ≤ H) (hx : next + (manyL l : Int) ≤ 100000) (hK : K ≤ 100000) :
    Calls Try.prog 11 #[.pointer (some ⟨jb, 0, none⟩), .slice A l.length c] u fun e w' => e = .returned (.int .i64 0) ∧ OV w' F H jb d (bts ++ [l]) (used + manyL l) frm (next + (manyL l : Int)) (K + manyL l + 1) ∧ Turn u w' F := by
  obtain ⟨v, s, h2, h3⟩ := h
  have hfr : frm ≤ H := by obtain ⟨_, _, _, _, _, _, _, _, _, h8⟩ := h2; exact h8
  have hst := h3.steps
  refine (Append_v (A := A) (c := c) l h2 hF hr hn hlc hc (by omega) (by rw [h3.queue]; decide)).mono ?_
  rintro e w' ⟨rfl, v', ho, ht⟩
  obtain ⟨q1, q2, q3⟩ := quiet_app (j := ⟨frm, bts, used, 0, next⟩) h3 hl hu hfr (show next + (manyL l : Int) - 1 ≤ 2147483648 by omega)
  rw [q1]
  rw [q3] at ho
  exact ⟨rfl, OV.of ho q2 rfl, ht⟩
theorem own_bat {H : Nat} {u : World} {jb d : Nat} {F : Nat → Prop} {bts : List (List UInt8)} {used frm : Nat} {next : Int} {K : Nat} (h : OV u F H jb d bts used frm next K) (hb : ∀ b ∈ bts, b.length ≤ 1000000) : Calls Try.prog 14 #[.pointer (some ⟨jb, 0, none⟩)] u fun e w' => BatRet bts u e w' := by
  obtain ⟨v, s, h2, h3⟩ := h
  exact Batches_v h2 hb
/-- an owned row of two -/
theorem OwnV.two {w : World} {base : Nat} {F : Nat → Prop} {v : Value} {vs : List Value} {l0 l1 : List UInt8} (h : OwnV w base F v vs [l0, l1]) : ∃ g cap u0 u1, v = .slice (some ⟨g, 0, none⟩) 2 cap ∧ 2 ≤ cap ∧ cap ≤ maxLen ∧ w.cell? ⟨g, 0, none⟩ = some u0 ∧ w.cell? ⟨g, 1, none⟩ = some u1 ∧ TyB w u0 ∧ TyB w u1 ∧
    (∀ k, u0.ownBlock = some k → base ≤ k ∧ k ≠ g) ∧ (∀ k, u1.ownBlock = some k → base ≤ k) ∧ RdR w F (some ⟨g, 0, none⟩) [l0, l1] := by
  have hlen := h.row.1
  obtain ⟨u0, u1, rfl⟩ : ∃ u0 u1, vs = [u0, u1] := by
    match vs, hlen with
    | [a, b], _ => exact ⟨a, b, rfl⟩
  obtain ⟨A, c, hv, hr, h1, h2, h3⟩ := h.r.form
  obtain ⟨g, cap, e, _⟩ := own_form h.row (by simp)
  have hce := fun j u hj => h.row.cells (g := g) (by rw [e]; rfl) j u hj
  rw [e] at hv
  cases hv
  obtain ⟨_, cs, hcs⟩ := own_blk h.row (k := g) (by rw [e]; rfl)
  refine ⟨g, c, u0, u1, e, h1, h2, hce 0 u0 rfl, hce 1 u1 rfl, h.ty u0 (by simp), h.ty u1 (by simp), fun k hk => ⟨h.new u0 (by simp) k hk, ?_⟩, fun k hk => h.new u1 (by simp) k hk, hr⟩
  have ht := h.ty u0 (by simp)
  rcases ht with rfl | ⟨g', n, cap', cur, rfl, hc', _⟩
  · cases hk
  · cases hk
    exact Cs.ne hc' hcs (by decide)
/-- two slices, built into a list -/
theorem two_built {w : World} {A0 A1 : Option Addr} {c0 c1 : Nat} {l0 l1 : List UInt8} (rd0 : Rd w A0 l0) (rd1 : Rd w A1 l1) (n0 : A0 = none → l0 = [] ∧ c0 = 0) (n1 : A1 = none → l1 = [] ∧ c1 = 0) (h0 : l0.length ≤ c0) (h1 : l1.length ≤ c1) (m0 : c0 ≤ maxLen) (m1 : c1 ≤ maxLen) :
    RdR (w.alloc (.cells #[.slice A0 l0.length c0, .slice A1 l1.length c1] 31)) (fun _ => True) (some ⟨w.heap.size, 0, none⟩) [l0, l1] := by
  have hb := (Below.refl w.heap.size w).alloc (Nat.le_refl _) (.cells #[.slice A0 l0.length c0, .slice A1 l1.length c1] 31)
  have hc := Cs.new w 31 #[.slice A0 l0.length c0, .slice A1 l1.length c1]
  refine .inr ⟨w.heap.size, 0, [.slice A0 l0.length c0, .slice A1 l1.length c1], rfl, trivial, ⟨rfl, fun j hj => ?_⟩, fun j v hv => ?_⟩
  · match j, hj with
    | 0, _ => exact ⟨_, rfl, A0, c0, rfl, (rd0.below hb).f fun _ _ _ _ => trivial, n0, h0, m0⟩
    | 1, _ => exact ⟨_, rfl, A1, c1, rfl, (rd1.below hb).f fun _ _ _ _ => trivial, n1, h1, m1⟩
  · rw [Nat.zero_add]
    exact hc.cell j (by simpa using hv)
theorem many_2000 {l : List UInt8} (h : l.length ≤ 2000) : manyL l ≤ 48 := by rw [many_is]; omega
set_option maxHeartbeats 8000000 in
theorem own_walk (l0 l1 : List UInt8) (A0 A1 : Option Addr) (c0 c1 bn : Nat) (w : World) (hl0 : l0.length ≤ 140737488351232) (hl1 : l1.length ≤ 140737488351232) (rd0 : Rd w A0 l0) (rd1 : Rd w A1 l1) (n0 : A0 = none → l0 = [] ∧ c0 = 0) (n1 : A1 = none → l1 = [] ∧ c1 = 0) (h0 : l0.length ≤ c0) (h1 : l1.length ≤ c1) (m0 : c0 ≤ maxLen) (m1 : c1 ≤ maxLen) (hbn : bn < 256) :
    Calls Try.prog 4 #[.slice A0 l0.length c0, .slice A1 l1.length c1, .int .u8 (bn : Int)] w fun e w' => e = .returned (.bool true) ∧ Below w.heap.size w w' := by
  by_cases hlong : 2000 < l0.length ∨ 2000 < l1.length
  · have hfin : ∀ u, Below w.heap.size w u → Calls Try.prog 9 #[] u fun e W' => e = .returned (.bool true) ∧ Below w.heap.size w W' := fun u hb => (lives_any u).mono fun e W' ⟨he, hh⟩ => ⟨he, below_chain hb hh⟩
    have HF := Lib.hid hfin
    clear hfin rd0 rd1 n0 n1 m0 m1 h0 h1
    rcases hlong with hlong | hlong
    · have hlong' : (2000 : Int) < (l0.length : Int) := by omega
      go_enter Try.func4, Try.ntmps4
      go_wp2_with fail
      refine (New_v 400 w (by decide) (by decide)).mono ?_
      rintro e w1 ⟨d, rfl, -, hb1⟩
      have B1 := Lib.hid hb1
      clear hb1
      go_wp2_with fail
      refine (HF.out _ B1.out).mono ?_
      rintro e w2 ⟨rfl, hb2⟩
      have B2 := Lib.hid hb2
      clear hb2
      go_wp2_with fail
      go_ret
      exact ⟨rfl, B2.out⟩
    · have hlong' : (2000 : Int) < (l1.length : Int) := by omega
      by_cases hs : 2000 < l0.length
      · have hs' : (2000 : Int) < (l0.length : Int) := by omega
        go_enter Try.func4, Try.ntmps4
        go_wp2_with fail
        refine (New_v 400 w (by decide) (by decide)).mono ?_
        rintro e w1 ⟨d, rfl, -, hb1⟩
        have B1 := Lib.hid hb1
        clear hb1
        go_wp2_with fail
        refine (HF.out _ B1.out).mono ?_
        rintro e w2 ⟨rfl, hb2⟩
        have B2 := Lib.hid hb2
        clear hb2
        go_wp2_with fail
        go_ret
        exact ⟨rfl, B2.out⟩
      · have hs' : ¬ (2000 : Int) < (l0.length : Int) := by omega
        go_enter Try.func4, Try.ntmps4
        go_wp2_with fail
        refine (New_v 400 w (by decide) (by decide)).mono ?_
        rintro e w1 ⟨d, rfl, -, hb1⟩
        have B1 := Lib.hid hb1
        clear hb1
        go_wp2_with fail
        refine (HF.out _ B1.out).mono ?_
        rintro e w2 ⟨rfl, hb2⟩
        have B2 := Lib.hid hb2
        clear hb2
        go_wp2_with fail
        go_ret
        exact ⟨rfl, B2.out⟩
  · obtain ⟨hs0, hs1⟩ : l0.length ≤ 2000 ∧ l1.length ≤ 2000 := by omega
    have hs0' : ¬ (2000 : Int) < (l0.length : Int) := by omega
    have hs1' : ¬ (2000 : Int) < (l1.length : Int) := by omega
    obtain ⟨bx, hbx, hor⟩ := or_one bn hbn
    have hbx' : (bx : Int) ≤ 255 := by omega
    have M0 := Lib.hid (many_2000 hs0)
    have M1 := Lib.hid (many_2000 hs1)
    have R0 := Lib.hid rd0
    have R1 := Lib.hid rd1
    have N0 := Lib.hid n0
    have N1 := Lib.hid n1
    have HC0 := Lib.hid (And.intro h0 m0)
    have HC1 := Lib.hid (And.intro h1 m1)
    have HS := Lib.hid (And.intro hs0 hs1)
    clear rd0 rd1 n0 n1 hlong hl0 hl1
    unfold maxLen at m0 m1
    go_enter Try.func4, Try.ntmps4
    go_wp2_with fail
    refine (New_v 400 w (by decide) (by decide)).mono ?_
    rintro e w1 ⟨d, rfl, hd, hb1⟩
    have D1 := Lib.hid (show DiskV w1 d (fresh (2 * 200)) (w.heap.size ≤ ·) from hd)
    have B1 := Lib.hid hb1
    clear hd hb1
    go_wp2_with fail
    refine (Wide_ty l0 A0 c0 w1 (by have := HS.out; omega) (R0.out.below B1.out) N0.out).mono ?_
    rintro e w2 ⟨g0, p0, rfl, k1, k2, k3, k4, k5, k6, k7⟩
    have W0 := Lib.hid (And.intro k1 k2)
    have RW0 := Lib.hid k3
    have TW0 := Lib.hid k4
    have G0 := Lib.hid (And.intro k5 k6)
    have B2 := Lib.hid k7
    clear k1 k3 k4 k5 k6 k7
    unfold maxLen at k2
    go_wp2_with fail
    refine (Wide_ty l1 A1 c1 w2 (by have := HS.out; omega) (R1.out.below (below_chain B1.out B2.out)) N1.out).mono ?_
    rintro e w3 ⟨g1, p1, rfl, q1, q2, q3, q4, q5, q6, q7⟩
    have W1 := Lib.hid (And.intro q1 q2)
    have RW1 := Lib.hid q3
    have TW1 := Lib.hid q4
    have G1 := Lib.hid (And.intro q5 q6)
    have B3 := Lib.hid q7
    clear q1 q3 q4 q5 q6 q7
    unfold maxLen at q2
    -- the journal's memory
    obtain ⟨F, hFd⟩ : ∃ F : Nat → Prop, F = fun k => w.heap.size ≤ k ∧ k ≠ g0 ∧ k ≠ g1 := ⟨_, rfl⟩
    have z1 := B1.out.size
    have z2 := B2.out.size
    have z3 := B3.out.size
    have hFnew : ∀ u : World, w3.heap.size ≤ u.heap.size → ∀ k, u.heap.size ≤ k → F k := fun u hu k hk => by have := G0.out; have := G1.out; rw [hFd]; exact ⟨by omega, by omega, by omega⟩
    have hFw : ∀ k, F k → w.heap.size ≤ k := fun k hk => by rw [hFd] at hk; exact hk.1
    have hF0 : ¬ F g0 := fun hk => by rw [hFd] at hk; exact hk.2.1 rfl
    have hF1 : ¬ F g1 := fun hk => by rw [hFd] at hk; exact hk.2.2 rfl
    have D3 := Lib.hid (show DiskV w3 d (fresh (2 * 200)) F from ((D1.out.within fun k hh hk => by have := G0.out; have := G1.out; rw [hFd]; exact ⟨hh, by omega, by omega⟩).below B2.out).below B3.out)
    have GW := Lib.hid (show w.heap.size ≤ g0 ∧ w.heap.size ≤ g1 by have := G0.out; have := G1.out; omega)
    have FN := Lib.hid hFnew
    have FW := Lib.hid hFw
    have F0 := Lib.hid hF0
    have F1 := Lib.hid hF1
    clear hFd hFnew hFw hF0 hF1 D1
    have RW0b := Lib.hid (RW0.out.below B3.out)
    have TW0b := Lib.hid (TW0.out.below B3.out)
    have BW := Lib.hid (below_chain B1.out (below_chain B2.out B3.out))
    clear RW0 TW0 B1 B2 B3 z1 z2 z3
    go_wp2_with fail
    refine (own_make (H := 200) (A := some ⟨g0, 0, none⟩) (c := p0) (l := l0) D3.out (FN.out w3 (Nat.le_refl _)) ((rd_prefix RW0b.out).f fun b off e _ => by cases e; exact F0.out) (fun h => by cases h) (by have := W0.out; omega) W0.out.2 (by have := HS.out; omega) (by decide) (by have := M0.out; omega) (by decide)).mono ?_
    rintro e w4 ⟨jb, rfl, hov, ht⟩
    have O4 := Lib.hid hov
    have T4 := Lib.hid ht
    clear hov ht D3
    go_wp2_with fail
    have z4 := T4.out.size
    refine (own_app (A := some ⟨g1, 0, none⟩) (c := p1) (l := l1) O4.out (FN.out w4 z4) (((rd_prefix RW1.out).turn T4.out fun a e => by cases e; exact F1.out).f fun b off e _ => by cases e; exact F1.out) (fun h => by cases h) (by have := W1.out; omega) W1.out.2 (by have := HS.out; omega) (by have := M0.out; have := M1.out; omega) (by have := M0.out; have := M1.out; omega) (by have := M0.out; omega)).mono ?_
    rintro e w5 ⟨rfl, hov, ht⟩
    have O5 := Lib.hid hov
    have T5 := Lib.hid (T4.out.trans ht fun _ _ h => h)
    clear hov ht O4 T4 z4
    have B5 := Lib.hid (BW.out.trans (T5.out.below BW.out.size fun k hk => FW.out k hk))
    have RV0 := Lib.hid (RW0b.out.turn T5.out fun a e => by cases e; exact F0.out)
    have RV1 := Lib.hid (RW1.out.turn T5.out fun a e => by cases e; exact F1.out)
    have TV0 := Lib.hid (TW0b.out.turn T5.out fun k e => by cases e; exact F0.out)
    have TV1 := Lib.hid (TW1.out.turn T5.out fun k e => by cases e; exact F1.out)
    clear RW0b RW1 TW0b TW1 BW
    go_wp2_with fail
    refine (Left_any l0 A0 c0 g0 p0 w5 W0.out.1 W0.out.2 RV0.out (R0.out.below B5.out)).mono ?_
    rintro e _ ⟨rfl, rfl⟩
    go_wp2_with fail
    refine (Left_any l1 A1 c1 g1 p1 w5 W1.out.1 W1.out.2 RV1.out (R1.out.below B5.out)).mono ?_
    rintro e _ ⟨rfl, rfl⟩
    clear RV0 RV1
    go_wp2_with fail
    refine (Spoil_ty _ bx hbx w5 TV0.out).mono ?_
    rintro e w6 ⟨⟨x6, rfl⟩, t6, y6⟩
    have O6 := Lib.hid (O5.out.turn t6 fun k hk e => by cases e; exact F0.out hk)
    have B6 := Lib.hid (B5.out.trans (t6.below B5.out.size fun k e => by cases e; exact GW.out.1))
    have TV1b := Lib.hid (y6 _ TV1.out)
    clear t6 y6 O5 B5 TV0 TV1
    go_wp2_with fail
    refine (Spoil_ty _ bx hbx w6 TV1b.out).mono ?_
    rintro e w7 ⟨⟨x7, rfl⟩, t7, y7⟩
    have O7 := Lib.hid (O6.out.turn t7 fun k hk e => by cases e; exact F1.out hk)
    have B7 := Lib.hid (B6.out.trans (t7.below B6.out.size fun k e => by cases e; exact GW.out.2))
    clear t7 y7 O6 B6 TV1b
    go_wp2_with fail
    have hbs : ∀ b ∈ [l0] ++ [l1], b.length ≤ 1000000 := fun b hb => by
      have := HS.out
      simp at hb
      rcases hb with rfl | rfl <;> omega
    have HBS := Lib.hid hbs
    clear hbs
    refine (own_bat O7.out HBS.out).mono ?_
    rintro e w8 ⟨v8, vs8, rfl, ho8, hb8⟩
    obtain ⟨g8, p8, u0, u1, rfl, a1, a2, e0, e1, ty0, ty1, nw0, nw1, rr⟩ := OwnV.two (l0 := l0) (l1 := l1) ho8
    have O8 := Lib.hid (O7.out.below hb8)
    have OW := Lib.hid (O7.out.mono (G := (· < w7.heap.size)) fun k hk _ => hk)
    have Z8 := Lib.hid hb8.size
    have Z7a := Lib.hid B7.out.size
    have B8 := Lib.hid (below_chain B7.out hb8)
    have E0 := Lib.hid e0
    have E1 := Lib.hid e1
    have TY0 := Lib.hid ty0
    have TY1 := Lib.hid ty1
    have NW0 := Lib.hid nw0
    have NW1 := Lib.hid nw1
    have RR := Lib.hid rr
    have OW8 := Lib.hid (OW.out.below hb8)
    clear ho8 hb8 e0 e1 ty0 ty1 nw0 nw1 rr O7 OW B7
    unfold maxLen at a2
    go_wp2_with fail
    have RB := Lib.hid (two_built (w := w8) (R0.out.below B8.out) (R1.out.below B8.out) N0.out N1.out HC0.out.1 HC1.out.1 HC0.out.2 HC1.out.2)
    have BB := Lib.hid ((Below.refl w8.heap.size w8).alloc (Nat.le_refl _) (.cells #[.slice A0 l0.length c0, .slice A1 l1.length c1] 31))
    have hl := Lists_any [l0, l1] [l0, l1] (some ⟨g8, 0, none⟩) (some ⟨w8.heap.size, 0, none⟩) p8 2 _ _ _ (by simp) (by simp) (RR.out.below BB.out) RB.out
    rw [show (([l0, l1] : List (List UInt8)) == [l0, l1]) = true by simp] at hl
    have O9 := Lib.hid (OW8.out.below BB.out)
    have E0b := Lib.hid ((BB.out.cell (lt_of_cell E0.out)).trans E0.out)
    have E1b := Lib.hid ((BB.out.cell (lt_of_cell E1.out)).trans E1.out)
    have TY0b := Lib.hid (TY0.out.below BB.out)
    have TY1b := Lib.hid (TY1.out.below BB.out)
    have B9 := Lib.hid (below_chain B8.out BB.out)
    clear O8 OW8 E0 E1 TY0 TY1 B8 RB BB RR
    generalize w8.alloc (.cells #[.slice A0 l0.length c0, .slice A1 l1.length c1] 31) = w9 at *
    refine hl.mono ?_
    clear hl
    rintro e w10 ⟨rfl, hb⟩
    have O10 := Lib.hid (O9.out.below hb)
    have e0 := (hb.cell (lt_of_cell E0b.out)).trans E0b.out
    have E1c := Lib.hid ((hb.cell (lt_of_cell E1b.out)).trans E1b.out)
    have TY0c := Lib.hid (TY0b.out.below hb)
    have TY1c := Lib.hid (TY1b.out.below hb)
    have B10 := Lib.hid (below_chain B9.out hb)
    have Z10 := Lib.hid hb.size
    clear hb O9 E0b E1b TY0b TY1b B9
    go_wp2_with fail
    clear e0
    refine (Spoil_ty u0 bx hbx w10 TY0c.out).mono ?_
    rintro e w11 ⟨⟨x11, rfl⟩, t11, y11⟩
    have O11 := Lib.hid (O10.out.turn t11 fun k hk e => by have := (NW0.out k e).1; have : k < w7.heap.size := hk; omega)
    have zw := B10.out.size
    have Z7 := Lib.hid (show w.heap.size ≤ w7.heap.size from Z7a.out)
    have B11 := Lib.hid (B10.out.trans (t11.below zw fun k e => Nat.le_trans Z7.out (NW0.out k e).1))
    have e1 : w11.cell? ⟨g8, 1, none⟩ = some u1 := (World.cell?_of_block (w := w10) (t11.block g8 (lt_of_cell E1c.out) fun e => (NW0.out g8 e).2 rfl)).trans E1c.out
    have TY1d := Lib.hid (y11 _ TY1c.out)
    clear t11 y11 O10 zw B10 TY0c TY1c E1c
    go_wp2_with fail
    clear e1
    refine (Spoil_ty u1 bx hbx w11 TY1d.out).mono ?_
    rintro e w12 ⟨⟨x12, rfl⟩, t12, y12⟩
    have O12 := Lib.hid (O11.out.turn t12 fun k hk e => by have := NW1.out k e; have : k < w7.heap.size := hk; omega)
    have zw := B11.out.size
    have B12 := Lib.hid (B11.out.trans (t12.below zw fun k e => Nat.le_trans Z7.out (NW1.out k e)))
    clear t12 y12 O11 zw B11 TY1d NW0 NW1
    go_wp2_with fail
    refine (own_bat O12.out HBS.out).mono ?_
    rintro e w13 ⟨v13, vs13, rfl, ho13, hb13⟩
    obtain ⟨g13, p13, y0, y1, rfl, a3, a4, -, -, -, -, -, -, rr⟩ := OwnV.two (l0 := l0) (l1 := l1) ho13
    have RR := Lib.hid rr
    have B13 := Lib.hid (below_chain B12.out hb13)
    clear ho13 hb13 rr O12 B12
    unfold maxLen at a4
    go_wp2_with fail
    have RB := Lib.hid (two_built (w := w13) (R0.out.below B13.out) (R1.out.below B13.out) N0.out N1.out HC0.out.1 HC1.out.1 HC0.out.2 HC1.out.2)
    have BB := Lib.hid ((Below.refl w13.heap.size w13).alloc (Nat.le_refl _) (.cells #[.slice A0 l0.length c0, .slice A1 l1.length c1] 31))
    have hl := Lists_any [l0, l1] [l0, l1] (some ⟨g13, 0, none⟩) (some ⟨w13.heap.size, 0, none⟩) p13 2 _ _ _ (by simp) (by simp) (RR.out.below BB.out) RB.out
    rw [show (([l0, l1] : List (List UInt8)) == [l0, l1]) = true by simp] at hl
    have B14 := Lib.hid (below_chain B13.out BB.out)
    clear B13 RB BB RR
    generalize w13.alloc (.cells #[.slice A0 l0.length c0, .slice A1 l1.length c1] 31) = w14 at *
    refine hl.mono ?_
    clear hl
    rintro e w15 ⟨rfl, hb⟩
    have B15 := Lib.hid (below_chain B14.out hb)
    clear hb B14
    go_wp2_with fail
    refine (lives_any w15).mono ?_
    rintro e w16 ⟨rfl, hb⟩
    have B16 := Lib.hid (below_chain B15.out hb)
    clear hb B15
    go_wp2_with fail
    go_ret
    exact ⟨rfl, B16.out⟩

end Go.Proofs.Ytdjjlhfgfogdeaa
