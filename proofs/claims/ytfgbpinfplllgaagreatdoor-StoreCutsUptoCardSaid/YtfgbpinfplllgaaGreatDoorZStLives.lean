/- SWEPT -/
import Derived.Test.YtfgbpinfplllgaaGreatDoorZBchAK
import Derived.Test.YtfgbpinfplllgaaGreatDoorZStLivesP
set_option linter.unusedVariables false
set_option linter.unusedSimpArgs false
namespace Go.Proofs.YtfgbpinfplllgaaGreatDoor
open Go.RowKit Go.Shelf
set_option maxRecDepth 100000
theorem one_chg {w : World} {g1 g2 : Nat} {k : Key} {v : List UInt8} {c : Nat} (h1 : Cs w g1 5 (cellsOf v).toArray) (h2 : Cs w g2 73 #[.string ⟨k.toArray⟩, .slice (some ⟨g1, 0, none⟩) v.length v.length, .bool false]) (hl : v.length ≤ maxLen) (hc : 1 ≤ c) (hc2 : c ≤ maxLen) :
    LsV chgE w anyB (.slice (some ⟨g2, 0, none⟩) 1 c) [(k, v, false)] := by
  have hbv : BsV w anyB (.slice (some ⟨g1, 0, none⟩) v.length v.length) v := ⟨_, _, rfl, .inr ⟨g1, 0, rfl, trivial, fun j hj => by
    rw [Nat.zero_add]
    refine h1.cell j ?_
    simp [cellsOf, hj]⟩, (fun h => by cases h), Nat.le_refl _, hl⟩
  refine ⟨_, c, rfl, .inr ⟨g2, 0, [sv k, .slice (some ⟨g1, 0, none⟩) v.length v.length, .bool false], rfl, trivial, RowX.single ⟨_, rfl, hbv⟩, fun i u hu => ?_⟩, hc, hc2, fun h => by cases h⟩
  rw [Nat.zero_add]
  refine h2.cell i ?_
  rw [← hu]
  match i with
  | 0 => rfl
  | 1 => rfl
  | 2 => rfl
  | i + 3 => rfl
theorem some_v (k : Key) (n : Nat) (hn : n ≤ 10000) (w : World) : Calls Tryz.prog 59 #[.string ⟨k.toArray⟩, .int .i64 (n : Int)] w fun e w' => ∃ g, e = .returned (.slice (some ⟨g, 0, none⟩) 1 1) ∧ LsV chgE w' anyB (.slice (some ⟨g, 0, none⟩) 1 1) [(k, zs n, false)] ∧ Below w.heap.size w w' := by
  have km := fun W => mkzs n (by omega) W
  go_enter Tryz.func59, Tryz.ntmps59
  go_wp2
  go_ret
  have hb1 := (Below.refl w.heap.size w).alloc (Nat.le_refl _) (.cells (cellsOf (zs n)).toArray 5)
  have hk1 := Cs.new w 5 (cellsOf (zs n)).toArray
  have hz : (w.alloc (.cells (cellsOf (zs n)).toArray 5)).heap.size = w.heap.size + 1 := by simp
  generalize w.alloc (.cells (cellsOf (zs n)).toArray 5) = w1 at *
  have hb2 := (Below.refl w1.heap.size w1).alloc (Nat.le_refl _) (.cells #[.string ⟨k.toArray⟩, .slice (some ⟨w.heap.size, 0, none⟩) n n, .bool false] 73)
  have hk2 := Cs.new w1 73 #[.string ⟨k.toArray⟩, .slice (some ⟨w.heap.size, 0, none⟩) n n, .bool false]
  have hk1 := hk1.below hb2 hk1.lt
  rw [hz] at hk2
  have hl := zs_len n
  refine ⟨_, rfl, one_chg (v := zs n) hk1 (by rw [hl]; exact hk2) (by rw [hl]; simp only [maxLen]; omega) (Nat.le_refl _) (by decide), below_chain hb1 hb2⟩
theorem fresh_tells : LvS (makR (fresh (2 * 32)) 32 []).1 (makJ (fresh (2 * 32)) []) [] [[]] 1 0 5 := by
  obtain ⟨m1, m2, m3, m4, m5⟩ := mak_fresh (H := 32) (l := []) (by decide) (by rw [m0]; decide) (by decide) (by decide)
  rw [m0] at m2
  refine ⟨m2, ⟨m4 m0, m5⟩, ?_, told_first⟩
  rw [m3]
  exact m0
def LvM (w0 w : World) (sb d : Nat) (rows : List Rw) (now : List (List UInt8)) (u i K : Nat) : Prop := ∃ j s, OnS w sb d j s rows false 32 (w0.heap.size ≤ ·) ∧ LvS s j rows now u i K ∧ Below w0.heap.size w0 w
theorem LvM.below {w0 w w' : World} {sb d : Nat} {rows : List Rw} {now : List (List UInt8)} {u i K : Nat} (h : LvM w0 w sb d rows now u i K) (hb : Below w.heap.size w w') : LvM w0 w' sb d rows now u i K := by
  obtain ⟨j, s, h1, h2, h3⟩ := h
  exact ⟨j, s, h1.below hb, h2, h3.trans (hb.mono h3.size)⟩
theorem lm_room {w0 w : World} {sb d : Nat} {rows : List Rw} {now : List (List UInt8)} {u i K : Nat} (h : LvM w0 w sb d rows now u i K) : Calls Tryz.prog 34 #[.pointer (some ⟨sb, 0, none⟩)] w fun e w' => e = .returned (.int .i64 (32 - (u : Int))) ∧ LvM w0 w' sb d rows now u i K := by
  obtain ⟨j, s, h1, h2, h3⟩ := h
  refine (RoomS_v h1).mono ?_
  rintro e w' ⟨rfl, hb⟩
  rw [h2.used]
  exact ⟨rfl, j, s, h1.below hb, h2, h3.trans (hb.mono h3.size)⟩
theorem lm_commit (K7 : K7) {w0 w w1 : World} {sb d : Nat} {rows : List Rw} {now : List (List UInt8)} {u i K : Nat} (h : LvM w0 w sb d rows now u i K) (hg : LaidErr w0) {l : List Ch} {v : Value} (hb : Below w.heap.size w w1) (hr : LsV chgE w1 anyB v l) (hs : SmallC l) (hl : l.length ≤ 100) (hrl : rows.length ≤ 100) (hK : K ≤ 1000) :
    Calls Tryz.prog 18 #[.pointer (some ⟨sb, 0, none⟩), v] w1 fun e w' => ∃ j s, OnS w1 sb d j s rows false 32 (w0.heap.size ≤ ·) ∧ LvS s j rows now u i K ∧ e = .returned (.int .i64 (comR j s rows 32 l).1.e) ∧ OnS w' sb d (comR j s rows 32 l).1.j (comR j s rows 32 l).1.s (comR j s rows 32 l).1.rows (comR j s rows 32 l).2 32 (w0.heap.size ≤ ·) ∧ Below w0.heap.size w0 w' := by
  obtain ⟨j, s, h1, h2, h3⟩ := h
  have hb1 := h3.trans (hb.mono h3.size)
  refine (Commit_v K7 (h1.below hb) (hg.below hb1) (fun h0 => by have := hg.pos; omega) (fun k hk => by have := hb1.size; omega) (by omega) h2.told.may (by omega) hs hr (by have := h2.quiet.steps; omega) (by rw [h2.quiet.queue]; decide)).mono ?_
  rintro e w' ⟨rfl, ht, ho⟩
  exact ⟨j, s, h1.below hb, h2, rfl, ho, hb1.trans (ht.below hb1.size fun k hk => hk)⟩
theorem lm_app (K7 : K7) {w0 w w1 : World} {sb d : Nat} {rows : List Rw} {now : List (List UInt8)} {u i K : Nat} (h : LvM w0 w sb d rows now u i K) (hg : LaidErr w0) {l : List Ch} {v : Value} (hb : Below w.heap.size w w1) (hr : LsV chgE w1 anyB v l) (hs : SmallC l) (hll : l.length ≤ 100) (hrl : rows.length ≤ 100) (hK : K ≤ 1000)
    (hm : mayCP l = true) (hne : l ≠ []) {n m : Nat} (hn : (putFrom [] l).length = n) (hmn : max ((n + 41) / 42) 1 = m) (hfit : u + m ≤ 32) (hl : n ≤ 2000) (hi : i ≤ 100) :
    Calls Tryz.prog 18 #[.pointer (some ⟨sb, 0, none⟩), v] w1 fun e w' => e = .returned (.int .i64 0) ∧ LvM w0 w' sb d (applyP rows l) (now ++ [putFrom [] l]) (u + m) (i + 1) (K + m + 1) := by
  have hmm : manyL (putFrom [] l) = m := by rw [many_is, hn, hmn]
  refine (lm_commit K7 h hg hb hr hs hll hrl hK).mono ?_
  rintro e w' ⟨j, s, h1, h2, rfl, h3, h4⟩
  obtain ⟨q1, q2, q3, q4⟩ := lv_app h2 hm hne (by rw [hmm]; exact hfit) (by omega) hi
  rw [q2, q3] at h3
  rw [hmm] at q4
  rw [q1]
  exact ⟨rfl, _, _, h3, q4, h4⟩
theorem lm_full (K7 : K7) {w0 w w1 : World} {sb d : Nat} {rows : List Rw} {now : List (List UInt8)} {u i K : Nat} (h : LvM w0 w sb d rows now u i K) (hg : LaidErr w0) {l : List Ch} {v : Value} (hb : Below w.heap.size w w1) (hr : LsV chgE w1 anyB v l) (hs : SmallC l) (hll : l.length ≤ 100) (hrl : rows.length ≤ 100) (hK : K ≤ 1000)
    (hm : mayCP l = true) (hne : l ≠ []) {n m n2 m2 : Nat} (hn : (putFrom [] l).length = n) (hmn : max ((n + 41) / 42) 1 = m) (hfit : 32 < u + m) (hl : n ≤ 2000) (hi : i ≤ 100)
    (hn2 : (putFrom [] (betweenP [] (applyP rows l))).length = n2) (hmn2 : max ((n2 + 41) / 42) 1 = m2) (hfit2 : 32 < m2) (hl2 : n2 ≤ 2000) :
    Calls Tryz.prog 18 #[.pointer (some ⟨sb, 0, none⟩), v] w1 fun e w' => e = .returned (.int .i64 10) ∧ LvM w0 w' sb d rows now u i K := by
  have hmm : manyL (putFrom [] l) = m := by rw [many_is, hn, hmn]
  have hmm2 : manyL (putFrom [] (betweenP [] (applyP rows l))) = m2 := by rw [many_is, hn2, hmn2]
  refine (lm_commit K7 h hg hb hr hs hll hrl hK).mono ?_
  rintro e w' ⟨j, s, h1, h2, rfl, h3, h4⟩
  have hq := lv_full h2 hm hne (by rw [hmm]; exact hfit) (by omega) hi (by rw [hmm2]; exact hfit2) (by omega)
  rw [hq] at h3 ⊢
  exact ⟨rfl, _, _, h3, h2, h4⟩
theorem lm_rep (K7 : K7) {w0 w w1 : World} {sb d : Nat} {rows : List Rw} {now : List (List UInt8)} {u i K : Nat} (h : LvM w0 w sb d rows now u i K) (hg : LaidErr w0) {l : List Ch} {v : Value} (hb : Below w.heap.size w w1) (hr : LsV chgE w1 anyB v l) (hs : SmallC l) (hll : l.length ≤ 100) (hrl : rows.length ≤ 100) (hK : K ≤ 1000)
    (hm : mayCP l = true) (hne : l ≠ []) {n m n2 m2 : Nat} (hn : (putFrom [] l).length = n) (hmn : max ((n + 41) / 42) 1 = m) (hfit : 32 < u + m) (hl : n ≤ 2000) (hi : i ≤ 100)
    (hn2 : (putFrom [] (betweenP [] (applyP rows l))).length = n2) (hmn2 : max ((n2 + 41) / 42) 1 = m2) (hfit2 : m2 ≤ 32) (hl2 : n2 ≤ 2000) :
    Calls Tryz.prog 18 #[.pointer (some ⟨sb, 0, none⟩), v] w1 fun e w' => e = .returned (.int .i64 0) ∧ LvM w0 w' sb d (applyP rows l) [putFrom [] (betweenP [] (applyP rows l))] m2 (i + 1) (K + m2 + 1) := by
  have hmm : manyL (putFrom [] l) = m := by rw [many_is, hn, hmn]
  have hmm2 : manyL (putFrom [] (betweenP [] (applyP rows l))) = m2 := by rw [many_is, hn2, hmn2]
  refine (lm_commit K7 h hg hb hr hs hll hrl hK).mono ?_
  rintro e w' ⟨j, s, h1, h2, rfl, h3, h4⟩
  obtain ⟨q1, q2, q3, q4⟩ := lv_rep h2 hm hne (by rw [hmm]; exact hfit) (by omega) hi (by rw [hmm2]; exact hfit2) (by omega)
  rw [q2, q3] at h3
  rw [hmm2] at q4
  rw [q1]
  exact ⟨rfl, _, _, h3, q4, h4⟩
theorem lm_rows (K7 : K7) {w0 w : World} {sb d : Nat} {rows : List Rw} {now : List (List UInt8)} {u i K : Nat} (h : LvM w0 w sb d rows now u i K) (hrl : rows.length ≤ 100) :
    Calls Tryz.prog 30 #[.pointer (some ⟨sb, 0, none⟩)] w fun e w' => ∃ A c, e = .returned (.slice A rows.length c) ∧ LsV rowN w' (w.heap.size ≤ ·) (.slice A rows.length c) rows ∧ LvM w0 w' sb d rows now u i K := by
  obtain ⟨j, s, h1, h2, h3⟩ := h
  refine (Rows_v K7 h1 h2.told.may (by omega)).mono ?_
  rintro e w' ⟨A, c, rfl, hl, hb⟩
  exact ⟨A, c, rfl, hl, j, s, h1.below hb, h2, h3.trans (hb.mono h3.size)⟩
theorem lm_make {w0 w : World} {d : Nat} (hg : LaidErr w0) (hb : Below w0.heap.size w0 w) (h : DiskV w d (fresh (2 * 32)) (w0.heap.size ≤ ·)) :
    Calls Tryz.prog 10 #[.pointer (some ⟨d, 0, none⟩)] w fun e w' => ∃ sb, e = .returned (.tuple #[.pointer (some ⟨sb, 0, none⟩), .int .i64 0]) ∧ LvM w0 w' sb d [] [[]] 1 0 5 := by
  have hl := fresh_tells
  obtain ⟨m1, -⟩ := mak_fresh (H := 32) (l := []) (by decide) (by rw [m0]; decide) (by decide) (by decide)
  refine (MakeS_v (H := 32) h (hg.below hb) (fun h0 => by have := hg.pos; omega) rfl (by rw [fresh_next]; decide) (fun k hk => Nat.le_trans hb.size hk) (by decide) (by decide)).mono ?_
  rintro e w' ⟨ht, hh⟩
  rcases hh with ⟨h0, _⟩ | ⟨_, sb, rfl, _, ho⟩
  · exact absurd m1 h0
  · exact ⟨sb, rfl, _, _, ho, hl, hb.trans (ht.below hb.size fun k hk => hk)⟩
theorem lm_open (K7 : K7) {w0 w : World} {sb d : Nat} {rows : List Rw} {now : List (List UInt8)} {u i K : Nat} (h : LvM w0 w sb d rows now u i K) (hg : LaidErr w0) (hi : i ≤ 1000) (hbl : ∀ b ∈ now, b.length ≤ 1000000) (hsum : ∀ bs, decs now = some bs → bs.flatten.length ≤ 20000) :
    Calls Tryz.prog 15 #[.pointer (some ⟨d, 0, none⟩)] w fun e w' => ∃ so j s F, e = .returned (.tuple #[.pointer (some ⟨so, 0, none⟩), .int .i64 0]) ∧ OnS w' so d j s rows false 32 F ∧ Below w0.heap.size w0 w' := by
  obtain ⟨j, s, h1, h2, h3⟩ := h
  obtain ⟨f1, f2, f3, bs, f4, f5⟩ := open_facts h2.sj.head h2.told hi
  refine (OpenS_v K7 (H := 32) h1.disk (hg.below h3) h2.quiet.light h2.quiet.blocks f3 (by rw [f2]; exact hbl) (by rw [f2]; exact hsum)).mono ?_
  rintro e w' ⟨hb, hh⟩
  rw [f2] at hh
  rcases hh with ⟨h0 | h0, _⟩ | ⟨_, bs', so, e1, rfl, _, ho⟩
  · exact absurd h0 f1
  · rw [f4] at h0; cases h0
  · rw [f4] at e1
    cases e1
    rw [f5] at ho
    exact ⟨so, _, _, _, rfl, ho, h3.trans (hb.mono h3.size)⟩
end Go.Proofs.YtfgbpinfplllgaaGreatDoor
