/- Layer 7's laws: lives. -/
import Derived.Test.YtiemphfikfigdaaBatHands
namespace Go.Proofs.Ytiemphfikfigdaa
open Go.RowKit Go.Shelf
set_option linter.unusedVariables false
set_option maxRecDepth 100000
set_option linter.unusedSimpArgs false

theorem wpList_buildCh2 {w : World} {ops : Array Oper} {rest : List Oper} {o : Oper} {a : Act} {Q : Exit → Act → World → Prop} (hgd : o.guard = none) (x y : Operand) (ho : o.op = .buildSlice 22 2 #[(0, x), (1, y)]) (r s : Ch) (A B : Option Addr) (c d : Nat) (hx : a.eval x = .agg (chCells r A c).toArray) (hy : a.eval y = .agg (chCells s B d).toArray)
    (hK : ∀ g w', Cs w' g 52 (chCells r A c ++ chCells s B d).toArray → Below w.heap.size w w' → w.heap.size ≤ g → wpList Try.prog ops Q rest (a.put o.dst (.slice (some ⟨g, 0, none⟩) 2 2)) w') : wpList Try.prog ops Q (o :: rest) a w := by
  refine wpList_plain hgd fun _ hh => wp_of_run2 (v := .slice (some ⟨w.heap.size, 0, none⟩) 2 2) (w' := w.alloc (.cells (chCells r A c ++ chCells s B d).toArray 52)) ?_ (hh _ _ (hK _ _ (Cs.new _ _ _) ((Below.refl _ _).alloc (Nat.le_refl _) _) (Nat.le_refl _)))
  unfold execOp
  simp only [ho, hx, hy, List.map_toArray, List.map_cons, List.map_nil, chCells]
  go_simp
theorem wpList_buildCh1 {w : World} {ops : Array Oper} {rest : List Oper} {o : Oper} {a : Act} {Q : Exit → Act → World → Prop} (hw : Region.wanted o (yielded ops a.tmps) = true) (x : Operand) (ho : o.op = .buildSlice 22 1 #[(0, x)]) (r : Ch) (A : Option Addr) (c : Nat) (hx : a.eval x = .agg (chCells r A c).toArray)
    (hK : ∀ g w', Cs w' g 52 (chCells r A c).toArray → Below w.heap.size w w' → w.heap.size ≤ g → wpList Try.prog ops Q rest (a.put o.dst (.slice (some ⟨g, 0, none⟩) 1 1)) w') : wpList Try.prog ops Q (o :: rest) a w := by
  refine wpList_step fun K hh => ?_
  rw [if_pos hw]
  refine wp_of_run2 (v := .slice (some ⟨w.heap.size, 0, none⟩) 1 1) (w' := w.alloc (.cells (chCells r A c).toArray 52)) ?_ (hh _ _ (hK _ _ (Cs.new _ _ _) ((Below.refl _ _).alloc (Nat.le_refl _) _) (Nat.le_refl _)))
  unfold execOp
  simp only [ho, hx, List.map_toArray, List.map_cons, List.map_nil, chCells]
  go_simp
/-- two changes in a block -/
theorem ls_two {w : World} {g : Nat} {r s : Ch} {A B : Option Addr} {c d : Nat} {F G : Nat → Prop} (h : Cs w g 52 (chCells r A c ++ chCells s B d).toArray) (hr : BsV w F (.slice A r.2.1.length c) r.2.1) (hs : BsV w G (.slice B s.2.1.length d) s.2.1) : LsV chgE w anyB (.slice (some ⟨g, 0, none⟩) 2 2) [r, s] :=
  ⟨_, 2, rfl, .inr ⟨g, 0, _, rfl, trivial, (RowX.single (E := chgE) (x := r) ⟨_, rfl, hr.mono fun _ _ _ => trivial⟩).append (RowX.single (E := chgE) (x := s) ⟨_, rfl, hs.mono fun _ _ _ => trivial⟩), fun i v hv => by rw [Nat.zero_add]; exact h.cell i (by simpa [chCells, sv] using hv)⟩, Nat.le_refl _, by decide, fun e => by cases e⟩
theorem ls_one {w : World} {g : Nat} {r : Ch} {A : Option Addr} {c : Nat} {F : Nat → Prop} (h : Cs w g 52 (chCells r A c).toArray) (hr : BsV w F (.slice A r.2.1.length c) r.2.1) : LsV chgE w anyB (.slice (some ⟨g, 0, none⟩) 1 1) [r] :=
  ⟨_, 1, rfl, .inr ⟨g, 0, _, rfl, trivial, RowX.single (E := chgE) (x := r) ⟨_, rfl, hr.mono fun _ _ _ => trivial⟩, fun i v hv => by rw [Nat.zero_add]; exact h.cell i (by simpa [chCells, sv] using hv)⟩, Nat.le_refl _, by decide, fun e => by cases e⟩
theorem small_two (r s : Ch) (hr : r.1.length ≤ 100) (hs : s.1.length ≤ 100) : SmallC [r, s] := ⟨by simp, fun x hx => by
  simp at hx
  rcases hx with rfl | rfl <;> omega⟩
theorem c7_1 : mayCP [([97, 98], [7], false), ([97, 99], [], true)] = true ∧ putFrom [] [([97, 98], [7], false), ([97, 99], [], true)] = [0, 2, 97, 98, 0, 2, 7, 1, 1, 99, 0, 0] := by decide
theorem c7_2 : mayCP [([98], [], true), ([97], [], true)] = false := by decide
theorem c7_3 : getC [0, 1, 97, 0] = .error 4 := by rfl
theorem c7_4 : getC [1, 1, 97] = .error 5 := by rfl
theorem c7_5 : (mayP [([97], [7])] && mayCP [([97], [], true), ([98], [8], false)]) = true ∧ applyP [([97], [7])] [([97], [], true), ([98], [8], false)] = [([98], [8])] := by decide
theorem c7_6 : (mayP [([97], [7])] && mayP [([97], [9])]) = true ∧ betweenP [([97], [7])] [([97], [9])] = [([97], [9], false)] := by decide
theorem c7_7 : findP [([97], [7])] [98] = none := by decide
theorem c7_8 : sharedP [97, 98, 99] [97, 98, 100] = 2 := by decide
def l7b : List UInt8 := [0, 2, 97, 98, 0, 2, 7, 1, 1, 99, 0, 0]
theorem lv_put1 (K : K7) (v : Value) (w : World) (h : LsV chgE w anyB v [([97, 98], [7], false), ([97, 99], [], true)]) : Calls Try.prog 10 #[v] w fun e w' => ∃ A c, e = .returned (.tuple #[.slice A 12 c, .int .i64 0]) ∧ Rd w' A l7b ∧ Below w.heap.size w w' :=
  (K.put _ _ _ _ (small_two _ _ (by decide) (by decide)) (by decide) h).mono fun e w' h => by
    obtain ⟨A, c, rfl, hv, hb⟩ := h.yes c7_1.1
    rw [c7_1.2] at hv ⊢
    exact ⟨A, c, rfl, hv.at.2.1, hb⟩
theorem lv_put2 (K : K7) (v : Value) (w : World) (h : LsV chgE w anyB v [([98], [], true), ([97], [], true)]) : Calls Try.prog 10 #[v] w fun e w' => ∃ u, e = .returned (.tuple #[u, .int .i64 2]) ∧ Below w.heap.size w w' :=
  (K.put _ _ _ _ (small_two _ _ (by decide) (by decide)) (by decide) h).mono fun e w' h => by
    obtain ⟨A, c, rfl, hv, hb⟩ := h.no c7_2
    exact ⟨_, rfl, hb⟩
theorem lv_get (K : K7) (b : List UInt8) (er : Int) (hl : b.length ≤ 10000000) (he : getC b = .error er) (v : Value) (w : World) (h : BsV w anyB v b) : Calls Try.prog 12 #[v] w fun e w' => ∃ u, e = .returned (.tuple #[u, .int .i64 er]) ∧ Below w.heap.size w w' :=
  (K.get _ _ _ _ hl h).mono fun e w' h => by
    obtain ⟨A, c, rfl, hv, hb⟩ := h.err he
    exact ⟨_, rfl, hb⟩
theorem ls_row {w : World} {F : Nat → Prop} {g : Nat} {x : Rw} (h : RdX rowE w F (some ⟨g, 0, none⟩) [x]) : LsV rowE w F (.slice (some ⟨g, 0, none⟩) 1 1) [x] := ⟨_, 1, rfl, h, Nat.le_refl _, by decide, fun e => by cases e⟩
theorem small_row (x : Rw) (h : x.1.length ≤ 100) : SmallR [x] := ⟨by simp, fun y hy => by simp at hy; subst hy; omega⟩
theorem lv_apply (K : K7) (v u : Value) (F : Nat → Prop) (w : World) (h : LsV rowE w F v [([97], [7])]) (k : LsV chgE w anyB u [([97], [], true), ([98], [8], false)]) : Calls Try.prog 21 #[v, u] w fun e w' => ∃ A c, e = .returned (.tuple #[.slice A 1 c, .int .i64 0]) ∧ RdX rowE w' anyB A [([98], [8])] ∧ Below w.heap.size w w' :=
  (K.apply _ _ _ _ _ _ _ (small_row _ (by decide)) (small_two _ _ (by decide) (by decide)) (by decide) (by decide) h k).mono fun e w' h => by
    obtain ⟨A, c, rfl, hv, hb⟩ := h.yes c7_5.1
    rw [c7_5.2] at hv ⊢
    exact ⟨A, c, rfl, (hv.at.2.1.rowE).mono fun _ _ _ => trivial, hb⟩
theorem lv_betw (K : K7) (v u : Value) (F G : Nat → Prop) (w : World) (h : LsV rowE w F v [([97], [7])]) (k : LsV rowE w G u [([97], [9])]) : Calls Try.prog 26 #[v, u] w fun e w' => ∃ A c, e = .returned (.tuple #[.slice A 1 c, .int .i64 0]) ∧ RdX chgE w' anyB A [([97], [9], false)] ∧ Below w.heap.size w w' :=
  (K.betw _ _ _ _ _ _ _ (small_row _ (by decide)) (small_row _ (by decide)) (by decide) (by decide) h k).mono fun e w' h => by
    obtain ⟨A, c, rfl, hv, hb⟩ := h.yes c7_6.1
    rw [c7_6.2] at hv ⊢
    exact ⟨A, c, rfl, (hv.at.2.1.chgE).mono fun _ _ _ => trivial, hb⟩
theorem lv_find (K : K7) (v : Value) (F : Nat → Prop) (w : World) (h : LsV rowE w F v [([97], [7])]) : Calls Try.prog 28 #[v, .string ⟨([98] : Key).toArray⟩] w fun e w' => ∃ u, e = .returned (.tuple #[u, .bool false]) ∧ Below w.heap.size w w' :=
  (K.find _ _ _ _ _ (small_row _ (by decide)) (by decide) (by decide) h).mono fun e w' h => by
    obtain ⟨A, c, rfl, hv, hb⟩ := h.is c7_7
    exact ⟨_, rfl, hb⟩
theorem lv_shared (K : K7) (w : World) : Calls Try.prog 18 #[.string ⟨([97, 98, 99] : Key).toArray⟩, .string ⟨([97, 98, 100] : Key).toArray⟩] w fun e w' => e = .returned (.int .i64 2) ∧ Below w.heap.size w w' :=
  (K.shared _ _ _ (by decide) (by decide)).mono fun e w' h => by rw [c7_8] at h; exact h
theorem bs_new (w : World) (l : List UInt8) (n : Nat) (hn : l.length = n) (hm : n ≤ maxLen) : BsV (w.alloc (.cells (cellsOf l).toArray 5)) anyB (.slice (some ⟨w.heap.size, 0, none⟩) n n) l := by
  subst hn
  exact ⟨_, l.length, rfl, (rd_cs (l := l) (Cs.new w 5 (cellsOf l).toArray) rfl).f fun _ _ _ _ => trivial, (fun e => by cases e), Nat.le_refl _, hm⟩
set_option maxHeartbeats 8000000 in
theorem lives7_any (K : K7) (w : World) : Calls Try.prog 8 #[] w fun e w' => e = .returned (.bool true) ∧ Below w.heap.size w w' := by
  have HK := Lib.hid K
  have B0 := Lib.hid (Below.refl w.heap.size w)
  clear K
  go_enter Try.func8, Try.ntmps8
  -- the bytes
  go_wp2_with fail
  refine (put7_any [97, 98] 7 _).mono ?_
  rintro e w1 ⟨⟨g1, rfl, h1⟩, hb⟩
  have H1 := Lib.hid h1
  have B1 := Lib.hid (below_chain B0.out hb)
  clear h1 hb B0
  go_wp2_with fail
  refine (gone7_any [97, 99] _).mono ?_
  rintro e w2 ⟨rfl, hb⟩
  have H2 := Lib.hid (H1.out.below hb)
  have B2 := Lib.hid (below_chain B1.out hb)
  clear hb B1 H1
  go_wp2_with (refine wpList_buildCh2 rfl _ _ rfl ([97, 98], [7], false) ([97, 99], [], true) (some ⟨g1, 0, none⟩) none 1 0 rfl rfl ?_; intro g3 w3 hk hb hg; go_frame; have C3 := Lib.hid hk; have D3 := Lib.hid hb; clear hk hb hg)
  have L3 := Lib.hid (ls_two C3.out (H2.out.below D3.out) (BsV.nil _ anyB))
  have B3 := Lib.hid (below_chain B2.out D3.out)
  clear B2 H2 C3 D3
  refine (lv_put1 HK.out _ _ L3.out).mono ?_
  rintro e w4 ⟨A4, c4, rfl, hr, hb⟩
  have R4 := Lib.hid hr
  have B4 := Lib.hid (below_chain B3.out hb)
  clear hr hb B3 L3
  -- not in order
  go_wp2_with fail
  refine (gone7_any [98] _).mono ?_
  rintro e w5 ⟨rfl, hb⟩
  have R5 := Lib.hid (R4.out.below hb)
  have B5 := Lib.hid (below_chain B4.out hb)
  clear hb B4 R4
  go_wp2_with fail
  refine (gone7_any [97] _).mono ?_
  rintro e w6 ⟨rfl, hb⟩
  have R6 := Lib.hid (R5.out.below hb)
  have B6 := Lib.hid (below_chain B5.out hb)
  clear hb B5 R5
  go_wp2_with (refine wpList_buildCh2 rfl _ _ rfl ([98], [], true) ([97], [], true) none none 0 0 rfl rfl ?_; intro g7 w7 hk hb hg; go_frame; have C7 := Lib.hid hk; have D7 := Lib.hid hb; clear hk hb hg)
  have L7 := Lib.hid (ls_two C7.out (BsV.nil _ anyB) (BsV.nil _ anyB))
  have R7 := Lib.hid (R6.out.below D7.out)
  have B7 := Lib.hid (below_chain B6.out D7.out)
  clear B6 R6 C7 D7
  refine (lv_put2 HK.out _ _ L7.out).mono ?_
  rintro e w8 ⟨u8, rfl, hb⟩
  have R8 := Lib.hid (R7.out.below hb)
  have B8 := Lib.hid (below_chain B7.out hb)
  clear hb B7 L7 R7
  -- too short
  go_wp2_with fail
  have n8 := (Below.refl w8.heap.size w8).alloc (Nat.le_refl _) (.cells (cellsOf [0, 1, 97, 0]).toArray 5)
  have R9 := Lib.hid (R8.out.below n8)
  have B9 := Lib.hid (below_chain B8.out n8)
  clear n8 B8 R8
  refine (lv_get HK.out [0, 1, 97, 0] 4 (by decide) c7_3 _ _ (bs_new w8 [0, 1, 97, 0] 4 rfl (by decide))).mono ?_
  rintro e w10 ⟨u10, rfl, hb⟩
  have R10 := Lib.hid (R9.out.below hb)
  have B10 := Lib.hid (below_chain B9.out hb)
  clear hb B9 R9
  go_wp2_with fail
  have n10 := (Below.refl w10.heap.size w10).alloc (Nat.le_refl _) (.cells (cellsOf [1, 1, 97]).toArray 5)
  have R11 := Lib.hid (R10.out.below n10)
  have B11 := Lib.hid (below_chain B10.out n10)
  clear n10 B10 R10
  refine (lv_get HK.out [1, 1, 97] 5 (by decide) c7_4 _ _ (bs_new w10 [1, 1, 97] 3 rfl (by decide))).mono ?_
  rintro e w12 ⟨u12, rfl, hb⟩
  have R12 := Lib.hid (R11.out.below hb)
  have B12 := Lib.hid (below_chain B11.out hb)
  clear hb B11 R11
  go_wp2_with fail
  have n12 := (Below.refl w12.heap.size w12).alloc (Nat.le_refl _) (.cells (cellsOf l7b).toArray 5)
  have hsm := Same_any A4 (some ⟨w12.heap.size, 0, none⟩) l7b l7b c4 12 (w12.alloc (.cells (cellsOf l7b).toArray 5)) (R12.out.below n12) (bs_new w12 l7b 12 rfl (by decide)).at.2.1
  have B13 := Lib.hid (below_chain B12.out n12)
  clear n12 B12 R12
  refine hsm.mono ?_
  clear hsm
  rintro e w13 ⟨rfl, hw⟩
  rw [show (l7b == l7b) = true by decide]
  have B14 := Lib.hid (hw ▸ B13.out)
  clear hw B13
  -- tables
  go_wp2_with fail
  refine (row7_any [97] 7 _).mono ?_
  rintro e w15 ⟨⟨g15, rfl, hr⟩, hb⟩
  have R15 := Lib.hid (ls_row hr)
  have B15 := Lib.hid (below_chain B14.out hb)
  clear hr hb B14
  go_wp2_with fail
  refine (gone7_any [97] _).mono ?_
  rintro e w16 ⟨rfl, hb⟩
  have R16 := Lib.hid (R15.out.below hb)
  have B16 := Lib.hid (below_chain B15.out hb)
  clear hb B15 R15
  go_wp2_with fail
  refine (put7_any [98] 8 _).mono ?_
  rintro e w17 ⟨⟨g17, rfl, h1⟩, hb⟩
  have H17 := Lib.hid h1
  have R17 := Lib.hid (R16.out.below hb)
  have B17 := Lib.hid (below_chain B16.out hb)
  clear h1 hb B16 R16
  go_wp2_with (refine wpList_buildCh2 rfl _ _ rfl ([97], [], true) ([98], [8], false) none (some ⟨g17, 0, none⟩) 0 1 rfl rfl ?_; intro g18 w18 hk hb hg; go_frame; have C18 := Lib.hid hk; have D18 := Lib.hid hb; clear hk hb hg)
  have L18 := Lib.hid (ls_two C18.out (BsV.nil _ anyB) (H17.out.below D18.out))
  have R18 := Lib.hid (R17.out.below D18.out)
  have B18 := Lib.hid (below_chain B17.out D18.out)
  clear B17 H17 R17 C18 D18
  refine (lv_apply HK.out _ _ _ _ R18.out L18.out).mono ?_
  rintro e w19 ⟨A19, c19, rfl, hr, hb⟩
  have T19 := Lib.hid hr
  have B19 := Lib.hid (below_chain B18.out hb)
  clear hr hb B18 L18 R18
  go_wp2_with fail
  refine (row7_any [97] 7 _).mono ?_
  rintro e w20 ⟨⟨g20, rfl, hr⟩, hb⟩
  have R20 := Lib.hid (ls_row hr)
  have T20 := Lib.hid (T19.out.below hb)
  have B20 := Lib.hid (below_chain B19.out hb)
  clear hr hb B19 T19
  go_wp2_with fail
  refine (row7_any [97] 9 _).mono ?_
  rintro e w21 ⟨⟨g21, rfl, hr⟩, hb⟩
  have S21 := Lib.hid (ls_row hr)
  have R21 := Lib.hid (R20.out.below hb)
  have T21 := Lib.hid (T20.out.below hb)
  have B21 := Lib.hid (below_chain B20.out hb)
  clear hr hb B20 T20 R20
  go_wp2_with fail
  refine (lv_betw HK.out _ _ _ _ _ R21.out S21.out).mono ?_
  rintro e w22 ⟨A22, c22, rfl, hr, hb⟩
  have L22 := Lib.hid hr
  have T22 := Lib.hid (T21.out.below hb)
  have B22 := Lib.hid (below_chain B21.out hb)
  clear hr hb B21 R21 S21 T21
  go_wp2_with fail
  refine (row7_any [97] 7 _).mono ?_
  rintro e w23 ⟨⟨g23, rfl, hr⟩, hb⟩
  have R23 := Lib.hid (ls_row hr)
  have L23 := Lib.hid (L22.out.below hb)
  have T23 := Lib.hid (T22.out.below hb)
  have B23 := Lib.hid (below_chain B22.out hb)
  clear hr hb B22 T22 L22
  go_wp2_with fail
  refine (lv_find HK.out _ _ _ R23.out).mono ?_
  rintro e w24 ⟨u24, rfl, hb⟩
  have L24 := Lib.hid (L23.out.below hb)
  have T24 := Lib.hid (T23.out.below hb)
  have B24 := Lib.hid (below_chain B23.out hb)
  clear hb B23 T23 L23 R23
  -- the same?
  go_wp2_with fail
  refine (row7_any [98] 8 _).mono ?_
  rintro e w25 ⟨⟨g25, rfl, hr⟩, hb⟩
  have L25 := Lib.hid (L24.out.below hb)
  have hrs := Rows_any [([98], [8])] [([98], [8])] A19 (some ⟨g25, 0, none⟩) c19 1 _ _ w25 (by simp) (by simp) (T24.out.below hb) hr
  have B25 := Lib.hid (below_chain B24.out hb)
  clear hr hb B24 T24 L24
  go_wp2_with fail
  refine hrs.mono ?_
  clear hrs
  rintro e w26 ⟨rfl, hb⟩
  have L26 := Lib.hid (L25.out.below hb)
  have B26 := Lib.hid (below_chain B25.out hb)
  clear hb B25 L25
  (try simp only [decide_true, decide_eq_true rfl])
  go_wp2_with fail
  refine (put7_any [97] 9 _).mono ?_
  rintro e w27 ⟨⟨g27, rfl, h1⟩, hb⟩
  have H27 := Lib.hid h1
  have L27 := Lib.hid (L26.out.below hb)
  have B27 := Lib.hid (below_chain B26.out hb)
  clear h1 hb B26 L26
  go_wp2_with (refine wpList_buildCh1 (by rfl) _ rfl ([97], [9], false) (some ⟨g27, 0, none⟩) 1 rfl ?_; intro g28 w28 hk hb hg; go_frame; have C28 := Lib.hid hk; have D28 := Lib.hid hb; clear hk hb hg)
  have hcs := Changes_any [([97], [9], false)] [([97], [9], false)] A22 (some ⟨g28, 0, none⟩) c22 1 _ _ w28 (by simp) (by simp) (L27.out.below D28.out) (ls_one C28.out (H27.out.below D28.out)).at.2.1
  have B28 := Lib.hid (below_chain B27.out D28.out)
  clear B27 H27 L27 C28 D28
  refine hcs.mono ?_
  clear hcs
  rintro e w29 ⟨rfl, hb⟩
  have B29 := Lib.hid (below_chain B28.out hb)
  clear hb B28
  (try simp only [decide_true, decide_eq_true rfl])
  go_wp2_with fail
  refine (lv_shared HK.out _).mono ?_
  rintro e w30 ⟨rfl, hb⟩
  have B30 := Lib.hid (below_chain B29.out hb)
  clear hb B29
  go_wp2_with fail
  go_ret
  exact ⟨rfl, B30.out⟩

end Go.Proofs.Ytiemphfikfigdaa
