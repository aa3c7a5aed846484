/- The reference: all ends; the spans of a set, with a span or without it. -/
import Derived.Test.YthjcnijageiaiaaSpa3
namespace Go.Proofs.Ythjcnijageiaiaa
open Go.RowKit Go.Shelf
set_option linter.unusedVariables false
set_option maxRecDepth 100000
set_option linter.unusedSimpArgs false

theorem AppX.old {α : Type} {E : Elem α} {w0 w1 w : World} {v : Value} {l : List α} (h : AppX E w1 v l w) (hb : Below w0.heap.size w0 w1) : AppX E w0 v l w := ⟨(h.1.base hb.size).mono fun k _ hk => Nat.le_trans hb.size hk, below_chain hb h.2⟩
theorem AppX.form {α : Type} {E : Elem α} {w0 w : World} {v : Value} {l : List α} (h : AppX E w0 v l w) : ∃ A c, v = .slice A l.length c ∧ RdX E w (w0.heap.size ≤ ·) A l := by
  obtain ⟨A, c, h1, h2, -⟩ := h.1.form
  exact ⟨A, c, h1, h2⟩
theorem own_sp1 {w : World} {g base : Nat} {F : Nat → Prop} {s : Sp} (h : Cs w g 25 (spC s).toArray) (hs : s.1 < 4294967296 ∧ s.2 < 4294967296) (hb : base ≤ g) (hF : F g) : OwnX spE w base F (.slice (some ⟨g, 0, none⟩) 1 1) [s] :=
  ⟨⟨spC s, ⟨rfl, .inr ⟨g, 1, (spC s).toArray, rfl, hb, h, Nat.le_refl _, by decide, rfl, rfl⟩⟩, RowX.single ⟨rfl, hs⟩⟩, fun k hk => by cases hk; exact hF⟩
theorem own_flat {w : World} {B : Nat} {F : Nat → Prop} {v : Value} {l : List Sp} (h : OwnX spE w B F v l) : OwnX spE w B (B ≤ ·) v l := by
  obtain ⟨⟨xs, h1, h2⟩, h3⟩ := id h
  exact ⟨⟨xs, h1, h2.1, h2.2⟩, fun k hk => (h.lt k hk).1⟩
theorem infoSpan : (Try.prog.info? 25).map (·.size) = some 2 := by kernel_rfl
theorem infoU32 : (Try.prog.info? 23).map (·.size) = some 1 := by kernel_rfl
theorem row_last {w w' : World} {F : Nat → Prop} {xs : List Value} {q : List Sp} {x y z : Nat} (h : RowX spE w F xs (q ++ [(x, y)])) (hz : z < 4294967296) : RowX spE w' F (xs.set (q.length * 2 + 1) (.int .u32 (z : Int))) (q ++ [(x, z)]) := by
  obtain ⟨hl, hr⟩ := h
  have hl2 : xs.length = (q.length + 1) * 2 := by rw [hl, List.length_append]; rfl
  have h1 := hr q.length (by simp)
  rw [show spE.n = 2 from rfl, List.getElem_append_right (Nat.le_refl _)] at h1
  simp only [Nat.sub_self, List.getElem_cons_zero] at h1
  obtain ⟨h2, h3⟩ := h1
  have hd : xs.drop (q.length * 2) = [.int .u32 (x : Int), .int .u32 (y : Int)] := by
    rw [List.take_of_length_le (by rw [List.length_drop]; omega)] at h2
    exact h2
  have hx : xs = xs.take (q.length * 2) ++ [.int .u32 (x : Int), .int .u32 (y : Int)] := by
    rw [← hd, List.take_append_drop]
  have hys : (xs.take (q.length * 2)).length = q.length * 2 := by rw [List.length_take]; omega
  have hrow : RowX spE w' F (xs.take (q.length * 2)) q := by
    refine ⟨hys, fun j hj => ?_⟩
    have h4 := hr j (by rw [List.length_append]; omega)
    rw [List.getElem_append_left hj] at h4
    rw [show spE.n = 2 from rfl] at h4 ⊢
    have h5 : (j + 1) * 2 ≤ q.length * 2 := Nat.mul_le_mul_right _ hj
    rw [List.drop_take, List.take_take, Nat.min_eq_left (by omega)]
    exact h4
  have hset : xs.set (q.length * 2 + 1) (.int .u32 (z : Int)) = xs.take (q.length * 2) ++ [.int .u32 (x : Int), .int .u32 (z : Int)] := by
    conv => lhs; rw [hx]
    rw [List.set_append_right _ _ (by omega), hys, show q.length * 2 + 1 - q.length * 2 = 1 by omega]
    rfl
  rw [hset]
  exact hrow.append (RowX.single ⟨rfl, h3.1, hz⟩)
/-- a list of one's own that is not empty -/
theorem AppX.last {w0 w : World} {v : Value} {q : List Sp} {t : Sp} (h : AppX spE w0 v (q ++ [t]) w) : ∃ g c, v = .slice (some ⟨g, 0, none⟩) (q.length + 1) c ∧ w.cell? ⟨g, q.length * 2 + 1, none⟩ = some (.int .u32 (t.2 : Int)) := by
  obtain ⟨⟨⟨xs, h1, h2⟩, h3⟩, hb⟩ := h
  have hl : (q ++ [t]).length = q.length + 1 := by simp
  rw [hl] at h1
  rcases h1.2 with ⟨_, h0⟩ | ⟨g, cap, cur, hv, _⟩
  · omega
  · subst hv
    refine ⟨g, cap, rfl, ?_⟩
    have h4 := h2.2 q.length (by simp)
    rw [show spE.n = 2 from rfl, List.getElem_append_right (Nat.le_refl _)] at h4
    simp only [Nat.sub_self, List.getElem_cons_zero] at h4
    have h5 : xs[q.length * 2 + 1]? = some (.int .u32 (t.2 : Int)) := by
      have h6 := congrArg (fun l : List Value => l[1]?) h4.1
      simp only [List.getElem?_take_of_lt (show 1 < 2 by decide), List.getElem?_drop] at h6
      simpa using h6
    have := h1.cells (g := g) rfl _ _ h5
    rw [addr_add, Nat.zero_add] at this
    exact this
section
variable {w : World} {ops : Array Oper} {rest : List Oper} {o : Oper} {a : Act} {Q : Exit → Act → World → Prop}
/-- the last one's end, stored -/
theorem wpList_endSp (hgd : o.guard = none) (x y : Operand) (ho : o.op = .store 23 x y) {w0 : World} {g c : Nat} {q : List Sp} {p r z : Nat} (hown : AppX spE w0 (.slice (some ⟨g, 0, none⟩) (q.length + 1) c) (q ++ [(p, r)]) w)
    (hx : a.eval x = .pointer (some ⟨g, q.length * 2 + 1, none⟩)) (hy : a.eval y = .int .u32 (z : Int)) (hz : z < 4294967296)
    (h : ∀ w', AppX spE w0 (.slice (some ⟨g, 0, none⟩) (q.length + 1) c) (q ++ [(p, z)]) w' → wpList Try.prog ops Q rest (a.put o.dst undef) w') : wpList Try.prog ops Q (o :: rest) a w := by
  obtain ⟨⟨⟨xs, h1, h2⟩, h3⟩, hb⟩ := hown
  have hl : (q ++ [(p, r)]).length = q.length + 1 := by simp
  have hl2 : (q ++ [(p, z)]).length = q.length + 1 := by simp
  rw [hl] at h1
  rcases h1.2 with ⟨_, h0⟩ | ⟨g', cap, cur, hv, hbs, hg, hn, hc, hsz, ht⟩
  · omega
  · injection hv with e1 _ e2
    injection e1 with e1
    injection e1 with e1
    subst e1 e2
    refine wpList_store1 hgd 23 x y ho g (q.length * 2 + 1) hx (.int .u32 (z : Int)) hy rfl infoU32 _ cur hg (by rw [hsz]; show q.length * 2 + 1 < c * 2; omega) fun w' hc' ht' => h w' ⟨⟨⟨xs.set (q.length * 2 + 1) (.int .u32 (z : Int)), ?_, ?_⟩, h3⟩, ?_⟩
    · rw [hl2]
      refine ⟨by rw [List.length_set]; exact h1.1, .inr ⟨g, c, _, rfl, hbs, hc', hn, hc, by simpa using hsz, ?_⟩⟩
      rw [Array.toList_setIfInBounds, ← ht, List.take_set]
    · exact row_last h2 hz
    · exact hb.trans (ht'.below hb.size fun k e => by rw [e]; exact hbs)
end
section
variable {w : World} {ops : Array Oper} {rest : List Oper} {o : Oper} {a : Act} {Q : Exit → Act → World → Prop}
/-- append of a list, wherever an empty one stands -/
theorem wpList_append_y {α : Type} {E : Elem α} (hgd : o.guard = none) (s x : Operand) (ho : o.op = .call { callee := .builtin .append, args := #[s, x], argTypes := #[E.sty, E.sty] }) (base : Nat) (F : Nat → Prop) (v : Value) (ls : List α) (hs : a.eval s = v) (hown : OwnX E w base F v ls)
    (A : Option Addr) (m c : Nat) (hx : a.eval x = .slice A m c) (ms : List α) (hm : m = ms.length) (hy : RdX E w (fun k => F k ∧ v.ownBlock ≠ some k) A ms) (hA : A = none → ms = [] ∧ c = 0)
    (hb : ls.length + m ≤ 1099511627776) (hbase : base ≤ w.heap.size) (hF : F w.heap.size)
    (h : ∀ v' w', OwnX E w' base F v' (ls ++ ms) → w.grownBy w' v.ownBlock → wpList Try.prog ops Q rest (a.put o.dst v') w') : wpList Try.prog ops Q (o :: rest) a w := by
  rcases A with _ | p
  · exact wpList_append_x (E := E) hgd s x ho base F v ls hs hown none m c hx ms hm hy hA (fun _ e => by cases e) hb hbase hF h
  · rcases id hy with h0 | ⟨b, off, xs, e, -⟩
    · subst h0
      subst hm
      obtain ⟨i0, z, hi, hz0, hz1, hz2, hz3⟩ := E.info
      have hby := E.byt
      obtain ⟨⟨vs, h1, h2⟩, h3⟩ := hown
      simp only [List.length_nil, Nat.add_zero] at hb
      obtain ⟨v', w', hrun, r1, r2, r3, r4⟩ := run_append_own_at (P := Try.prog) w base E.sty o.type E.ety i0 z E.n E.bytes E.und hi hz0 hz1 hz2 hz3 E.pos v ls.length vs h1 p 0 c [] (by simp)
        (fun j u hu => by simp at hu) (by simp) (by simp only [maxLen]; omega) (Nat.le_trans (Nat.mul_le_mul (Nat.le_trans (Nat.le_of_eq (Nat.add_zero _)) hb) hby) (by decide)) hbase
      have hturn : Turn w w' fun k => v.ownBlock = some k := Turn.of_grown r2
      refine wpList_plain hgd fun _ hh => ?_
      unfold Oper.wp execOp
      simp only [ho, resolve, invoke, builtin, Sem.run_bind, Sem.run_pure, Result.andThen_ok, List.map_toArray, List.map_cons, List.map_nil, hs, hx, List.length_nil, hrun]
      refine hh _ _ (h v' w' ⟨⟨vs, by simpa using r1, ?_⟩, fun k hk => ?_⟩ r2)
      · rw [List.append_nil]
        have e1 : RowX E w (fun k => (F k ∧ v'.ownBlock ≠ some k) ∧ v.ownBlock ≠ some k) vs ls := h2.mono fun k hk hh => ⟨⟨hh.1, fun e => by
          rcases r4 with r4 | r4
          · exact hh.2 (r4.symm.trans e)
          · rw [r4] at e
            cases e
            exact Nat.lt_irrefl _ hk⟩, hh.2⟩
        exact (e1.turn hturn fun k hk => hk.2).mono fun k _ hk => hk.1
      · rcases r4 with r4 | r4
        · exact h3 k (r4.symm.trans hk)
        · rw [r4] at hk
          cases hk
          exact hF
    · cases e
      exact wpList_append_x (E := E) hgd s x ho base F v ls hs hown _ m c hx ms hm hy hA (fun _ e => by cases e; rfl) hb hbase hF h
end
set_option maxHeartbeats 8000000 in
theorem endsR_v (l : List Sp) (s : Sp) (A : Option Addr) (c : Nat) (F : Nat → Prop) (w : World) (hl : l.length ≤ 100000000) (hs : s.1 < 4294967296 ∧ s.2 < 4294967296) (r : RdX spE w F A l) (hF : ∀ k, F k → k < w.heap.size) (hA : A = none → l = [] ∧ c = 0) :
    Calls Try.prog 33 #[.slice A l.length c, .agg (spC s).toArray] w fun e w' => GivesX ptE (endsZ l s) w e w' := by
  have HP := Lib.hid r
  have HS := Lib.hid hs
  have HAN := Lib.hid hA
  have HF := Lib.hid hF
  obtain ⟨m, hm⟩ : ∃ m, m = s :: l := ⟨_, rfl⟩
  have hml : m.length = l.length + 1 := by rw [hm]; rfl
  have HM := Lib.hid hm
  have HML := Lib.hid hml
  have hl2 : (m.length : Int) ≤ 100000001 := by omega
  clear r hs hA hF hm hml
  go_enter Try.func33, Try.ntmps33
  go_wp2_with (first
    | ((with_reducible show wpList _ _ _ _ _ w); refine wpList_boxS rfl 25 _ rfl (spC s) rfl ?_; intro g1 w1 hk1 hb1 hg1; go_frame; have C1 := Lib.hid hk1; have B1 := Lib.hid hb1; have G1 := Lib.hid hg1; clear hk1 hb1 hg1)
    | ((with_reducible show wpList _ _ _ _ _ w1); refine wpList_loadS rfl 25 _ rfl g1 rfl (spC s) C1.out _ Try.underlying25 rfl infoSpan ?_; go_frame)
    | ((with_reducible show wpList _ _ _ _ _ w1); refine wpList_buildSp rfl _ rfl s rfl ?_; intro g2 w2 hk1 hb1 hg1; go_frame; have C2 := Lib.hid hk1; have B2 := Lib.hid hb1; have G2 := Lib.hid hg1; clear hk1 hb1 hg1)
    | ((with_reducible show wpList _ _ _ _ _ w2); at_builtin; go_loud (refine wpList_append_y (E := spE) rfl _ _ rfl w.heap.size (fun _ => True) _ [s] rfl (own_sp1 C2.out HS.out (Nat.le_trans B1.out.size G2.out) trivial) A l.length c rfl l rfl (((HP.out.below B1.out).below B2.out).mono fun k _ hk => ⟨trivial, fun e => by cases e; exact absurd (HF.out _ hk) (Nat.not_lt.2 (Nat.le_trans B1.out.size G2.out))⟩) HAN.out (by simp; omega) (Nat.le_trans B1.out.size B2.out.size) trivial ?_); intro v6 w3 ho1 hg1; have hb3 := Below.grown (below_chain B1.out B2.out) hg1 (Nat.le_trans B1.out.size B2.out.size) (fun q e => by cases e; exact Nat.le_trans B1.out.size G2.out); have hA6 : AppX spE w v6 m w3 := ⟨by rw [HM.out]; exact own_flat ho1, hb3⟩; obtain ⟨A6, c6, e6, hr6⟩ := hA6.form; subst e6; go_frame; have R6 := Lib.hid hr6; have B3 := Lib.hid hb3; clear ho1 hg1 hr6 hb3 hA6)
    | fail)
  go_loopw [5, 7] (fun v j wr => ∃ k : Nat, j = .int .i64 k ∧ k ≤ m.length ∧ AppX ptE w v (endsF [] (m.take k)) wr ∧ Below w3.heap.size w3 wr) (fun _ j _ => m.length - (RowKit.intOf j).toNat)
  case atStart => exact ⟨0, rfl, Nat.zero_le _, AppX.nil B3.out, Below.refl _ _⟩
  case round =>
    obtain ⟨k, rfl, hk, hA, hB3⟩ := hrel
    obtain ⟨A5, c5, rfl, hr5⟩ := hA.form
    have hlen : (endsF [] (m.take k)).length ≤ 2 * m.length := by
      have := endsF_len (m.take k)
      rw [List.length_take] at this
      omega
    by_cases hlt : k < m.length
    · obtain ⟨b6, off6, rfl, hc1, hd1, hx1, hx2⟩ := sp_at (R6.out.below hB3) k hlt
      have HCL := Lib.hid (show ∀ W, Below w3.heap.size w3 W → W.cell? ⟨b6, off6 + k * 2 + 1, none⟩ = some (.int .u32 (m[k].2 : Int)) from fun W hb => by obtain ⟨b', off', e, h', h, -⟩ := sp_at (R6.out.below hb) k hlt; cases e; exact h)
      have HE := Lib.hid (endsF_take hlt)
      have P1 := Lib.hid fun (u : World) (hb : Below wr.heap.size wr u) => putR_v (endsF [] (m.take k)) m[k].1 A5 c5 (w.heap.size ≤ ·) u (by have := HML.out; omega) hx1 (hr5.below hb)
      generalize m[k] = x at *
      obtain ⟨x1, x2⟩ := x
      dsimp only at *
      have HA := Lib.hid hA
      have HB3 := Lib.hid hB3
      have HLN := Lib.hid hlen
      have H2 := Lib.hid hx2
      clear hA hlen hr5 hx1 hx2 hk hB3
      generalize endsF [] (m.take k) = o at *
      go_wp2_with fail
      refine (P1.out _ (Below.refl _ _)).mono ?_
      rintro e u1 ⟨v1, rfl, h1⟩
      have A1 := Lib.hid (h1.old HA.out.2)
      have hb13 := below_chain HB3.out h1.2
      have q1 := HCL.out _ hb13
      have B13 := Lib.hid hb13
      obtain ⟨A7, c7, rfl, hr7⟩ := h1.form
      have P2 := Lib.hid (putR_v (putZ o x1) x2 A7 c7 (wr.heap.size ≤ ·) u1 (by have h3 := putZ_len x1 o; have := HML.out; have := HLN.out; omega) H2.out hr7)
      clear h1 hb13 hr7
      go_wp2_with fail
      refine P2.out.mono ?_
      rintro e u2 ⟨v2, rfl, h2⟩
      have A2 := Lib.hid (h2.old A1.out.2)
      have B23 := Lib.hid (below_chain B13.out h2.2)
      clear h2
      go_wp2_with fail
      go_roundw
      case rel => exact ⟨k + 1, by go_num, hlt, by rw [HE.out]; exact A2.out, B23.out⟩
      case measure => simp [RowKit.intOf]; omega
    · have HE := Lib.hid (show endsF [] (m.take k) = endsZ l s by rw [List.take_of_length_le (by omega), HM.out]; rfl)
      have HA := Lib.hid hA
      clear hA hr5 hlen hk
      go_wp2_with fail
      go_ret
      exact ⟨_, rfl, by rw [← HE.out]; exact HA.out⟩

end Go.Proofs.Ythjcnijageiaiaa
