/- Lists of one's own: a place, a span appended; the reference's put, Pages. -/
import Derived.Test.YthjcnijageiaiaaSpa2
namespace Go.Proofs.Ythjcnijageiaiaa
open Go.RowKit Go.Shelf
set_option linter.unusedVariables false
set_option maxRecDepth 100000
set_option linter.unusedSimpArgs false

def spC (s : Sp) : List Value := [.int .u32 (s.1 : Int), .int .u32 (s.2 : Int)]
section
variable {w : World} {ops : Array Oper} {rest : List Oper} {o : Oper} {a : Act} {Q : Exit → Act → World → Prop}
theorem wpList_buildPt (hgd : o.guard = none) (x : Operand) (ho : o.op = .buildSlice 37 1 #[(0, x)]) (n : Nat) (hx : a.eval x = .int .u32 (n : Int))
    (hK : ∀ g w', Cs w' g 23 #[.int .u32 (n : Int)] → Below w.heap.size w w' → w.heap.size ≤ g → wpList Try.prog ops Q rest (a.put o.dst (.slice (some ⟨g, 0, none⟩) 1 1)) w') : wpList Try.prog ops Q (o :: rest) a w := by
  refine wpList_plain hgd fun _ hh => wp_of_run2 (v := .slice (some ⟨w.heap.size, 0, none⟩) 1 1) (w' := w.alloc (.cells #[.int .u32 (n : Int)] 23)) ?_ (hh _ _ (hK _ _ (Cs.new _ _ _) ((Below.refl _ _).alloc (Nat.le_refl _) _) (Nat.le_refl _)))
  unfold execOp
  simp only [ho, hx, List.map_toArray, List.map_cons, List.map_nil]
  go_simp
theorem wpList_buildSp (hgd : o.guard = none) (x : Operand) (ho : o.op = .buildSlice 22 1 #[(0, x)]) (s : Sp) (hx : a.eval x = .agg (spC s).toArray)
    (hK : ∀ g w', Cs w' g 25 (spC s).toArray → Below w.heap.size w w' → w.heap.size ≤ g → wpList Try.prog ops Q rest (a.put o.dst (.slice (some ⟨g, 0, none⟩) 1 1)) w') : wpList Try.prog ops Q (o :: rest) a w := by
  refine wpList_plain hgd fun _ hh => wp_of_run2 (v := .slice (some ⟨w.heap.size, 0, none⟩) 1 1) (w' := w.alloc (.cells (spC s).toArray 25)) ?_ (hh _ _ (hK _ _ (Cs.new _ _ _) ((Below.refl _ _).alloc (Nat.le_refl _) _) (Nat.le_refl _)))
  unfold execOp
  simp only [ho, hx, List.map_toArray, List.map_cons, List.map_nil, spC]
  go_simp
/-- a list of one's own, gathered since w0 -/
def AppX {α : Type} (E : Elem α) (w0 : World) (v : Value) (l : List α) (w : World) : Prop := OwnX E w w0.heap.size (w0.heap.size ≤ ·) v l ∧ Below w0.heap.size w0 w
theorem AppX.below {α : Type} {E : Elem α} {w0 w w' : World} {v : Value} {l : List α} (h : AppX E w0 v l w) (hb : Below w.heap.size w w') : AppX E w0 v l w' := ⟨h.1.below hb, below_chain h.2 hb⟩
theorem AppX.nil {α : Type} {E : Elem α} {w0 w : World} (h : Below w0.heap.size w0 w) : AppX E w0 (.slice none 0 0) [] w := ⟨OwnX.nil _ _ _, h⟩
theorem wpList_appPt (hgd : o.guard = none) (s x : Operand) (ho : o.op = .call { callee := .builtin .append, args := #[s, x], argTypes := #[37, 37] }) {w0 : World} {v : Value} {l : List Nat} (hs : a.eval s = v) (hown : AppX ptE w0 v l w)
    (g c : Nat) (hx : a.eval x = .slice (some ⟨g, 0, none⟩) 1 c) (n : Nat) (hn : n < 4294967296) (hg : Cs w g 23 #[.int .u32 (n : Int)]) (hb : l.length ≤ 1073741824)
    (h : ∀ v' w', AppX ptE w0 v' (l ++ [n]) w' → wpList Try.prog ops Q rest (a.put o.dst v') w') : wpList Try.prog ops Q (o :: rest) a w :=
  wpList_append_x1 (E := ptE) hgd s x ho w0.heap.size (w0.heap.size ≤ ·) v l hs hown.1 g c hx [.int .u32 (n : Int)] n ⟨rfl, hn⟩ 23 hg (by omega) hown.2.size hown.2.size fun v' w' h1 h2 => h v' w' ⟨h1, hown.2.grown h2 hown.2.size fun q e => (hown.1.lt q e).1⟩
theorem wpList_appSp (hgd : o.guard = none) (s x : Operand) (ho : o.op = .call { callee := .builtin .append, args := #[s, x], argTypes := #[22, 22] }) {w0 : World} {v : Value} {l : List Sp} (hs : a.eval s = v) (hown : AppX spE w0 v l w)
    (g c : Nat) (hx : a.eval x = .slice (some ⟨g, 0, none⟩) 1 c) (n : Sp) (hn : n.1 < 4294967296 ∧ n.2 < 4294967296) (hg : Cs w g 25 (spC n).toArray) (hb : l.length ≤ 1073741824)
    (h : ∀ v' w', AppX spE w0 v' (l ++ [n]) w' → wpList Try.prog ops Q rest (a.put o.dst v') w') : wpList Try.prog ops Q (o :: rest) a w :=
  wpList_append_x1 (E := spE) hgd s x ho w0.heap.size (w0.heap.size ≤ ·) v l hs hown.1 g c hx (spC n) n ⟨rfl, hn⟩ 25 hg (by omega) hown.2.size hown.2.size fun v' w' h1 h2 => h v' w' ⟨h1, hown.2.grown h2 hown.2.size fun q e => (hown.1.lt q e).1⟩
end
/-- what hands back a list of its own -/
def GivesX {α : Type} (E : Elem α) (l : List α) (w : World) (e : Ending) (w' : World) : Prop := ∃ v, e = .returned v ∧ AppX E w v l w'
set_option maxHeartbeats 8000000 in
theorem putR_v (l : List Nat) (n : Nat) (A : Option Addr) (c : Nat) (F : Nat → Prop) (w : World) (hl : l.length ≤ 536870000) (hn : n < 4294967296) (r : RdX ptE w F A l) :
    Calls Try.prog 36 #[.slice A l.length c, .int .u32 (n : Int)] w fun e w' => GivesX ptE (putZ l n) w e w' := by
  have HP := Lib.hid r
  have HN := Lib.hid hn
  have hl' : (l.length : Int) ≤ 536870000 := by omega
  clear r hn
  go_enter Try.func36, Try.ntmps36
  go_wp2
  go_loopw [5, 6, 7] (fun v is j wr => ∃ k : Nat, j = .int .i64 k ∧ k ≤ l.length ∧ is = .bool (foldZ (l.take k) n).2 ∧ AppX ptE w v (foldZ (l.take k) n).1 wr) (fun _ _ j _ => l.length - (RowKit.intOf j).toNat)
  case atStart => exact ⟨0, rfl, Nat.zero_le _, rfl, AppX.nil (Below.refl _ _)⟩
  case round =>
    obtain ⟨k, rfl, hk, rfl, hA⟩ := hrel
    obtain ⟨q, b, hq⟩ : ∃ q b, foldZ (l.take k) n = (q, b) := ⟨_, _, rfl⟩
    have hlen : q.length ≤ l.length + 1 := by
      have := foldZ_len n (l.take k)
      rw [hq, List.length_take] at this
      dsimp only at this
      omega
    rw [hq] at hA
    dsimp only at hA
    have HL := Lib.hid hlen
    have HA := Lib.hid hA
    simp only [hq]
    by_cases hlt : k < l.length
    · obtain ⟨b1, off, rfl, hc1, hx32⟩ := pt_at (HP.out.below hA.2) k hlt
      have HCL := Lib.hid (show ∀ W, Below w.heap.size w W → W.cell? ⟨b1, off + k, none⟩ = some (.int .u32 (l[k] : Int)) from fun W hb => by obtain ⟨b', off', e, h, -⟩ := pt_at (HP.out.below hb) k hlt; cases e; exact h)
      have HS := Lib.hid (show foldZ (l.take (k + 1)) n = stepZ n (q, b) l[k] by rw [foldZ_take hlt, hq])
      generalize l[k] = x at *
      have H32 := Lib.hid hx32
      clear hA hlen hq hx32 hk
      cases b
      · by_cases h1 : n ≤ x
        · by_cases h2 : x = n
          · subst h2
            have HE := Lib.hid (show foldZ (l.take (k + 1)) x = (q ++ [x], true) by rw [HS.out]; simp [stepZ])
            clear HS h1
            go_wp2_with (first
              | ((with_reducible show wpList _ _ _ _ _ wr); refine wpList_buildPt rfl _ rfl x rfl ?_; intro gg1 u1 hk1 hb1 hg1; go_frame; have K1 := Lib.hid hk1; have B1 := Lib.hid hb1; clear hk1 hb1 hg1)
              | ((with_reducible show wpList _ _ _ _ _ u1); at_builtin; go_loud (refine wpList_appPt rfl _ _ rfl rfl (HA.out.below B1.out) gg1 1 rfl x H32.out K1.out (by have := HL.out; omega) ?_); intro v1 y1 ho1; go_frame; have A1 := Lib.hid ho1; have q1 := HCL.out _ ho1.2; clear ho1)
              | fail)
            go_roundw
            case rel => exact ⟨k + 1, by go_num, hlt, by rw [HE.out], by rw [HE.out]; exact A1.out⟩
            case measure => simp [RowKit.intOf]; omega
          · have HE := Lib.hid (show foldZ (l.take (k + 1)) n = (q ++ [n] ++ [x], true) by rw [HS.out]; simp [stepZ, h1, h2])
            have e1 : ¬ (x : Int) = n := by omega
            have e2 : (n : Int) ≤ x := by omega
            clear HS h1 h2
            go_wp2_with (first
              | ((with_reducible show wpList _ _ _ _ _ wr); refine wpList_buildPt rfl _ rfl n rfl ?_; intro gg1 u1 hk1 hb1 hg1; go_frame; have K1 := Lib.hid hk1; have B1 := Lib.hid hb1; clear hk1 hb1 hg1)
              | ((with_reducible show wpList _ _ _ _ _ u1); at_builtin; go_loud (refine wpList_appPt rfl _ _ rfl rfl (HA.out.below B1.out) gg1 1 rfl n HN.out K1.out (by have := HL.out; omega) ?_); intro v1 y1 ho1; go_frame; have A1 := Lib.hid ho1; have q1 := HCL.out _ ho1.2; clear ho1)
              | ((with_reducible show wpList _ _ _ _ _ y1); refine wpList_buildPt rfl _ rfl x rfl ?_; intro gg2 u2 hk1 hb1 hg1; go_frame; have K2 := Lib.hid hk1; have B2 := Lib.hid hb1; clear hk1 hb1 hg1)
              | ((with_reducible show wpList _ _ _ _ _ u2); at_builtin; go_loud (refine wpList_appPt rfl _ _ rfl rfl (A1.out.below B2.out) gg2 1 rfl x H32.out K2.out (by have := HL.out; simp; omega) ?_); intro v2 y2 ho1; go_frame; have A2 := Lib.hid ho1; have q2 := HCL.out _ ho1.2; clear ho1)
              | fail)
            go_roundw
            case rel => exact ⟨k + 1, by go_num, hlt, by rw [HE.out], by rw [HE.out]; exact A2.out⟩
            case measure => simp [RowKit.intOf]; omega
        · have h2 : ¬ x = n := by omega
          have HE := Lib.hid (show foldZ (l.take (k + 1)) n = (q ++ [x], false) by rw [HS.out]; simp [stepZ, h1, h2])
          have e1 : ¬ (x : Int) = n := by omega
          have e2 : ¬ (n : Int) ≤ x := by omega
          clear HS h1 h2
          go_wp2_with (first
            | ((with_reducible show wpList _ _ _ _ _ wr); refine wpList_buildPt rfl _ rfl x rfl ?_; intro gg1 u1 hk1 hb1 hg1; go_frame; have K1 := Lib.hid hk1; have B1 := Lib.hid hb1; clear hk1 hb1 hg1)
            | ((with_reducible show wpList _ _ _ _ _ u1); at_builtin; go_loud (refine wpList_appPt rfl _ _ rfl rfl (HA.out.below B1.out) gg1 1 rfl x H32.out K1.out (by have := HL.out; omega) ?_); intro v1 y1 ho1; go_frame; have A1 := Lib.hid ho1; have q1 := HCL.out _ ho1.2; clear ho1)
            | fail)
          go_roundw
          case rel => exact ⟨k + 1, by go_num, hlt, by rw [HE.out], by rw [HE.out]; exact A1.out⟩
          case measure => simp [RowKit.intOf]; omega
      · by_cases h2 : x = n
        · subst h2
          have HE := Lib.hid (show foldZ (l.take (k + 1)) x = (q, true) by rw [HS.out]; simp [stepZ])
          clear HS
          go_wp2_with (first
            | fail)
          go_roundw
          case rel => exact ⟨k + 1, by go_num, hlt, by rw [HE.out], by rw [HE.out]; exact HA.out⟩
          case measure => simp [RowKit.intOf]; omega
        · have HE := Lib.hid (show foldZ (l.take (k + 1)) n = (q ++ [x], true) by rw [HS.out]; simp [stepZ, h2])
          have e1 : ¬ (x : Int) = n := by omega
          clear HS h2
          go_wp2_with (first
            | ((with_reducible show wpList _ _ _ _ _ wr); refine wpList_buildPt rfl _ rfl x rfl ?_; intro gg1 u1 hk1 hb1 hg1; go_frame; have K1 := Lib.hid hk1; have B1 := Lib.hid hb1; clear hk1 hb1 hg1)
            | ((with_reducible show wpList _ _ _ _ _ u1); at_builtin; go_loud (refine wpList_appPt rfl _ _ rfl rfl (HA.out.below B1.out) gg1 1 rfl x H32.out K1.out (by have := HL.out; omega) ?_); intro v1 y1 ho1; go_frame; have A1 := Lib.hid ho1; have q1 := HCL.out _ ho1.2; clear ho1)
            | fail)
          go_roundw
          case rel => exact ⟨k + 1, by go_num, hlt, by rw [HE.out], by rw [HE.out]; exact A1.out⟩
          case measure => simp [RowKit.intOf]; omega
    · have HE := Lib.hid (show foldZ l n = (q, b) by rw [← hq, List.take_of_length_le (by omega)])
      clear hA hlen hq hk
      cases b
      · go_wp2_with (first
          | ((with_reducible show wpList _ _ _ _ _ wr); refine wpList_buildPt rfl _ rfl n rfl ?_; intro gg1 u1 hk1 hb1 hg1; go_frame; have K1 := Lib.hid hk1; have B1 := Lib.hid hb1; clear hk1 hb1 hg1)
          | ((with_reducible show wpList _ _ _ _ _ u1); at_builtin; go_loud (refine wpList_appPt rfl _ _ rfl rfl (HA.out.below B1.out) gg1 1 rfl n HN.out K1.out (by have := HL.out; omega) ?_); intro v1 y1 ho1; go_frame; have A1 := Lib.hid ho1; clear ho1)
          | fail)
        go_ret
        exact ⟨_, rfl, by unfold putZ; rw [HE.out]; exact A1.out⟩
      · go_wp2_with fail
        go_ret
        exact ⟨_, rfl, by unfold putZ; rw [HE.out]; exact HA.out⟩

end Go.Proofs.Ythjcnijageiaiaa
