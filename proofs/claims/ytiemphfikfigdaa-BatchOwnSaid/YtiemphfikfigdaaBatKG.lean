/- batch: Get. -/
import Derived.Test.YtiemphfikfigdaaBatK6
import Derived.Test.YtiemphfikfigdaaBatRK
namespace Go.Proofs.Ytiemphfikfigdaa
open Go.RowKit Go.Shelf
set_option linter.unusedVariables false
set_option maxRecDepth 100000
set_option linter.unusedSimpArgs false

def GetBRet (b : List UInt8) (w : World) (e : Ending) (w' : World) : Prop := Below w.heap.size w w' ∧ match getC b with
  | .error er => e = .returned (.tuple #[.slice none 0 0, .int .i64 er])
  | .ok l => ∃ v g, e = .returned (.tuple #[v, .int .i64 0]) ∧ OwnX chgE w' w.heap.size (fun k => w.heap.size ≤ k ∧ k ≠ g) v l
theorem GetBRet.err {b : List UInt8} {w w' : World} {er : Int} (h : getC b = .error er) (hb : Below w.heap.size w w') : GetBRet b w (.returned (.tuple #[.slice none 0 0, .int .i64 er])) w' := ⟨hb, by rw [h]⟩
theorem GetBRet.has {b : List UInt8} {w w' : World} {l : List Ch} {v : Value} {g : Nat} (h : getC b = .ok l) (hb : Below w.heap.size w w') (hv : OwnX chgE w' w.heap.size (fun k => w.heap.size ≤ k ∧ k ≠ g) v l) : GetBRet b w (.returned (.tuple #[v, .int .i64 0])) w' := ⟨hb, by rw [h]; exact ⟨v, g, rfl, hv⟩⟩
theorem infoRd (A : Option Addr) (n c a : Nat) (sh : Bool) : (Try.prog.info? 61).map (·.size) = some (rdrC A n c a sh).length := by kernel_rfl
/-- how far the reader has come -/
def farR (w : World) (g : Nat) : Nat := match w.cell? ⟨g, 1, none⟩ with
  | some v => (intOf v).toNat
  | none => 0
theorem farR_is {w : World} {g : Nat} {A : Option Addr} {n c a : Nat} {sh : Bool} (h : Cs w g 61 (rdrC A n c a sh).toArray) : farR w g = a := by
  unfold farR
  rw [rdrC_1 h]
  simp [intOf]
set_option maxHeartbeats 4000000 in
theorem Get_any7 (l : List UInt8) (A : Option Addr) (c : Nat) (w : World) (hl : l.length ≤ 10000000) (hr : Rd w A l) (hlc : l.length ≤ c) (hcm : c ≤ maxLen) :
    Calls Try.prog 12 #[.slice A l.length c] w fun e w' => GetBRet l w e w' := by
  have HR := Lib.hid hr
  have HC := Lib.hid (And.intro hlc hcm)
  have HOLD := Lib.hid (rd_old hr)
  have hl' : (l.length : Int) ≤ 10000000 := by omega
  clear hr hlc hcm
  go_enter Try.func12, Try.ntmps12
  go_wp2_with (first | ((with_reducible show wpList _ _ _ _ _ w); refine wpList_boxS rfl 61 _ rfl (rdrC A l.length c 0 false) rfl ?_; intro g1 w1 hk hb hg; go_frame; have K1 := Lib.hid hk; have B1 := Lib.hid hb; have G1 := Lib.hid hg; clear hk hb hg))
  go_loopw [4, 5] (fun lv kv wr => ∃ (acc : List Ch) (last : Key) (a : Nat), kv = .string ⟨last.toArray⟩ ∧ a ≤ l.length ∧ Cs wr g1 61 (rdrC A l.length c a false).toArray ∧ GotI l acc last (l.drop a) ∧ acc.length ≤ a ∧ OwnX chgE wr w.heap.size (fun k => w.heap.size ≤ k ∧ k ≠ g1) lv acc ∧ Below w.heap.size w wr) (fun _ _ wr => l.length - farR wr g1)
  case atStart => exact ⟨[], [], 0, rfl, Nat.zero_le _, K1.out, GotI.start l, Nat.le_refl _, OwnX.nil _ _ _, B1.out⟩
  case round =>
    obtain ⟨acc, last, a, rfl, ha, hk, hI, hfew, ho, hb⟩ := hrel
    have K := Lib.hid hk
    have HI := Lib.hid hI
    have HF := Lib.hid hfew
    have HO := Lib.hid ho
    have HB := Lib.hid hb
    have q1 := rdrC_1 hk
    have q0 := rdrC_0 hk
    have GL := Lib.hid (And.intro G1.out hk.lt)
    clear hk hI hfew ho hb
    by_cases hlt : a < l.length
    · have hlt' : (a : Int) < (l.length : Int) := by omega
      obtain ⟨b, off, rfl, hbo⟩ := HOLD.out.resolve_left (fun h => by rw [h] at hlt; simp at hlt)
      have hch := change_any last l b off c a g1 wr (by have := HI.out.2; omega) (by omega) HC.out.1 HC.out.2 ha (by have := GL.out; omega) (HR.out.below HB.out) K.out
      have HCH := Lib.hid hch
      have OL := Lib.hid (fun q e => (HO.out.lt q e).2)
      have HNX := Lib.hid (chgF_next last l a hlt)
      have HDC := Lib.hid (drop_cons hlt)
      clear hch
      go_wp2_with fail
      refine HCH.out.mono ?_
      clear HCH q1 q0
      rintro e u2 ⟨ht, hm⟩
      have T2 := Lib.hid ht
      have B2 := Lib.hid (below_turn HB.out ht HB.out.size G1.out)
      have O2 := Lib.hid (HO.out.turn ht fun q hq e => hq.2 e)
      have SZ := Lib.hid ht.size
      have HI2 := Lib.hid (show GotI l acc last (l.getD a 0 :: l.drop (a + 1)) from HDC.out ▸ HI.out)
      have HNX2 := Lib.hid (show nextP last (l.getD a 0 :: l.drop (a + 1)) = _ from (congrArg (nextP last) HDC.out).symm.trans HNX.out)
      clear ht HI HNX HO
      cases hn : chgF last l a with
      | error er =>
        rw [hn] at hm HNX2
        dsimp only at HNX2
        have he := next_some HNX2.out
        have HE := Lib.hid (HI2.out.err HNX2.out)
        subst hm
        clear hn
        rcases he with rfl | rfl
        · go_wp2_with (first
            | ((with_reducible show wpList _ _ _ _ _ u2); refine wpList_allocS rfl 52 rfl _ zeroCh ?_; intro g6 u3 hk3 hb3 hg3; go_frame; have K3 := Lib.hid hk3; have B3 := Lib.hid hb3; have G3 := Lib.hid hg3; clear hk3 hb3 hg3)
            | ((with_reducible show wpList _ _ _ _ _ u3); refine wpList_storeS rfl 52 _ _ rfl g6 rfl chZero chZero rfl K3.out rfl (one3c rfl rfl rfl) (infoCh3 _ _ _) ?_; intro u4 hk4 ht4; go_frame; have T4 := Lib.hid ht4; clear hk4 ht4))
          go_ret2
          exact GetBRet.err HE.out (below_turn (below_chain B2.out B3.out) T4.out (below_chain B2.out B3.out).size (Nat.le_trans B2.out.size G3.out))
        · go_wp2_with (first
            | ((with_reducible show wpList _ _ _ _ _ u2); refine wpList_allocS rfl 52 rfl _ zeroCh ?_; intro g6 u3 hk3 hb3 hg3; go_frame; have K3 := Lib.hid hk3; have B3 := Lib.hid hb3; have G3 := Lib.hid hg3; clear hk3 hb3 hg3)
            | ((with_reducible show wpList _ _ _ _ _ u3); refine wpList_storeS rfl 52 _ _ rfl g6 rfl chZero chZero rfl K3.out rfl (one3c rfl rfl rfl) (infoCh3 _ _ _) ?_; intro u4 hk4 ht4; go_frame; have T4 := Lib.hid ht4; clear hk4 ht4))
          go_ret2
          exact GetBRet.err HE.out (below_turn (below_chain B2.out B3.out) T4.out (below_chain B2.out B3.out).size (Nat.le_trans B2.out.size G3.out))
      | ok p =>
        obtain ⟨⟨k, val, z⟩, a'⟩ := p
        rw [hn] at hm HNX2
        dsimp only at hm HNX2
        obtain ⟨v, rfl, hv, hk2, ha'⟩ := hm
        have HN := Lib.hid (HI2.out.next HNX2.out)
        have HF2 := Lib.hid (show acc.length + 1 ≤ a' ∧ a < a' by have h1 := nextP_short HNX2.out; have h2 := HF.out; rw [List.length_drop, List.length_cons, List.length_drop] at h1; omega)
        have K2 := Lib.hid hk2
        have HV := Lib.hid hv
        obtain ⟨A9, c9, hv9, -⟩ := id hv
        subst hv9
        clear hn hv hk2 HI2 HNX2
        have hz0 := HB.out.size
        have hz := SZ.out
        go_wp2_with (first
          | ((with_reducible show wpList _ _ _ _ _ u2); refine wpList_allocS rfl 52 rfl _ zeroCh ?_; intro g6 u3 hk3 hb3 hg3; go_frame; have K3 := Lib.hid hk3; have B3 := Lib.hid hb3; have G3 := Lib.hid hg3; clear hk3 hb3 hg3)
          | ((with_reducible show wpList _ _ _ _ _ u3); refine wpList_storeS rfl 52 _ _ rfl g6 rfl [.string ⟨k.toArray⟩, .slice A9 val.length c9, .bool z] chZero rfl K3.out rfl (one3c rfl rfl rfl) (infoCh3 _ _ _) ?_; intro u4 hk4 ht4; go_frame; have K4 := Lib.hid hk4; have T4 := Lib.hid ht4; have G6 := Lib.hid (show wr.heap.size ≤ g6 from Nat.le_trans hz G3.out); have L4 := Lib.hid (below_turn B3.out ht4 B3.out.size G3.out); have O4 := Lib.hid (O2.out.below L4.out); have B4 := Lib.hid (below_chain B2.out L4.out); have HV4 := Lib.hid (HV.out.below L4.out); have R4 := Lib.hid (K2.out.below L4.out K2.out.lt); clear hk4 ht4)
          | ((with_reducible show wpList _ _ _ _ _ u4); refine wpList_loadS rfl 52 _ rfl g6 rfl [.string ⟨k.toArray⟩, .slice A9 val.length c9, .bool z] K4.out _ Try.underlying52 rfl (infoCh3 _ _ _) ?_; go_frame)
          | ((with_reducible show wpList _ _ _ _ _ u4); refine wpList_buildCh1 (by kernel_rfl) _ rfl (k, val, z) A9 c9 rfl ?_; intro g8 u5 hk hb hg; go_frame; have C5 := Lib.hid hk; have L5 := Lib.hid hb; have B5 := Lib.hid (below_chain B4.out hb); have O5 := Lib.hid (O4.out.below hb); have V5 := Lib.hid (HV4.out.below hb); have R5 := Lib.hid (R4.out.below hb R4.out.lt); have K5 := Lib.hid (K4.out.below hb K4.out.lt); clear hk hb hg)
          | ((with_reducible show wpList _ _ _ _ _ u5); at_builtin; go_loud (refine wpList_append_x1 (E := chgE) rfl _ _ rfl w.heap.size (fun k => w.heap.size ≤ k ∧ k ≠ g1) _ acc rfl O5.out g8 1 rfl [.string ⟨k.toArray⟩, .slice A9 val.length c9, .bool z] (k, val, z) ⟨_, rfl, V5.out.mono (fun q _ hq => ⟨⟨Nat.le_trans hz0 hq, fun e => by have := GL.out; omega⟩, fun e => by have := (O2.out.lt q e).2; have := (OL.out q e); omega⟩)⟩ 52 C5.out (by have := HF.out; omega) B5.out.size (by have := B5.out.size; have := L5.out.size; have := L4.out.size; have := GL.out; constructor <;> omega) ?_; intro v5 u6 ho5 hg5; go_frame; have O6 := Lib.hid ho5; have B6 := Lib.hid (B5.out.grown hg5 B5.out.size (fun q e => (O5.out.lt q e).1)); have R6 := Lib.hid (R5.out.turn (Turn.of_grown hg5) (fun e => (O5.out.sub _ e).2 rfl)); have q5 := ch_d0 (K5.out.turn (Turn.of_grown hg5) (fun e => by have := (O2.out.lt _ e).2; have := G3.out; omega)); clear ho5 hg5)))
        go_roundw
        case rel => exact ⟨acc ++ [(k, val, z)], k, a', rfl, ha', R6.out, HN.out, by rw [List.length_append]; exact HF2.out.1, O6.out, B6.out⟩
        case measure => rw [farR_is R6.out, farR_is K.out]; have := HF2.out; omega
    · have hlt' : ¬ (a : Int) < (l.length : Int) := by omega
      have HE := Lib.hid (show getC l = .ok acc from by have h := HI.out; rw [List.drop_of_length_le (by omega)] at h; exact h.over)
      go_wp2_with fail
      go_ret2
      exact GetBRet.has HE.out HB.out HO.out

end Go.Proofs.Ytiemphfikfigdaa
