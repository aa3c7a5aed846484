/- Layer 9's laws: things that the document tells. -/
import Derived.Test.YtafafffheabjjaaXd4
import Derived.Test.YtafafffheabjjaaXdWr2
namespace Go.Proofs.Ytafafffheabjjaa
open Go.RowKit Go.Shelf
set_option linter.unusedVariables false
set_option maxRecDepth 100000
set_option linter.unusedSimpArgs false

/-- a writer that was made since w0 -/
structure WrB (w0 w : World) (wb : Nat) (v : Value) (l : List UInt8) : Prop where
  at' : WrAt w wb v l
  bel : Below w0.heap.size w0 w
  new : w0.heap.size ≤ wb
  own : ∀ k, v.ownBlock = some k → w0.heap.size ≤ k
theorem WrB.layF {w0 w : World} {wb : Nat} {v : Value} {l : List UInt8} (h : WrB w0 w wb v l) : ∀ k, LayF wb v k → w0.heap.size ≤ k := fun k hk => by
  rcases hk with rfl | hk
  · exact h.new
  · exact h.own k hk
theorem WrB.start {w0 w : World} (hb : Below w0.heap.size w0 w) : WrB w0 (w.alloc (.cells #[.slice none 0 0] 26)) w.heap.size (.slice none 0 0) [] :=
  ⟨⟨Cs.new w 26 #[.slice none 0 0], World.ownsRow_nil _ _ _ _⟩, below_new hb _, hb.size, fun k h => by cases h⟩
theorem WrB.laid {w0 w : World} {wb : Nat} {v : Value} {l l' : List UInt8} {e : Ending} {w' : World} (h : WrB w0 w wb v l) (k : Laid wb v l' w e w') : ∃ v', WrB w0 w' wb v' l' := by
  obtain ⟨-, v', h1, h2, h3⟩ := k
  refine ⟨v', h1, h.bel.trans (h2.below h.bel.size h.layF), h.new, fun k hk => ?_⟩
  rcases h3 k hk with h4 | h4
  · exact h.own k h4
  · have := h.bel.size; omega
/-- a reader that was made since w0; its bytes lie below N, and so does it -/
structure RdB (w0 w : World) (rb : Nat) (s : RS) : Prop where
  at' : ∃ F, RdAt w rb s F
  bel : Below w0.heap.size w0 w
  new : w0.heap.size ≤ rb
theorem RdB.told {w0 w : World} {rb : Nat} {s s' : RS} {v : Value} {e : Ending} {w' : World} {F : Nat → Prop} (h : RdB w0 w rb s) (k : Told rb s' F v w e w') : RdB w0 w' rb s' :=
  ⟨⟨F, k.2.1⟩, h.bel.trans (k.2.2.below h.bel.size fun i hi => by have := h.new; omega), h.new⟩
theorem RdB.below {w0 w w' : World} {rb : Nat} {s : RS} (h : RdB w0 w rb s) (hb : Below w.heap.size w w') : RdB w0 w' rb s := ⟨by obtain ⟨F, hF⟩ := h.at'; exact ⟨F, hF.below hb⟩, below_chain h.bel hb, h.new⟩
theorem RdAt.tight {w : World} {rb : Nat} {s : RS} {F : Nat → Prop} (h : RdAt w rb s F) : RdAt w rb s (fun k => F k ∧ k < w.heap.size) := by
  obtain ⟨v, h1, h2, h3, h4⟩ := h
  exact ⟨v, h1, h2.mono fun k hk h => ⟨h, hk⟩, fun h => h3 h.1, h4⟩
theorem lit_rd (W : World) (l : List UInt8) : Rd (W.alloc (.cells (cellsOf l).toArray 5)) (some ⟨W.heap.size, 0, none⟩) l := rd_cs (Cs.new W 5 (cellsOf l).toArray) rfl
set_option maxHeartbeats 8000000 in
theorem lives9_any (w : World) : Calls Try.prog 20 #[] w fun e w' => e = .returned (.bool true) ∧ Below w.heap.size w w' := by
  have k1 := Lib.hid (WrB.start (Below.refl w.heap.size w))
  go_enter Try.func20, Try.ntmps20
  go_wp2_with fail
  refine (Number_w 1 (by decide) k1.out.at' (by decide)).mono ?_
  rintro e w1 hl
  obtain ⟨v1, k2⟩ := k1.out.laid hl
  obtain ⟨rfl, -⟩ := hl
  have K2 := Lib.hid k2
  clear k1 k2
  go_wp2_with fail
  refine (Truth_w true K2.out.at' (by simp [beL_length])).mono ?_
  rintro e w2 hl
  obtain ⟨v2, k3⟩ := K2.out.laid hl
  obtain ⟨rfl, -⟩ := hl
  have K3 := Lib.hid k3
  clear K2 k3
  have hx := lit_rd w2 [7, 8, 9]
  have K3a := Lib.hid (K3.out.at'.below ((Below.refl _ _).alloc (Nat.le_refl _) (.cells (cellsOf [7, 8, 9]).toArray 5)))
  have hbs : BsV (w2.alloc (.cells (cellsOf [7, 8, 9]).toArray 5)) (· = w2.heap.size) (.slice (some ⟨w2.heap.size, 0, none⟩) ([7, 8, 9] : List UInt8).length 3) [7, 8, 9] := ⟨_, _, rfl, hx.f (fun b off e _ => by cases e; rfl), (fun h => by cases h), by decide, by decide⟩
  have hw := Bytes_w (c := 3) K3a.out hbs (fun k hk hh => by
    subst hk
    rcases hh with hh | hh
    · have := K3.out.at'.cell.lt; omega
    · have := K3.out.at'.lt _ hh; omega) (by decide) (by simp [beL_length, truthX_length, bytesX_length, padN])
  clear hx hbs
  go_wp2_with fail
  refine hw.mono ?_
  clear hw
  rintro e w3 hl
  have K3b : WrB w (w2.alloc (.cells (cellsOf [7, 8, 9]).toArray 5)) _ v2 _ := ⟨K3a.out, below_new K3.out.bel _, K3.out.new, K3.out.own⟩
  obtain ⟨v3, k4⟩ := K3b.laid hl
  obtain ⟨rfl, -⟩ := hl
  have K4 := Lib.hid k4
  clear K3 K3a K3b k4
  have hL : [] ++ beL (1 : Int) 4 ++ truthX true ++ bytesX [7, 8, 9] = [0, 0, 0, 1, 0, 0, 0, 1, 0, 0, 0, 3, 7, 8, 9, 0] := by decide
  have hbare := Bare_w K4.out.at' (by simp [beL_length, truthX_length, bytesX_length, padN])
  change Calls _ _ _ _ fun e w' => BsTy ([] ++ beL (1 : Int) 4 ++ truthX true ++ bytesX [7, 8, 9]) _ e w' at hbare
  rw [hL] at hbare
  have B4 := Lib.hid K4.out.bel
  clear hL K4
  go_wp2_with fail
  refine hbare.mono ?_
  clear hbare
  rintro e w5 ⟨vb, rfl, hv, -, -, hb⟩
  obtain ⟨A5, c5, e5, hr5, hA5, -, -⟩ := hv
  have e5' : vb = .slice A5 16 c5 := e5
  subst e5'
  have hs := Same_any A5 (some ⟨w5.heap.size, 0, none⟩) [0, 0, 0, 1, 0, 0, 0, 1, 0, 0, 0, 3, 7, 8, 9, 0] [0, 0, 0, 1, 0, 0, 0, 1, 0, 0, 0, 3, 7, 8, 9, 0] c5 16 _ (hr5.rd.below ((Below.refl _ _).alloc (Nat.le_refl _) (.cells (cellsOf [0, 0, 0, 1, 0, 0, 0, 1, 0, 0, 0, 3, 7, 8, 9, 0]).toArray 5))) (lit_rd w5 [0, 0, 0, 1, 0, 0, 0, 1, 0, 0, 0, 3, 7, 8, 9, 0])
  rw [beq_self_eq_true] at hs
  change Calls Try.prog _ #[.slice A5 16 c5, .slice (some ⟨w5.heap.size, 0, none⟩) 16 16] _ _ at hs
  have hb6 := below_new (below_chain B4.out hb) (.cells (cellsOf [0, 0, 0, 1, 0, 0, 0, 1, 0, 0, 0, 3, 7, 8, 9, 0]).toArray 5)
  have hnew := NewReader_v [0, 0, 0, 1, 0, 0, 0, 1, 0, 0, 0, 3, 7, 8, 9, 0] A5 c5 _ (by decide) (hr5.rd.below ((Below.refl _ _).alloc (Nat.le_refl _) (.cells (cellsOf [0, 0, 0, 1, 0, 0, 0, 1, 0, 0, 0, 3, 7, 8, 9, 0]).toArray 5))) hA5
  change Calls Try.prog _ #[.slice A5 16 c5] _ _ at hnew
  clear hr5 hA5 hb
  go_wp2_with fail
  refine hs.mono ?_
  clear hs
  rintro e w6 ⟨rfl, rfl⟩
  go_wp2_with fail
  refine hnew.mono ?_
  clear hnew
  rintro e w7 ⟨rb, rfl, hr, hnb, hb7⟩
  have K7 := Lib.hid (show RdB w w7 rb _ from ⟨⟨_, hr⟩, below_chain hb6 hb7, Nat.le_trans hb6.size hnb⟩)
  clear hr hnb hb7 hb6 B4
  obtain ⟨F, hF⟩ := K7.out.at'
  have hn := Number_r hF
  have en : numR ⟨[0, 0, 0, 1, 0, 0, 0, 1, 0, 0, 0, 3, 7, 8, 9, 0], 0, 0⟩ 4 = (1, ⟨[0, 0, 0, 1, 0, 0, 0, 1, 0, 0, 0, 3, 7, 8, 9, 0], 4, 0⟩) := by rfl
  rw [en] at hn
  clear hF en
  go_wp2_with fail
  refine hn.mono ?_
  clear hn
  rintro e w8 ht
  have K8 := Lib.hid (K7.out.told ht)
  obtain ⟨rfl, hF, -⟩ := ht
  have hn := Truth_r hF
  have en : truthR ⟨[0, 0, 0, 1, 0, 0, 0, 1, 0, 0, 0, 3, 7, 8, 9, 0], 4, 0⟩ = (true, ⟨[0, 0, 0, 1, 0, 0, 0, 1, 0, 0, 0, 3, 7, 8, 9, 0], 8, 0⟩) := by rfl
  rw [en] at hn
  clear hF en K7
  go_wp2_with fail
  refine hn.mono ?_
  clear hn
  rintro e w9 ht
  have K9 := Lib.hid (K8.out.told ht)
  obtain ⟨rfl, hF, -⟩ := ht
  have hn := Bytes_r 9 (by decide) (by decide) (by decide) hF
  have en : bytesR ⟨[0, 0, 0, 1, 0, 0, 0, 1, 0, 0, 0, 3, 7, 8, 9, 0], 8, 0⟩ 9 = ([7, 8, 9], ⟨[0, 0, 0, 1, 0, 0, 0, 1, 0, 0, 0, 3, 7, 8, 9, 0], 16, 0⟩) := by rfl
  rw [en] at hn
  clear hF en K8
  go_wp2_with fail
  refine hn.mono ?_
  clear hn
  rintro e w10 ⟨vc, rfl, hv, -, -, hF, ht⟩
  obtain ⟨Ac, cc, ec, -⟩ := id hv
  have ec' : vc = .slice Ac 3 cc := ec
  subst ec'
  have B10 := Lib.hid (K9.out.bel.trans (ht.below K9.out.bel.size fun i hi => by have := K9.out.new; omega))
  have V10 := Lib.hid (hv.mono (G := (· < w10.heap.size)) fun k hk _ => hk)
  have hn := End_r hF
  have en : endR ⟨[0, 0, 0, 1, 0, 0, 0, 1, 0, 0, 0, 3, 7, 8, 9, 0], 16, 0⟩ = 0 := by rfl
  rw [en] at hn
  clear hv hF ht en K9 ec
  go_wp2_with fail
  refine hn.mono ?_
  clear hn
  rintro e w11 ⟨rfl, hb⟩
  have B11 := Lib.hid (below_chain B10.out hb)
  have V11 := Lib.hid (V10.out.below hb)
  have hlt11 := hb.size
  have hn := NewReader_v [0, 0, 0, 2] (some ⟨w11.heap.size, 0, none⟩) 4 _ (by decide) (lit_rd w11 [0, 0, 0, 2]) (fun h => by cases h)
  change Calls Try.prog _ #[.slice (some ⟨w11.heap.size, 0, none⟩) 4 4] _ _ at hn
  have hba := (Below.refl w11.heap.size w11).alloc (Nat.le_refl _) (.cells (cellsOf [0, 0, 0, 2]).toArray 5)
  have B12 := Lib.hid (below_chain B11.out hba)
  have V12 := Lib.hid (V11.out.below hba)
  have hlt12 := hba.size
  clear hb hba V10 B10 V11 B11
  go_wp2_with fail
  refine hn.mono ?_
  clear hn
  rintro e w13 ⟨xb, rfl, hr, hnb, hb⟩
  have hxb : w10.heap.size ≤ xb := by omega
  have hlt13 := hb.size
  have K13 := Lib.hid (show RdB w w13 xb _ from ⟨⟨_, hr⟩, below_chain B12.out hb, Nat.le_trans B12.out.size hnb⟩)
  have V13 := Lib.hid (V12.out.below hb)
  have hn := Truth_r hr
  have en : truthR ⟨[0, 0, 0, 2], 0, 0⟩ = (false, ⟨[0, 0, 0, 2], 4, 5⟩) := by rfl
  rw [en] at hn
  clear hr hnb hb B12 V12 en
  go_wp2_with fail
  refine hn.mono ?_
  clear hn
  rintro e w14 ht
  have K14 := Lib.hid (K13.out.told ht)
  have V14 := Lib.hid (V13.out.turn ht.2.2 fun k hk e => by omega)
  have hlt14 := ht.2.2.size
  obtain ⟨rfl, -, -⟩ := ht
  have hn := NewReader_v [0, 0, 0, 9] (some ⟨w14.heap.size, 0, none⟩) 4 _ (by decide) (lit_rd w14 [0, 0, 0, 9]) (fun h => by cases h)
  change Calls Try.prog _ #[.slice (some ⟨w14.heap.size, 0, none⟩) 4 4] _ _ at hn
  have hba := (Below.refl w14.heap.size w14).alloc (Nat.le_refl _) (.cells (cellsOf [0, 0, 0, 9]).toArray 5)
  have K15 := Lib.hid (K14.out.below hba)
  have V15 := Lib.hid (V14.out.below hba)
  have hsz := hba.size
  obtain ⟨Fx, hFx⟩ := K14.out.at'
  have X15 := Lib.hid (hFx.tight.below hba)
  have hxl := hFx.lt
  clear hba K13 V13 K14 V14 hFx
  go_wp2_with fail
  refine hn.mono ?_
  clear hn
  rintro e w16 ⟨yb, rfl, hr, hnb, hb⟩
  have B16 := Lib.hid (below_chain K15.out.bel hb)
  have V16 := Lib.hid (V15.out.below hb)
  have X16 := Lib.hid (X15.out.below hb)
  have hyb : w14.heap.size ≤ yb := by omega
  have hn := Bytes_r 8 (by decide) (by decide) (by decide) hr
  have en : bytesR ⟨[0, 0, 0, 9], 0, 0⟩ 8 = ([], ⟨[0, 0, 0, 9], 4, 3⟩) := by rfl
  rw [en] at hn
  have hyw : w.heap.size ≤ yb := Nat.le_trans K15.out.bel.size hnb
  clear en hr hnb hb K15 V15 X15
  go_wp2_with fail
  refine hn.mono ?_
  clear hn
  rintro e w17 ⟨vd, rfl, hv, -, -, hF, ht⟩
  obtain ⟨Ad, cd, ed, -⟩ := id hv
  have ed' : vd = .slice Ad 0 cd := ed
  subst ed'
  have B17 := Lib.hid (B16.out.trans (ht.below B16.out.size fun i hi => by omega))
  have V17 := Lib.hid (V16.out.turn ht fun k hk e => by omega)
  have X17 := Lib.hid (X16.out.turn ht (fun e => by omega) fun k hk e => by have := hk.2; omega)
  have Y17 := Lib.hid hF
  clear hv hF ht ed B16 V16 X16
  have hbn := (Below.refl w17.heap.size w17).alloc (Nat.le_refl _) (.cells (cellsOf [7, 8, 9]).toArray 5)
  obtain ⟨A', c', e', hr', -, -, -⟩ := V17.out.below hbn
  cases e'
  have hs := Same_any Ac (some ⟨w17.heap.size, 0, none⟩) [7, 8, 9] [7, 8, 9] cc 3 _ hr'.rd (lit_rd w17 [7, 8, 9])
  rw [beq_self_eq_true] at hs
  change Calls Try.prog _ #[.slice Ac 3 cc, .slice (some ⟨w17.heap.size, 0, none⟩) 3 3] _ _ at hs
  have B18 := Lib.hid (below_chain B17.out hbn)
  have hxe := Error_r (X17.out.below hbn)
  have hye := Error_r (Y17.out.below hbn)
  dsimp only at hxe hye
  clear hbn hr' X17 Y17 V17 B17
  go_wp2_with fail
  refine hs.mono ?_
  clear hs
  rintro e w18 ⟨rfl, rfl⟩
  go_wp2_with fail
  refine hxe.mono ?_
  clear hxe
  rintro e w19 ⟨rfl, rfl⟩
  go_wp2_with fail
  refine hye.mono ?_
  clear hye
  rintro e w20 ⟨rfl, rfl⟩
  go_wp2_with fail
  go_ret
  exact ⟨rfl, B18.out⟩

end Go.Proofs.Ytafafffheabjjaa
