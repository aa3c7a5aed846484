/- BackFresh: the walk. -/
import Derived.Test.YtboalmmpcfiicaaDoorBac11
import Derived.Test.YtboalmmpcfiicaaDoorBac9
import Derived.Test.YtboalmmpcfiicaaDoorBacL
import Derived.Test.YtboalmmpcfiicaaDoorTblK
namespace Go.Proofs.YtboalmmpcfiicaaDoor
open Go.RowKit Go.Shelf
set_option linter.unusedVariables false
set_option maxRecDepth 100000
set_option linter.unusedSimpArgs false

theorem ty_blk {w : World} {v : Value} {k : Nat} (h : TyB w v) (hk : v.ownBlock = some k) : ∃ cs, Cs w k 5 cs := by
  rcases h with rfl | ⟨g, n, cap, cur, rfl, hc, -⟩
  · cases hk
  · cases hk
    exact ⟨_, hc⟩
/-- what the names' slots need: the block is there -/
def NamB (w : World) (u : Value) : Prop := ∀ g n cap, u = .slice (some ⟨g, 0, none⟩) n cap → ∃ cur : Array Value, Cs w g 9 cur ∧ cur.size = cap
theorem NamB.own {w : World} {base n : Nat} {u : Value} {xs : List Value} (h : w.ownsRow base 9 1 u n xs) : NamB w u := fun g n cap e => by
  rcases h.2 with ⟨h1, -⟩ | ⟨g', cap', cur, hv, hb, hg, h1, h2, h3, h4⟩
  · rw [h1] at e; cases e
  · rw [hv] at e
    cases e
    exact ⟨cur, hg, by omega⟩
theorem NamB.turn {w w' : World} {G : Nat → Prop} {u : Value} (h : NamB w u) (ht : Turn w w' G) (hG : ∀ k, u.ownBlock = some k → ¬ G k) : NamB w' u := fun g n cap e => by
  obtain ⟨cur, hc, hs⟩ := h g n cap e
  exact ⟨cur, hc.turn ht (hG g (by rw [e]; rfl)), hs⟩
set_option maxHeartbeats 16000000 in
theorem fresh_walk (l1 : List UInt8) (A1 : Option Addr) (c1 n : Nat) (w : World) (hT : Tabs w) (hl1 : l1.length ≤ 140737488351232) (rd1 : Rd w A1 l1) (nil1 : A1 = none → l1 = [] ∧ c1 = 0) (hn : n < 256) :
    Calls Tryd.prog 5 #[.slice A1 l1.length c1, .int .u8 (n : Int)] w fun e w' => e = .returned (.bool true) ∧ Below w.heap.size w w' := by
  have HT := Lib.hid hT
  obtain ⟨c, er, hx⟩ : ∃ c er, getB l1 = (c, er) := ⟨_, _, rfl⟩
  have hg := fun u (hb : Below w.heap.size w u) => Get_v l1 A1 c1 u (by omega) (rd1.below hb) nil1 (HT.out.below hb)
  rw [hx] at hg
  have HG := Lib.hid hg
  obtain ⟨bn, hbn, hor⟩ := or_one n hn
  have hne : (er != er) = false := by simp
  have heq : (er == er) = true := by simp
  have hself := sameB_self c
  have HBN := Lib.hid hbn
  have hnl : (n : Int) ≤ 255 := by omega
  clear hT hg hx rd1 nil1 hl1 hn hbn
  go_enter Tryd.func5, Tryd.ntmps5
  go_wp2_with fail
  refine (HG.out w (Below.refl _ _)).mono ?_
  rintro e w1 ⟨v1, u1, rfl, hv1, hty1, hown1, hrow1, hb1⟩
  dsimp only at hv1 hrow1 ⊢
  obtain ⟨Av1, cv1, rfl, -⟩ := id hv1.1
  obtain ⟨Bu1, du1, rfl, -⟩ := id hv1.2.1
  have TY1 := Lib.hid hty1
  have ON1 := Lib.hid hown1
  have RW1 := Lib.hid hrow1
  have NB1 := Lib.hid (NamB.own hrow1)
  have B1 := Lib.hid hb1
  have hrlt : ∀ q, (Value.slice Bu1 c.names.length du1).ownBlock = some q → w.heap.size ≤ q ∧ q < w1.heap.size := fun q hq => by
    obtain ⟨h1, cs, hc⟩ := own_blk hrow1 hq
    exact ⟨h1, hc.lt⟩
  have hvlt : ∀ q, (Value.slice Av1 c.data.length cv1).ownBlock = some q → w.heap.size ≤ q ∧ q < w1.heap.size := fun q hq => by
    obtain ⟨cs, hc⟩ := ty_blk hty1 hq
    exact ⟨hown1 q hq, hc.lt⟩
  have hnames : c.names.length = 0 ∨ ∃ g cap, Value.slice Bu1 c.names.length du1 = .slice (some ⟨g, 0, none⟩) c.names.length cap ∧ c.names.length ≤ cap ∧ cap ≤ maxLen := by
    rcases hrow1.2 with ⟨-, h0⟩ | ⟨g, cap, cur, hv, -, -, h1, h2, -⟩
    · exact .inl h0
    · exact .inr ⟨g, cap, hv, h1, h2⟩
  have RLT := Lib.hid hrlt
  have VLT := Lib.hid hvlt
  have NMS := Lib.hid hnames
  clear hv1 hty1 hown1 hrow1 hb1 hrlt hvlt hnames
  generalize hcs1 : bacCells c (.slice Av1 c.data.length cv1) (.slice Bu1 c.names.length du1) = cs1
  have HC1 := Lib.hid hcs1
  have HI1 := Lib.hid (show (Tryd.prog.info? 31).map (·.size) = some cs1.length by rw [← hcs1]; exact infoBack)
  have HO1 := Lib.hid (show ∀ x ∈ cs1, x.oneCell' = true by rw [← hcs1]; exact bac_one rfl rfl)
  have HL1 := Lib.hid (show cs1.length = zc.length by rw [← hcs1]; rfl)
  clear hcs1
  go_wp2_with (first
    | ((with_reducible show wpList _ _ _ _ _ w1); refine wpList_allocS rfl 31 rfl zc backZero ?_; intro g5 w2 hk2 hb2 hg2; go_frame; have C2 := Lib.hid hk2; have B2 := Lib.hid hb2; have G5 := Lib.hid hg2; clear hk2 hb2 hg2)
    | ((with_reducible show wpList _ _ _ _ _ w2); refine wpList_storeS rfl 31 _ _ rfl g5 rfl cs1 zc rfl C2.out HL1.out HO1.out HI1.out ?_; intro w3 hk ht; go_frame; have C3 := Lib.hid (show Cs w3 g5 31 (bacCells c (.slice Av1 c.data.length cv1) (.slice Bu1 c.names.length du1)).toArray by rw [HC1.out]; exact hk); have B13 := Lib.hid (below_turn B2.out ht B2.out.size G5.out); clear hk ht)
    | fail)
  refine (HG.out w3 (below_chain B1.out B13.out)).mono ?_
  rintro e w4 ⟨v2, u2, rfl, hv2, -, -, -, hb4⟩
  dsimp only at hv2 ⊢
  have N4 := Lib.hid hv2
  have B34 := Lib.hid hb4
  have hone2 := Lib.hid (bac_one (c := c) hv2.1.one hv2.2.1.one)
  clear hv2 hb4
  generalize hcs2 : bacCells c v2 u2 = cs2
  have HC2 := Lib.hid hcs2
  have HI2 := Lib.hid (show (Tryd.prog.info? 31).map (·.size) = some cs2.length by rw [← hcs2]; exact infoBack)
  have HO2 := Lib.hid (show ∀ x ∈ cs2, x.oneCell' = true by rw [← hcs2]; exact hone2.out)
  have HL2 := Lib.hid (show cs2.length = zc.length by rw [← hcs2]; rfl)
  clear hcs2 hone2
  go_wp2_with (first
    | ((with_reducible show wpList _ _ _ _ _ w4); refine wpList_allocS rfl 31 rfl zc backZero ?_; intro g7 w5 hk5 hb5 hg5; go_frame; have C5 := Lib.hid hk5; have B5 := Lib.hid hb5; have G7 := Lib.hid hg5; clear hk5 hb5 hg5)
    | ((with_reducible show wpList _ _ _ _ _ w5); refine wpList_storeS rfl 31 _ _ rfl g7 rfl cs2 zc rfl C5.out HL2.out HO2.out HI2.out ?_; intro w6 hk ht; go_frame; have C6 := Lib.hid hk; have B46 := Lib.hid (below_turn B5.out ht B5.out.size G7.out); have C36 := Lib.hid (C3.out.below (below_chain B34.out B46.out) C3.out.lt); have p10 : w6.cell? ⟨g5, 10, none⟩ = some (.slice Av1 c.data.length cv1) := C36.out.bac.2.2.2.2.2.2.2.2.2.2.1; clear hk ht)
    | fail)
  have B16 := Lib.hid (below_chain B13.out (below_chain B34.out B46.out))
  refine (Spoil_ty _ bn HBN.out w6 (TY1.out.below B16.out)).mono ?_
  rintro e w7 ⟨⟨xv, rfl⟩, ht7, -⟩
  have T7 := Lib.hid ht7
  have NB7 := Lib.hid ((NB1.out.turn (Turn.of_below B16.out fun _ => False) (fun _ _ h => h)).turn ht7 (fun q hq hh => by
    obtain ⟨-, cs, hc⟩ := own_blk RW1.out hq
    obtain ⟨cs', hc'⟩ := ty_blk TY1.out hh
    exact Cs.ne hc hc' (by decide) rfl))
  have S1 := Lib.hid (show w1.heap.size ≤ g5 ∧ w1.heap.size ≤ g7 ∧ w.heap.size ≤ w1.heap.size ∧ w1.heap.size ≤ w3.heap.size by
    have h1 := G5.out
    have h2 := B13.out.size
    have h3 := B34.out.size
    have h4 := G7.out
    have h5 := B1.out.size
    omega)
  have C57 := Lib.hid (C36.out.turn ht7 (fun hh => by have := (VLT.out _ hh).2; have := S1.out; omega))
  have C77 := Lib.hid (C6.out.turn ht7 (fun hh => by have := (VLT.out _ hh).2; have := S1.out; omega))
  have N7 := Lib.hid ((N4.out.below B46.out).turn ht7 (fun k hk hh => by have := (VLT.out _ hh).2; have := S1.out; omega))
  have B07 := Lib.hid ((below_chain B1.out B16.out).trans (ht7.below (below_chain B1.out B16.out).size fun k hh => (VLT.out _ hh).1))
  clear ht7 p10
  go_wp2_with fail
  go_loopw [9] (fun i wr => ∃ k : Nat, k ≤ c.names.length ∧ i = .int .i64 (k : Int) ∧ NamB wr (.slice Bu1 c.names.length du1) ∧ Turn w7 wr (fun q => (Value.slice Bu1 c.names.length du1).ownBlock = some q)) (fun i _ => c.names.length - (RowKit.intOf i).toNat)
  case atStart => exact ⟨0, Nat.zero_le _, rfl, NB7.out, Turn.refl _ _⟩
  case round =>
    obtain ⟨k, hk, rfl, hnb, ht⟩ := hrel
    have C5r := Lib.hid (C57.out.turn ht (fun hh => by have := (RLT.out _ hh).2; have := S1.out; omega))
    have p11 : wr.cell? ⟨g5, 11, none⟩ = some (.slice Bu1 c.names.length du1) := C5r.out.bac.2.2.2.2.2.2.2.2.2.2.2.1
    have hnlen : (c.names.length : Int) ≤ 9223372036854775807 := by
      rcases NMS.out with h0 | ⟨g, cap, -, h1, h2⟩
      · rw [h0]; decide
      · simp only [maxLen] at h2; omega
    generalize hm : c.names.length = m at *
    have HM := Lib.hid hm
    clear hm
    by_cases hlt : k < m
    · obtain ⟨g, cap, hu, hmc, hcm⟩ : ∃ g cap, Value.slice Bu1 m du1 = .slice (some ⟨g, 0, none⟩) m cap ∧ m ≤ cap ∧ cap ≤ maxLen := by
        rcases NMS.out with h0 | h
        · omega
        · exact h
      cases hu
      obtain ⟨cur, hcu, hsz⟩ := hnb g m du1 rfl
      have hkc : k < cur.size := by omega
      have ck := hcu.cell k (Array.getElem?_eq_getElem hkc)
      have fk := hcu.frozen k
      have HCU := Lib.hid hcu
      have HSZ := Lib.hid hsz
      have HTT := Lib.hid ht
      clear hcu hsz ht hnb
      have hlt' : (k : Int) < (m : Int) := by omega
      go_wp2_with fail
      go_roundw
      case rel =>
        refine ⟨k + 1, by omega, by go_num, fun g' n' cap' e => ?_, HTT.out.trans (Turn.setAt _ g k _) fun q _ e => by rw [e]; rfl⟩
        cases e
        exact ⟨_, HCU.out.set k _, by rw [Array.size_setIfInBounds]; exact HSZ.out⟩
      case measure => simp [RowKit.intOf]; omega
    · obtain rfl : k = m := by omega
      have TR := Lib.hid ht
      have B0r := Lib.hid (B07.out.trans (ht.below B07.out.size fun q hh => (RLT.out _ hh).1))
      have C7r := Lib.hid (C77.out.turn ht (fun hh => by have := (RLT.out _ hh).2; have := S1.out; omega))
      have Nr := Lib.hid (N7.out.turn ht (fun q hq hh => by have := (RLT.out _ hh).2; have := S1.out; omega))
      clear ht hnb
      go_wp2_with fail
      refine (HG.out wr B0r.out).mono ?_
      rintro e w8 ⟨v3, u3, rfl, hv3, -, -, -, hb8⟩
      dsimp only at hv3 ⊢
      have N8 := Lib.hid hv3
      have B8 := Lib.hid hb8
      have hone3 := Lib.hid (bac_one (c := c) hv3.1.one hv3.2.1.one)
      clear hv3 hb8
      generalize hcs3 : bacCells c v3 u3 = cs3
      have HC3 := Lib.hid hcs3
      have HI3 := Lib.hid (show (Tryd.prog.info? 31).map (·.size) = some cs3.length by rw [← hcs3]; exact infoBack)
      have HO3 := Lib.hid (show ∀ x ∈ cs3, x.oneCell' = true by rw [← hcs3]; exact hone3.out)
      have HL3 := Lib.hid (show cs3.length = zc.length by rw [← hcs3]; rfl)
      clear hcs3 hone3
      go_wp2_with (first
        | ((with_reducible show wpList _ _ _ _ _ w8); refine wpList_allocS rfl 31 rfl zc backZero ?_; intro g10 w9 hk9 hb9 hg9; go_frame; have C9 := Lib.hid hk9; have B9 := Lib.hid hb9; have G10 := Lib.hid hg9; clear hk9 hb9 hg9)
        | ((with_reducible show wpList _ _ _ _ _ w9); refine wpList_storeS rfl 31 _ _ rfl g10 rfl cs3 zc rfl C9.out HL3.out HO3.out HI3.out ?_; intro w10 hk ht; go_frame; have C10 := Lib.hid hk; have B810 := Lib.hid (below_turn B9.out ht B9.out.size G10.out); have C710 := Lib.hid (C7r.out.below (below_chain B8.out B810.out) C7r.out.lt); clear hk ht)
        | ((with_reducible show wpList _ _ _ _ _ w10); refine wpList_loadG (by rfl) 31 (.tmp 7) rfl g7 rfl cs2 C710.out _ Tryd.underlying31 rfl HI2.out ?_; go_frame)
        | ((with_reducible show wpList _ _ _ _ _ w10); refine wpList_loadG (by rfl) 31 (.tmp 10) rfl g10 rfl cs3 C10.out _ Tryd.underlying31 rfl HI3.out ?_; go_frame)
        | fail)
      have hs := SameR_v (Nr.out.below (below_chain B8.out B810.out)) (N8.out.below B810.out)
      rw [hself, HC2.out, HC3.out] at hs
      refine hs.mono ?_
      rintro e w11 ⟨rfl, hb⟩
      have B11 := Lib.hid (below_chain (below_chain B0r.out (below_chain B8.out B810.out)) hb)
      clear hb hs
      go_wp2_with fail
      refine (lives11_v w11 (HT.out.below B11.out)).mono ?_
      rintro e w12 ⟨rfl, hb⟩
      have B12 := Lib.hid (below_chain B11.out hb)
      clear hb
      go_wp2_with fail
      go_ret
      exact ⟨rfl, B12.out⟩

end Go.Proofs.YtboalmmpcfiicaaDoor
