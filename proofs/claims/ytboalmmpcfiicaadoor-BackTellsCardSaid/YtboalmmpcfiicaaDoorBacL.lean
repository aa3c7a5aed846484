/- Layer 11's laws: replies that the document tells. -/
import Derived.Test.YtboalmmpcfiicaaDoorBac5
import Derived.Test.YtboalmmpcfiicaaDoorBac8
import Derived.Test.YtboalmmpcfiicaaDoorSlB
namespace Go.Proofs.YtboalmmpcfiicaaDoor
open Go.RowKit Go.Shelf
set_option linter.unusedVariables false
set_option maxRecDepth 100000
set_option linter.unusedSimpArgs false

theorem BsV.capB {w : World} {F : Nat → Prop} {A : Option Addr} {n c : Nat} {l : List UInt8} (h : BsV w F (.slice A n c) l) : l.length ≤ c ∧ c ≤ maxLen ∧ n = l.length := by
  obtain ⟨A', c', e, h1, h2, h3, h4⟩ := h
  cases e
  exact ⟨h3, h4, rfl⟩
/-- the chapter's reply -/
def oneB : BackX := { bacZero with inc := 1, seq := 1 }
theorem oneOkB : bacOk oneB := by simp [bacOk, oneB, bacZero]
theorem oneMayB : mayB oneB = true := by decide +kernel
theorem zeroMayB : mayB bacZero = false := by decide +kernel
theorem oneLenB : (putB oneB).length = 64 := by decide +kernel
theorem oneFullB : getB (putB oneB) = (oneB, 0) := by
  have h := putB_get oneOkB oneMayB [] (by rw [List.append_nil, oneLenB]; decide)
  rwa [List.append_nil, if_pos rfl] at h
theorem oneCutB : getB ((putB oneB).take 63) = (bacZero, 4) := putB_cut oneOkB oneMayB 63 (by rw [oneLenB]; decide)
/-- Put of a reply that may be, or not, in one word each -/
theorem PutB_no {F : Nat → Prop} {c : BackX} {v u : Value} {w : World} (h : BacV w F c v u) (hF : ∀ k, F k → k < w.heap.size) (hT : Tabs w) (hm : mayB c = false) : Calls Tryd.prog 8 #[.agg (bacCells c v u).toArray] w fun e w' => e = .returned (.tuple #[.slice none 0 0, .int .i64 2]) ∧ Below w.heap.size w w' := by
  refine (Put_v h hF hT).mono ?_
  rintro e w' (⟨-, h, hb⟩ | ⟨h, -⟩)
  · exact ⟨h, hb⟩
  · rw [hm] at h; cases h
theorem PutB_yes {F : Nat → Prop} {c : BackX} {v u : Value} {w : World} (h : BacV w F c v u) (hF : ∀ k, F k → k < w.heap.size) (hT : Tabs w) (hm : mayB c = true) : Calls Tryd.prog 8 #[.agg (bacCells c v u).toArray] w fun e w' => ∃ A cp, e = .returned (.tuple #[.slice A (putB c).length cp, .int .i64 0]) ∧ BsV w' (w.heap.size ≤ ·) (.slice A (putB c).length cp) (putB c) ∧ Below w.heap.size w w' := by
  refine (Put_v h hF hT).mono ?_
  rintro e w' (⟨h, -⟩ | ⟨-, v, he, hv, -, -, hb⟩)
  · rw [hm] at h; cases h
  · obtain ⟨A, cp, rfl, -⟩ := id hv
    exact ⟨A, cp, he, hv, hb⟩
/-- Get of bytes that read -/
theorem GetB_b {F : Nat → Prop} {l : List UInt8} {A : Option Addr} {n cp : Nat} {w : World} (hn : l.length = n) (h : BsV w F (.slice A n cp) l) (hl : n ≤ 140737488355328) (hT : Tabs w) {x : BackX × Int} (hx : getB l = x) : Calls Tryd.prog 10 #[.slice A n cp] w fun e w' => ∃ A' c' B' d', e = .returned (.tuple #[.agg (bacCells x.1 (.slice A' x.1.data.length c') (.slice B' x.1.names.length d')).toArray, .int .i64 x.2]) ∧ BacV w' (w.heap.size ≤ ·) x.1 (.slice A' x.1.data.length c') (.slice B' x.1.names.length d') ∧ Below w.heap.size w w' := by
  subst hn
  obtain ⟨A0, c0, e0, h1, h2, -⟩ := id h
  cases e0
  subst hx
  refine (Get_v l A cp w hl h1.rd h2 hT).mono ?_
  rintro e w' ⟨v, u, he, hv, -, -, -, hb⟩
  obtain ⟨A', c', rfl, -⟩ := id hv.1
  obtain ⟨B', d', rfl, -⟩ := id hv.2.1
  exact ⟨A', c', B', d', he, hv, hb⟩
set_option maxHeartbeats 16000000 in
theorem lives11_v (w : World) (hT : Tabs w) : Calls Tryd.prog 6 #[] w fun e w' => e = .returned (.bool true) ∧ Below w.heap.size w w' := by
  have HT := Lib.hid hT
  have HC3 := Lib.hid (Errno_v 3 (by decide))
  have HC77 := Lib.hid (Errno_v 77 (by decide))
  rw [show (if 3 ≤ 9 then errB 3 else 2) = 8 from rfl] at HC3
  rw [show (if 77 ≤ 9 then errB 77 else 2) = 2 from rfl] at HC77
  clear hT
  have e1 : bacCells bacZero (.slice none 0 0) (.slice none 0 0) = [.int .u8 0, .int .u32 0, .int .u64 0, .int .u8 0, .int .u32 0, .int .u32 0, .bool false, .int .u32 0, .int .u64 0, .int .u64 0, .slice none 0 0, .slice none 0 0, .int .u32 0] := rfl
  have e2 : bacCells oneB (.slice none 0 0) (.slice none 0 0) = [.int .u8 0, .int .u32 1, .int .u64 1, .int .u8 0, .int .u32 0, .int .u32 0, .bool false, .int .u32 0, .int .u64 0, .int .u64 0, .slice none 0 0, .slice none 0 0, .int .u32 0] := rfl
  have p1 := fun u (hb : Below w.heap.size w u) => PutB_no (bacZ_v u (fun _ => False)) (fun _ h => h.elim) (HT.out.below hb) zeroMayB
  have p2 := fun u (hb : Below w.heap.size w u) => PutB_yes (F := fun _ => False) (c := oneB) (v := .slice none 0 0) (u := .slice none 0 0) (w := u) ⟨BsV.nil _ _, NmV.nil _ _, oneOkB⟩ (fun _ h => h.elim) (HT.out.below hb) oneMayB
  rw [e1] at p1
  rw [e2] at p2
  have P1 := Lib.hid p1
  have P2 := Lib.hid p2
  clear e1 e2 p1 p2
  go_enter Tryd.func6, Tryd.ntmps6
  go_wp2_with fail
  refine (P1.out w (Below.refl _ _)).mono ?_
  rintro e w1 ⟨rfl, hb⟩
  have HB1 := Lib.hid hb
  clear hb
  go_wp2_with fail
  refine (P2.out w1 HB1.out).mono ?_
  rintro e w2 ⟨A, cp, rfl, hv, hb⟩
  have hlen := oneLenB
  have hcut := oneCutB
  have hfull := oneFullB
  generalize putB oneB = pl at *
  have hb2 := below_chain HB1.out hb
  rw [hlen] at hv ⊢
  obtain ⟨hlc, hcm, -⟩ := hv.capB
  have hsl := sl_h A 64 cp 63 (by omega)
  have HG1 := Lib.hid (GetB_b (w := w2) (by rw [List.length_take]; omega) (hv.upto 63 (by omega)) (by decide) (HT.out.below hb2) hcut)
  have HG2 := Lib.hid fun u (h : Below w2.heap.size w2 u) => GetB_b hlen (hv.below h) (by decide) (HT.out.below (below_chain hb2 h)) hfull
  have HB2 := Lib.hid hb2
  have hle : cp ≤ 9223372036854775807 := hcm
  have hle2 : 64 ≤ cp := by omega
  clear hb2 hb hv hlc hcm hlen hcut hfull
  go_wp2_with fail
  refine HG1.out.mono ?_
  rintro e w3 ⟨A3, c3, B3, d3, rfl, hv3, hb⟩
  have HB3 := Lib.hid hb
  clear hv3 hb
  go_wp2_with (first
    | ((with_reducible show wpList _ _ _ _ _ w3); refine wpList_allocS rfl 31 rfl zc backZero ?_; intro g4 w4 hk4 hb4 hg4; go_frame; have C4 := Lib.hid hk4; have B4 := Lib.hid (below_chain HB3.out hb4); have G4 := Lib.hid (Nat.le_trans HB3.out.size hg4); clear hk4 hb4 hg4)
    | ((with_reducible show wpList _ _ _ _ _ w4); refine wpList_storeS rfl 31 _ _ rfl g4 rfl (bacCells bacZero (.slice A3 bacZero.data.length c3) (.slice B3 bacZero.names.length d3)) zc rfl C4.out rfl (bac_one rfl rfl) infoBack ?_; intro w5 hk5 ht5; go_frame; have B5 := Lib.hid (B4.out.trans (ht5.below B4.out.size fun k e => by have := G4.out; omega)); clear hk5 ht5)
    | fail)
  refine (HG2.out _ B5.out).mono ?_
  rintro e w6 ⟨A6, c6, B6, d6, rfl, hv6, hb⟩
  have HB6 := Lib.hid (below_chain B5.out hb)
  clear hv6 hb
  go_wp2_with (first
    | ((with_reducible show wpList _ _ _ _ _ w6); refine wpList_allocS rfl 31 rfl zc backZero ?_; intro g7 w7 hk7 hb7 hg7; go_frame; have C7 := Lib.hid hk7; have B7 := Lib.hid (below_chain HB6.out hb7); have G7 := Lib.hid (Nat.le_trans HB6.out.size hg7); clear hk7 hb7 hg7)
    | ((with_reducible show wpList _ _ _ _ _ w7); refine wpList_storeS rfl 31 _ _ rfl g7 rfl (bacCells oneB (.slice A6 oneB.data.length c6) (.slice B6 oneB.names.length d6)) zc rfl C7.out rfl (bac_one rfl rfl) infoBack ?_; intro w8 hk8 ht8; go_frame; have p1 : w8.cell? ⟨g7, 1, none⟩ = some (.int .u32 1) := hk8.cell 1 rfl; have p2 : w8.cell? ⟨g7, 2, none⟩ = some (.int .u64 1) := hk8.cell 2 rfl; have B8 := Lib.hid (B7.out.trans (ht8.below B7.out.size fun k e => by have := G7.out; omega)); clear hk8 ht8)
    | fail)
  refine (HC3.out _).mono ?_
  rintro e w9 ⟨rfl, hb⟩
  have B9 := Lib.hid (below_chain B8.out hb)
  clear hb
  go_wp2_with fail
  refine (HC77.out _).mono ?_
  rintro e w10 ⟨rfl, hb⟩
  have B10 := Lib.hid (below_chain B9.out hb)
  clear hb
  go_wp2_with fail
  go_ret
  exact ⟨rfl, below_chain HB2.out B10.out⟩

end Go.Proofs.YtboalmmpcfiicaaDoor
