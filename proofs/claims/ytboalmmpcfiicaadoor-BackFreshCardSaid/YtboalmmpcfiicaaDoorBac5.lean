/- The bytes of a reply: what is told of a file, names; Put. -/
import Derived.Test.YtboalmmpcfiicaaDoorBac3
import Derived.Test.YtboalmmpcfiicaaDoorXdWr2
namespace Go.Proofs.YtboalmmpcfiicaaDoor
open Go.RowKit Go.Shelf Go.Lib
set_option linter.unusedVariables false
set_option maxRecDepth 100000
set_option linter.unusedSimpArgs false

theorem Cs.att {w : World} {g : Nat} {c : BackX} (h : Cs w g 27 (attCells c).toArray) : w.cell? ⟨g, 0, none⟩ = some (.int .u32 (c.ino : Int)) ∧ w.cell? ⟨g, 1, none⟩ = some (.int .u32 (c.gen : Int)) ∧ w.cell? ⟨g, 2, none⟩ = some (.bool c.dir) ∧ w.cell? ⟨g, 3, none⟩ = some (.int .u32 (c.size : Int)) ∧ w.cell? ⟨g, 4, none⟩ = some (.int .u64 (c.change : Int)) :=
  ⟨h.cell 0 rfl, h.cell 1 rfl, h.cell 2 rfl, h.cell 3 rfl, h.cell 4 rfl⟩
/-- what is told of a file, as bytes -/
def attX (c : BackX) : List UInt8 := beL (c.ino : Int) 4 ++ beL (c.gen : Int) 4 ++ truthX c.dir ++ beL (c.size : Int) 4 ++ beL (c.change : Int) 8
theorem attX_length (c : BackX) : (attX c).length = 24 := by simp [attX, beL_length, truthX_length]
/-- steps that lay, since w0 -/
def LayS (w0 : World) (wb : Nat) (v0 : Value) (v : Value) (l : List UInt8) (w : World) : Prop := WrAt w wb v l ∧ Turn w0 w (LayF wb v0) ∧ OwnTo w0 v0 v
theorem LayS.step {w0 w w' : World} {wb : Nat} {v0 v : Value} {l l' : List UInt8} {e : Ending} (h : LayS w0 wb v0 v l w) (k : Laid wb v l' w e w') : ∃ v', LayS w0 wb v0 v' l' w' := by
  obtain ⟨h1, h2, h3⟩ := h
  obtain ⟨-, v2, k1, k2, k3⟩ := k
  refine ⟨v2, k1, h2.trans k2 fun i hi hh => ?_, h3.trans k3 h2.size⟩
  rcases hh with hh | hh
  · exact .inl hh
  · rcases h3 i hh with h4 | h4
    · exact .inr h4
    · omega
theorem LayS.start {w0 w : World} {wb : Nat} {v0 : Value} {l : List UInt8} (h : WrAt w0 wb v0 l) (hb : Below w0.heap.size w0 w) : LayS w0 wb v0 v0 l w := ⟨h.below hb, Turn.of_below hb _, OwnTo.refl _ _⟩
theorem LayS.below {w0 w w' : World} {wb : Nat} {v0 v : Value} {l : List UInt8} (h : LayS w0 wb v0 v l w) (hb : Below w.heap.size w w') : LayS w0 wb v0 v l w' := ⟨h.1.below hb, h.2.1.trans (Turn.of_below hb fun _ => False) fun _ _ h => h.elim, h.2.2⟩
theorem LayS.end {w0 w : World} {wb : Nat} {v0 v : Value} {l : List UInt8} (h : LayS w0 wb v0 v l w) : Laid wb v0 l w0 (.returned (.tuple #[])) w := ⟨rfl, v, h.1, h.2.1, h.2.2⟩
set_option maxHeartbeats 8000000 in
theorem putAttr_v {w : World} {wb : Nat} {v0 : Value} {l : List UInt8} {c : BackX} (hok : bacOk c) (h : WrAt w wb v0 l) (hl : l.length ≤ 1000000) :
    Calls Tryd.prog 25 #[.pointer (some ⟨wb, 0, none⟩), .agg (attCells c).toArray] w fun e w' => Laid wb v0 (l ++ attX c) w e w' := by
  obtain ⟨-, -, -, -, h5, h6, h7, h8, -, -⟩ := hok
  have e1 : l ++ attX c = l ++ beL (c.ino : Int) 4 ++ beL (c.gen : Int) 4 ++ truthX c.dir ++ beL (c.size : Int) 4 ++ beL (c.change : Int) 8 := by simp [attX]
  rw [e1]
  clear e1
  have HOK := Lib.hid (And.intro h5 (And.intro h6 (And.intro h7 h8)))
  have H0 := Lib.hid h
  have HLL := Lib.hid hl
  clear h hl h5 h6 h7 h8
  generalize hcs : attCells c = cs
  have HCS := Lib.hid hcs
  clear hcs
  go_enter Tryd.func25, Tryd.ntmps25
  go_wp2_with (first
    | ((with_reducible show wpList _ _ _ _ _ w); refine wpList_boxS rfl 27 _ rfl cs rfl ?_; intro g1 w1 hk1 hb1 hg1; go_frame; have C0 := Lib.hid (show Cs w1 g1 27 (attCells c).toArray by rw [HCS.out]; exact hk1); have K0 := Lib.hid (LayS.start H0.out hb1); obtain ⟨p0, p1, p2, p3, p4⟩ := C0.out.att; clear hk1 hb1 hg1)
    | fail)
  clear p0 p1 p2 p3 p4
  refine (Number_w c.ino HOK.out.1 K0.out.1 (by (try simp only [List.length_append, beL_length, truthX_length]); have := HLL.out; omega)).mono ?_
  rintro e w2 hq
  obtain ⟨v1, hs⟩ := K0.out.step hq
  have C1 := Lib.hid (C0.out.laid K0.out.1 hq (by decide) (by decide))
  obtain ⟨rfl, -⟩ := hq
  have K1 := Lib.hid hs
  clear hs K0 C0
  obtain ⟨p0, p1, p2, p3, p4⟩ := C1.out.att
  go_wp2_with fail
  clear p0 p1 p2 p3 p4
  refine (Number_w c.gen HOK.out.2.1 K1.out.1 (by (try simp only [List.length_append, beL_length, truthX_length]); have := HLL.out; omega)).mono ?_
  rintro e w3 hq
  obtain ⟨v2, hs⟩ := K1.out.step hq
  have C2 := Lib.hid (C1.out.laid K1.out.1 hq (by decide) (by decide))
  obtain ⟨rfl, -⟩ := hq
  have K2 := Lib.hid hs
  clear hs K1 C1
  obtain ⟨p0, p1, p2, p3, p4⟩ := C2.out.att
  go_wp2_with fail
  clear p0 p1 p2 p3 p4
  refine (Truth_w c.dir K2.out.1 (by (try simp only [List.length_append, beL_length, truthX_length]); have := HLL.out; omega)).mono ?_
  rintro e w4 hq
  obtain ⟨v3, hs⟩ := K2.out.step hq
  have C3 := Lib.hid (C2.out.laid K2.out.1 hq (by decide) (by decide))
  obtain ⟨rfl, -⟩ := hq
  have K3 := Lib.hid hs
  clear hs K2 C2
  obtain ⟨p0, p1, p2, p3, p4⟩ := C3.out.att
  go_wp2_with fail
  clear p0 p1 p2 p3 p4
  refine (Number_w c.size HOK.out.2.2.1 K3.out.1 (by (try simp only [List.length_append, beL_length, truthX_length]); have := HLL.out; omega)).mono ?_
  rintro e w5 hq
  obtain ⟨v4, hs⟩ := K3.out.step hq
  have C4 := Lib.hid (C3.out.laid K3.out.1 hq (by decide) (by decide))
  obtain ⟨rfl, -⟩ := hq
  have K4 := Lib.hid hs
  clear hs K3 C3
  obtain ⟨p0, p1, p2, p3, p4⟩ := C4.out.att
  go_wp2_with fail
  clear p0 p1 p2 p3 p4
  refine (Great_w c.change HOK.out.2.2.2 K4.out.1 (by (try simp only [List.length_append, beL_length, truthX_length]); have := HLL.out; omega)).mono ?_
  rintro e w6 hq
  obtain ⟨v5, hs⟩ := K4.out.step hq
  have C5 := Lib.hid (C4.out.laid K4.out.1 hq (by decide) (by decide))
  obtain ⟨rfl, -⟩ := hq
  have K5 := Lib.hid hs
  clear hs K4 C4
  go_wp2_with fail
  go_end0
  exact K5.out.end
/-- names, as bytes -/
def layN (l : List ByteArray) : List UInt8 := (l.map fun s => bytesX (L s)).flatten
theorem layN_is : ∀ l : List ByteArray, layL (namS l.length) (namD l) = layN l
  | [] => rfl
  | x :: l => by
    show bytesX (L x) ++ layL (namS l.length) (namD l) = layN (x :: l)
    rw [layN_is l]
    rfl
theorem layN_succ (l : List ByteArray) (k : Nat) (h : k < l.length) : layN (l.take (k + 1)) = layN (l.take k) ++ bytesX (L l[k]) := by
  unfold layN
  rw [List.take_succ_eq_append_getElem h, List.map_append, List.flatten_append]
  simp
theorem layN_le (l : List ByteArray) (h : ∀ s ∈ l, (L s).length ≤ 32) : (layN l).length ≤ 40 * l.length := by
  rw [← layN_is]
  exact lay_names h
theorem mem_take {α : Type} {l : List α} {k : Nat} {x : α} (h : x ∈ l.take k) : x ∈ l := List.mem_of_mem_take h
set_option maxHeartbeats 8000000 in
theorem putNames_v {w : World} {wb : Nat} {v0 : Value} {l : List UInt8} {F : Nat → Prop} {A : Option Addr} {c : Nat} {ns : List ByteArray} (h : WrAt w wb v0 l) (hr : NmV w F (.slice A ns.length c) ns) (hF : ∀ k, F k → ¬ LayF wb v0 k) (hn : ns.length ≤ 32) (hs : ∀ s ∈ ns, (L s).length ≤ 32) (hl : l.length ≤ 1000000) :
    Calls Tryd.prog 27 #[.pointer (some ⟨wb, 0, none⟩), .slice A ns.length c] w fun e w' => Laid wb v0 (l ++ beL (ns.length : Int) 4 ++ layN ns) w e w' := by
  have hn' : (ns.length : Int) ≤ 32 := by omega
  have HNUM := Lib.hid (Number_w ns.length (by omega) h (by omega))
  have H0 := Lib.hid (LayS.start h (Below.refl _ _))
  have HR := Lib.hid hr
  have HF := Lib.hid hF
  have HS := Lib.hid hs
  have HLL := Lib.hid hl
  have HNN := Lib.hid hn
  clear h hr hF hs hl
  go_enter Tryd.func27, Tryd.ntmps27
  go_wp2_with fail
  refine HNUM.out.mono ?_
  rintro e w1 hq
  obtain ⟨v1, hs1⟩ := H0.out.step hq
  obtain ⟨rfl, -⟩ := hq
  have H1 := Lib.hid hs1
  clear hs1
  go_wp2_with fail
  go_loopw [5, 13] (fun _ i wr => ∃ (k : Nat) (v : Value), k ≤ ns.length ∧ i = .int .i64 (k : Int) ∧ LayS w wb v0 v (l ++ beL (ns.length : Int) 4 ++ layN (ns.take k)) wr) (fun _ i _ => ns.length - (RowKit.intOf i).toNat)
  case atStart => exact ⟨0, v1, Nat.zero_le _, rfl, by have := H1.out; simpa [layN] using this⟩
  case round =>
    obtain ⟨k, v, hk, rfl, hw⟩ := hrel
    have HW := Lib.hid hw
    clear hw
    by_cases hlt : k < ns.length
    · have hnm := HR.out.turn HW.out.2.1 HF.out
      obtain ⟨b, off, rfl, hc⟩ := hnm.rds.get hlt
      have hcell := hc k hlt
      have hlt' : (k : Int) < (ns.length : Int) := by omega
      have hs := HS.out _ (List.getElem_mem hlt)
      have hsucc := layN_succ ns k hlt
      have hle := layN_le (ns.take k) (fun s hs => HS.out s (mem_take hs))
      rw [List.length_take] at hle
      generalize hsx : ns[k] = s at *
      have hsz : s.size ≤ 140737488355328 := by rw [L_size]; omega
      obtain ⟨W, cp, hcv, hb, hszw, hbv⟩ := conv_strB s hsz wr
      have HLE := Lib.hid hle
      have HSU := Lib.hid hsucc
      have HLS := Lib.hid hs
      have HNW := Lib.hid hnm
      have HW2 := Lib.hid (HW.out.below hb)
      have HBV := Lib.hid hbv
      have HX := Lib.hid (Bytes_w (c := cp) HW2.out.1 hbv (fun k e hh => by
        subst e
        rcases hh with hh | hh
        · have := HW.out.1.cell.lt; omega
        · have := HW.out.1.lt _ hh; omega) (by omega) (by
        have h1 := bytesX_length (L s)
        have h2 := padN_lt (L s).length
        have h3 := HLL.out
        have h4 := HNN.out
        rw [List.length_append, List.length_append, beL_length]
        omega))
      clear hc hs hsucc hle hsz hb hszw hbv hnm
      go_wp2_with fail
      refine HX.out.mono ?_
      rintro e w2 hq
      obtain ⟨v2, hs2⟩ := HW2.out.step hq
      obtain ⟨rfl, -⟩ := hq
      have H2 := Lib.hid hs2
      clear hs2
      go_wp2_with fail
      go_roundw
      case rel =>
        refine ⟨k + 1, v2, by omega, by go_num, ?_⟩
        rw [HSU.out, ← List.append_assoc]
        exact H2.out
      case measure => simp [RowKit.intOf]; omega
    · obtain rfl : k = ns.length := by omega
      go_wp2_with fail
      go_end0
      have hw := HW.out
      rw [List.take_length] at hw
      exact hw.end
theorem layH_is (c : BackX) : layL bacS (bacD c) = beL (c.client : Int) 4 ++ beL (c.inc : Int) 4 ++ beL (c.seq : Int) 8 ++ beL (c.status : Int) 4 ++ beL (c.boot : Int) 4 ++ attX c ++ beL (c.before : Int) 8 ++ bytesX c.data ++ beL (c.names.length : Int) 4 := by
  have e : truthX ((if c.dir = true then 1 else 0) == 1) = truthX c.dir := by cases c.dir <;> rfl
  simp [bacS, bacD, layL, layF, attX, e]
theorem putB_is (c : BackX) : putB c = beL (c.client : Int) 4 ++ beL (c.inc : Int) 4 ++ beL (c.seq : Int) 8 ++ beL (c.status : Int) 4 ++ beL (c.boot : Int) 4 ++ attX c ++ beL (c.before : Int) 8 ++ bytesX c.data ++ beL (c.names.length : Int) 4 ++ layN c.names := by
  unfold putB
  rw [layN_is, layH_is]
/-- what Put answers -/
def PutAns (c : BackX) (w : World) (e : Ending) (w' : World) : Prop :=
  (mayB c = false ∧ e = .returned (.tuple #[.slice none 0 0, .int .i64 2]) ∧ Below w.heap.size w w') ∨
  (mayB c = true ∧ ∃ v, e = .returned (.tuple #[v, .int .i64 0]) ∧ BsV w' (w.heap.size ≤ ·) v (putB c) ∧ TyB w' v ∧ (∀ k, v.ownBlock = some k → w.heap.size ≤ k) ∧ Below w.heap.size w w')
theorem agg_att {w : World} {g : Nat} {c : BackX} {v u : Value} (h : Cs w g 31 (bacCells c v u).toArray) : At w g 4 (attCells c) := fun i x hx => by
  match i, hx with
  | 0, hx => cases hx; exact h.cell 4 rfl
  | 1, hx => cases hx; exact h.cell 5 rfl
  | 2, hx => cases hx; exact h.cell 6 rfl
  | 3, hx => cases hx; exact h.cell 7 rfl
  | 4, hx => cases hx; exact h.cell 8 rfl
  | (n + 5), hx => cases hx
set_option maxHeartbeats 8000000 in
theorem Put_v {F : Nat → Prop} {c : BackX} {v u : Value} {w : World} (h : BacV w F c v u) (hF : ∀ k, F k → k < w.heap.size) (hT : Tabs w) : Calls Tryd.prog 8 #[.agg (bacCells c v u).toArray] w fun e w' => PutAns c w e w' := by
  obtain ⟨A, ca, rfl, -⟩ := id h.1
  obtain ⟨B, cb, rfl, -⟩ := id h.2.1
  have hone := bac_one (c := c) h.1.one h.2.1.one
  have HV := Lib.hid h
  have HF := Lib.hid hF
  have HM := Lib.hid fun W (hb : Below w.heap.size w W) => May_v (h.below hb) (hT.below hb)
  have i0 : (c.client : Int) ≤ 255 := by have := h.2.2.1; omega
  have i3 : (c.status : Int) ≤ 255 := by have := h.2.2.2.2.2.1; omega
  generalize hcs : bacCells c (.slice A c.data.length ca) (.slice B c.names.length cb) = cs at *
  have HCS := Lib.hid hcs
  have hinfo : (Tryd.prog.info? 31).map (·.size) = some cs.length := by rw [← hcs]; exact infoBack
  clear hcs h hF hT
  cases hm : mayB c
  · rw [hm] at HM
    have HMM := Lib.hid hm
    clear hm
    go_enter Tryd.func8, Tryd.ntmps8
    go_wp2_with (first
      | ((with_reducible show wpList _ _ _ _ _ w); refine wpList_boxS rfl 31 _ rfl cs rfl ?_; intro g1 w1 hk1 hb1 hg1; go_frame; have C1 := Lib.hid hk1; have B1 := Lib.hid hb1; have G1 := Lib.hid hg1; clear hk1 hb1 hg1)
      | ((with_reducible show wpList _ _ _ _ _ w1); refine wpList_loadS rfl 31 _ rfl g1 rfl cs C1.out _ Tryd.underlying31 rfl hinfo ?_; go_frame)
      | fail)
    refine (HM.out _ B1.out).mono ?_
    rintro e w2 ⟨rfl, hb⟩
    have B2 := Lib.hid (below_chain B1.out hb)
    clear hb
    go_wp2_with fail
    go_ret2
    exact .inl ⟨HMM.out, rfl, B2.out⟩
  obtain ⟨m1, m2, m3, m4⟩ := mayB_parts hm
  rw [hm] at HM
  have HMM := Lib.hid hm
  have HMP := Lib.hid (And.intro m2 (And.intro m3 m4))
  have HPD := Lib.hid (padN_lt c.data.length)
  clear hm m1 m2 m3 m4
  go_enter Tryd.func8, Tryd.ntmps8
  go_wp2_with (first
    | ((with_reducible show wpList _ _ _ _ _ w); refine wpList_boxS rfl 31 _ rfl cs rfl ?_; intro g1 w1 hk1 hb1 hg1; go_frame; have C1 := Lib.hid hk1; have B1 := Lib.hid hb1; have G1 := Lib.hid hg1; clear hk1 hb1 hg1)
    | ((with_reducible show wpList _ _ _ _ _ w1); refine wpList_loadS rfl 31 _ rfl g1 rfl cs C1.out _ Tryd.underlying31 rfl hinfo ?_; go_frame)
    | fail)
  refine (HM.out _ B1.out).mono ?_
  rintro e w2 ⟨rfl, hb⟩
  have C2 := Lib.hid (show Cs w2 g1 31 (bacCells c (.slice A c.data.length ca) (.slice B c.names.length cb)).toArray by rw [HCS.out]; exact C1.out.below hb C1.out.lt)
  have B2 := Lib.hid (below_chain B1.out hb)
  clear hb
  have K0 := Lib.hid (WrB.start B2.out)
  have C0 := Lib.hid (C2.out.below (below_newB w2 (.cells #[.slice none 0 0] 50)) C2.out.lt)
  obtain ⟨p0, p1, p2, p3, p4, p5, p6, p7, p8, p9, p10, p11, p12⟩ := C0.out.bac
  go_wp2_with fail
  clear p0 p1 p2 p3 p4 p5 p6 p7 p8 p9 p10 p11 p12
  refine (Number_w c.client (by have := HV.out.2.2.1; omega) K0.out.at' (by (try simp only [List.length_append, List.length_nil, beL_length, truthX_length, bytesX_length, attX_length]); (try have := HMP.out.1); (try have := HPD.out); omega)).mono ?_
  rintro e w4 hq
  obtain ⟨v1, hs⟩ := K0.out.laid hq
  have C1 := Lib.hid (C0.out.laid K0.out.at' hq (by decide) (by decide))
  obtain ⟨rfl, -⟩ := hq
  have K1 := Lib.hid hs
  clear hs K0 C0
  obtain ⟨p0, p1, p2, p3, p4, p5, p6, p7, p8, p9, p10, p11, p12⟩ := C1.out.bac
  go_wp2_with fail
  clear p0 p1 p2 p3 p4 p5 p6 p7 p8 p9 p10 p11 p12
  refine (Number_w c.inc HV.out.2.2.2.1 K1.out.at' (by (try simp only [List.length_append, List.length_nil, beL_length, truthX_length, bytesX_length, attX_length]); (try have := HMP.out.1); (try have := HPD.out); omega)).mono ?_
  rintro e w5 hq
  obtain ⟨v2, hs⟩ := K1.out.laid hq
  have C2 := Lib.hid (C1.out.laid K1.out.at' hq (by decide) (by decide))
  obtain ⟨rfl, -⟩ := hq
  have K2 := Lib.hid hs
  clear hs K1 C1
  obtain ⟨p0, p1, p2, p3, p4, p5, p6, p7, p8, p9, p10, p11, p12⟩ := C2.out.bac
  go_wp2_with fail
  clear p0 p1 p2 p3 p4 p5 p6 p7 p8 p9 p10 p11 p12
  refine (Great_w c.seq HV.out.2.2.2.2.1 K2.out.at' (by (try simp only [List.length_append, List.length_nil, beL_length, truthX_length, bytesX_length, attX_length]); (try have := HMP.out.1); (try have := HPD.out); omega)).mono ?_
  rintro e w6 hq
  obtain ⟨v3, hs⟩ := K2.out.laid hq
  have C3 := Lib.hid (C2.out.laid K2.out.at' hq (by decide) (by decide))
  obtain ⟨rfl, -⟩ := hq
  have K3 := Lib.hid hs
  clear hs K2 C2
  obtain ⟨p0, p1, p2, p3, p4, p5, p6, p7, p8, p9, p10, p11, p12⟩ := C3.out.bac
  go_wp2_with fail
  clear p0 p1 p2 p3 p4 p5 p6 p7 p8 p9 p10 p11 p12
  refine (Number_w c.status (by have := HV.out.2.2.2.2.2.1; omega) K3.out.at' (by (try simp only [List.length_append, List.length_nil, beL_length, truthX_length, bytesX_length, attX_length]); (try have := HMP.out.1); (try have := HPD.out); omega)).mono ?_
  rintro e w7 hq
  obtain ⟨v4, hs⟩ := K3.out.laid hq
  have C4 := Lib.hid (C3.out.laid K3.out.at' hq (by decide) (by decide))
  obtain ⟨rfl, -⟩ := hq
  have K4 := Lib.hid hs
  clear hs K3 C3
  obtain ⟨p0, p1, p2, p3, p4, p5, p6, p7, p8, p9, p10, p11, p12⟩ := C4.out.bac
  go_wp2_with fail
  clear p0 p1 p2 p3 p4 p5 p6 p7 p8 p9 p10 p11 p12
  refine (Number_w c.boot HV.out.2.2.2.2.2.2.2.2.2.2.2 K4.out.at' (by (try simp only [List.length_append, List.length_nil, beL_length, truthX_length, bytesX_length, attX_length]); (try have := HMP.out.1); (try have := HPD.out); omega)).mono ?_
  rintro e w8 hq
  obtain ⟨v5, hs⟩ := K4.out.laid hq
  have C5 := Lib.hid (C4.out.laid K4.out.at' hq (by decide) (by decide))
  obtain ⟨rfl, -⟩ := hq
  have K5 := Lib.hid hs
  clear hs K4 C4
  obtain ⟨p0, p1, p2, p3, p4, p5, p6, p7, p8, p9, p10, p11, p12⟩ := C5.out.bac
  have hat := agg_att C5.out
  go_wp2_with (first
    | ((with_reducible show wpList _ _ _ _ _ w8); refine wpList_load_agg rfl 27 _ rfl g1 4 rfl (attCells c) hat _ Tryd.underlying27 rfl infoAttr ?_; go_frame)
    | fail)
  clear p0 p1 p2 p3 p4 p5 p6 p7 p8 p9 p10 p11 p12
  refine (putAttr_v (c := c) HV.out.2.2 K5.out.at' (by (try simp only [List.length_append, List.length_nil, beL_length, truthX_length, bytesX_length, attX_length]); (try have := HMP.out.1); (try have := HPD.out); omega)).mono ?_
  rintro e w9 hq
  obtain ⟨v6, hs⟩ := K5.out.laid hq
  have C6 := Lib.hid (C5.out.laid K5.out.at' hq (by decide) (by decide))
  obtain ⟨rfl, -⟩ := hq
  have K6 := Lib.hid hs
  clear hs K5 C5
  obtain ⟨p0, p1, p2, p3, p4, p5, p6, p7, p8, p9, p10, p11, p12⟩ := C6.out.bac
  go_wp2_with fail
  clear p0 p1 p2 p3 p4 p5 p6 p7 p8 p9 p10 p11 p12
  refine (Great_w c.before HV.out.2.2.2.2.2.2.2.2.2.2.1 K6.out.at' (by (try simp only [List.length_append, List.length_nil, beL_length, truthX_length, bytesX_length, attX_length]); (try have := HMP.out.1); (try have := HPD.out); omega)).mono ?_
  rintro e w10 hq
  obtain ⟨v7, hs⟩ := K6.out.laid hq
  have C7 := Lib.hid (C6.out.laid K6.out.at' hq (by decide) (by decide))
  obtain ⟨rfl, -⟩ := hq
  have K7 := Lib.hid hs
  clear hs K6 C6
  obtain ⟨p0, p1, p2, p3, p4, p5, p6, p7, p8, p9, p10, p11, p12⟩ := C7.out.bac
  go_wp2_with fail
  clear p0 p1 p2 p3 p4 p5 p6 p7 p8 p9 p10 p11 p12
  refine (Bytes_w K7.out.at' (HV.out.1.below K7.out.bel) (fun k hk hh => by have h1 := HF.out k hk; have h2 := K7.out.layF k hh; omega) (by have := HMP.out.1; omega) (by (try simp only [List.length_append, List.length_nil, beL_length, truthX_length, bytesX_length, attX_length]); (try have := HMP.out.1); (try have := HPD.out); omega)).mono ?_
  rintro e w11 hq
  obtain ⟨v8, hs⟩ := K7.out.laid hq
  have C8 := Lib.hid (C7.out.laid K7.out.at' hq (by decide) (by decide))
  obtain ⟨rfl, -⟩ := hq
  have K8 := Lib.hid hs
  clear hs K7 C7
  obtain ⟨p0, p1, p2, p3, p4, p5, p6, p7, p8, p9, p10, p11, p12⟩ := C8.out.bac
  go_wp2_with fail
  clear p0 p1 p2 p3 p4 p5 p6 p7 p8 p9 p10 p11 p12
  refine (putNames_v K8.out.at' (HV.out.2.1.below K8.out.bel) (fun k hk hh => by have h1 := HF.out k hk; have h2 := K8.out.layF k hh; omega) HMP.out.2.1 HMP.out.2.2 (by (try simp only [List.length_append, List.length_nil, beL_length, truthX_length, bytesX_length, attX_length]); (try have := HMP.out.1); (try have := HPD.out); omega)).mono ?_
  rintro e w12 hq
  obtain ⟨v9, hs⟩ := K8.out.laid hq
  have C9 := Lib.hid (C8.out.laid K8.out.at' hq (by decide) (by decide))
  obtain ⟨rfl, -⟩ := hq
  have K9 := Lib.hid hs
  clear hs K8 C8
  have k9 : WrB w w12 w2.heap.size v9 (putB c) := by
    have h9 := K9.out
    rw [putB_is]
    rwa [List.nil_append] at h9
  have hps := putB_small HMM.out
  generalize hpl : putB c = pl at *
  have HPL := Lib.hid hpl
  clear hpl
  have K10 := Lib.hid k9
  clear k9 K9
  go_wp2_with fail
  refine (Bare_w K10.out.at' (by omega)).mono ?_
  rintro e w13 ⟨vb, rfl, hv, hty, hown, hb⟩
  have HV13 := Lib.hid hv
  have HTY := Lib.hid hty
  have HOW := Lib.hid hown
  have HB := Lib.hid hb
  obtain ⟨A13, c13, rfl, -⟩ := id hv
  clear hv hty hown hb
  go_wp2_with fail
  go_ret2
  have hsz := K10.out.bel.size
  exact .inr ⟨HMM.out, _, rfl, by rw [HPL.out]; exact HV13.out.mono fun k _ hk => Nat.le_trans hsz hk, HTY.out, fun k hk => Nat.le_trans hsz (HOW.out k hk), below_chain K10.out.bel HB.out⟩

end Go.Proofs.YtboalmmpcfiicaaDoor
