/- A reply told by a reader: what is told of a file, all up to the names, the names. -/
import Derived.Test.YtboalmmpcfiicaaDoorBac0
import Derived.Test.YtboalmmpcfiicaaDoorXd4
namespace Go.Proofs.YtboalmmpcfiicaaDoor
open Go.RowKit Go.Shelf
set_option linter.unusedVariables false
set_option maxRecDepth 100000
set_option linter.unusedSimpArgs false

theorem infoU8 : (Tryd.prog.info? 5).map (·.size) = some 1 := by kernel_rfl
theorem infoU32 : (Tryd.prog.info? 22).map (·.size) = some 1 := by kernel_rfl
theorem infoU64 : (Tryd.prog.info? 23).map (·.size) = some 1 := by kernel_rfl
theorem infoBool : (Tryd.prog.info? 4).map (·.size) = some 1 := by kernel_rfl
theorem infoU8s : (Tryd.prog.info? 28).map (·.size) = some 1 := by kernel_rfl
theorem infoStrs : (Tryd.prog.info? 29).map (·.size) = some 1 := by kernel_rfl
theorem num4_e (s : RS) : ∃ (n : Nat) (s' : RS), numR s 4 = ((n : Int), s') ∧ n < 4294967296 ∧ s'.all = s.all := by
  have h := numR_four s
  exact ⟨(numR s 4).1.toNat, (numR s 4).2, by rw [Int.toNat_of_nonneg h.1], by omega, numR_all s 4⟩
theorem num8_e (s : RS) : ∃ (n : Nat) (s' : RS), numR s 8 = ((n : Int), s') ∧ n < 18446744073709551616 ∧ s'.all = s.all := by
  have h := numR_bd s 8 (by decide)
  exact ⟨(numR s 8).1.toNat, (numR s 8).2, by rw [Int.toNat_of_nonneg h.1], by omega, numR_all s 8⟩
theorem truth_all (s : RS) : (truthR s).2.all = s.all := by
  unfold truthR
  dsimp only
  split
  · exact numR_all s 4
  · exact numR_all s 4
theorem truth_e (s : RS) : ∃ (b : Bool) (s' : RS), truthR s = (b, s') ∧ s'.all = s.all := ⟨(truthR s).1, (truthR s).2, rfl, truth_all s⟩
theorem bytes_all (s : RS) (M : Int) : (bytesR s M).2.all = s.all := by
  rw [bytesR_is]
  unfold bytesN
  have h := numR_all s 4
  split
  · exact h
  · split
    · exact h
    · split <;> exact h
theorem bytes_e (s : RS) (M : Int) : ∃ (l : List UInt8) (s' : RS), bytesR s M = (l, s') ∧ s'.all = s.all := ⟨(bytesR s M).1, (bytesR s M).2, rfl, bytes_all s M⟩
set_option maxHeartbeats 4000000 in
theorem getSmall_v {w : World} {rb : Nat} {s : RS} {F : Nat → Prop} (h : RdAt w rb s F) : Calls Tryd.prog 55 #[.pointer (some ⟨rb, 0, none⟩)] w fun e w' => Told rb (numR s 4).2 F (.int .u8 ((min (numR s 4).1.toNat 255 : Nat) : Int)) w e w' := by
  obtain ⟨n, s', he, hb, -⟩ := num4_e s
  have hn := Number_r h
  rw [he] at hn ⊢
  dsimp only at hn ⊢
  rw [Int.toNat_natCast]
  have hmin : ((min n 255 : Nat) : Int) = min (n : Int) 255 := by omega
  rw [hmin]
  have hmin8 : min (n : Int) 255 ≤ 255 := by omega
  have hmin0 : 0 ≤ min (n : Int) 255 := by omega
  have hnb : (n : Int) ≤ 4294967295 := by omega
  have HN := Lib.hid hn
  clear hn he hb h hmin
  go_enter Tryd.func55, Tryd.ntmps55
  go_wp2_with fail
  refine HN.out.mono ?_
  rintro e w1 ⟨rfl, h1, h2⟩
  have H1 := Lib.hid h1
  have H2 := Lib.hid h2
  clear h1 h2
  go_wp2_with fail
  go_ret
  exact ⟨rfl, H1.out, H2.out⟩
/-- a reader beside a variable that is being filled, since w0 -/
structure GetG (t : TypeId) (w0 : World) (rb g : Nat) (F : Nat → Prop) (s : RS) (cs : Array Value) (w : World) : Prop where
  rd : RdAt w rb s F
  cs : Cs w g t cs
  tn : Turn w0 w (· = rb)
  new : w0.heap.size ≤ g
  old : rb < w0.heap.size
  fs : ∀ k, F k → k < w0.heap.size
theorem GetG.told {t : TypeId} {w0 w w' : World} {rb g : Nat} {F : Nat → Prop} {s s' : RS} {cs : Array Value} {v : Value} {e : Ending} (h : GetG t w0 rb g F s cs w) (k : Told rb s' F v w e w') : GetG t w0 rb g F s' cs w' :=
  ⟨k.2.1, h.cs.turn k.2.2 (by have := h.new; have := h.old; omega), h.tn.trans k.2.2 fun _ _ h => h, h.new, h.old, h.fs⟩
theorem GetG.put {t : TypeId} {w0 w w' : World} {rb g : Nat} {F : Nat → Prop} {s : RS} {cs cs' : Array Value} (h : GetG t w0 rb g F s cs w) (hc : Cs w' g t cs') (ht : Turn w w' (· = g)) : GetG t w0 rb g F s cs' w' :=
  ⟨h.rd.turn ht (by have := h.new; have := h.old; omega) (fun k hk e => by have := h.fs k hk; have := h.new; omega), hc, h.tn.trans ht fun k hk e => by have := h.new; omega, h.new, h.old, h.fs⟩
theorem GetG.below {t : TypeId} {w0 w w' : World} {rb g : Nat} {F : Nat → Prop} {s : RS} {cs : Array Value} (h : GetG t w0 rb g F s cs w) (hb : Below w.heap.size w w') : GetG t w0 rb g F s cs w' :=
  ⟨h.rd.below hb, h.cs.below hb h.cs.lt, h.tn.trans (Turn.of_below hb fun _ => False) fun _ _ h => h.elim, h.new, h.old, h.fs⟩
/-- what is told of a file -/
def attR (s : RS) : BackX × RS :=
  let a := numR s 4
  let b := numR a.2 4
  let d := truthR b.2
  let z := numR d.2 4
  let y := numR z.2 8
  ({ bacZero with ino := a.1.toNat, gen := b.1.toNat, dir := d.1, size := z.1.toNat, change := y.1.toNat }, y.2)
theorem att_lt (c : BackX) {i : Nat} (h : i < 5) : i < (attCells c).toArray.size := h
theorem bac_lt (c : BackX) (v u : Value) {i : Nat} (h : i < 13) : i < (bacCells c v u).toArray.size := h
theorem over_lt (c a : BackX) (v u : Value) : 4 + (attCells a).length ≤ (bacCells c v u).toArray.size := by show 4 + 5 ≤ 13; decide
theorem att_end {fn : Func} {K : Ending → World → Prop} {tmps : Array Value} {w : World} {g : Nat} {cs : List Value} (h : fn.results = #[.cell 2 27]) (hl : cs.length = 5) (hc : Cs w g 27 cs.toArray) (hp : tmps.getD 2 undef = .pointer (some ⟨g, 0, none⟩))
    (hK : K (.returned (.agg cs.toArray)) w) : bodyPost Tryd.prog fn K Exit.ret { tmps := tmps, defers := [] } w :=
  bodyPost_ret (results_agg (P := Tryd.prog) (p := 2) (ty := 27) h tmps w g 0 cs hp (At.whole hc) _ Tryd.underlying27 rfl (by rw [hl]; exact infoAttr)) rfl hK
theorem bac_end {fn : Func} {K : Ending → World → Prop} {tmps : Array Value} {w : World} {g : Nat} {cs : List Value} (h : fn.results = #[.cell 2 31]) (hl : cs.length = 13) (hc : Cs w g 31 cs.toArray) (hp : tmps.getD 2 undef = .pointer (some ⟨g, 0, none⟩))
    (hK : K (.returned (.agg cs.toArray)) w) : bodyPost Tryd.prog fn K Exit.ret { tmps := tmps, defers := [] } w :=
  bodyPost_ret (results_agg (P := Tryd.prog) (p := 2) (ty := 31) h tmps w g 0 cs hp (At.whole hc) _ Tryd.underlying31 rfl (by rw [hl]; exact infoBack)) rfl hK
theorem bac_end2 {fn : Func} {K : Ending → World → Prop} {tmps : Array Value} {w : World} {g : Nat} {cs : List Value} {x : Value} (h : fn.results = #[.cell 2 31, .tmp 3]) (hl : cs.length = 13) (hc : Cs w g 31 cs.toArray) (hp : tmps.getD 2 undef = .pointer (some ⟨g, 0, none⟩)) (hx : tmps.getD 3 undef = x)
    (hK : K (.returned (.tuple #[.agg cs.toArray, x])) w) : bodyPost Tryd.prog fn K Exit.ret { tmps := tmps, defers := [] } w :=
  bodyPost_ret (by rw [results_agg_tmp (P := Tryd.prog) (p := 2) (u := 3) (ty := 31) h tmps w g 0 cs hp (At.whole hc) _ Tryd.underlying31 rfl (by rw [hl]; exact infoBack), hx]) rfl hK
set_option maxHeartbeats 8000000 in
theorem getAttr_v {w : World} {rb : Nat} {s0 : RS} {F : Nat → Prop} (h : RdAt w rb s0 F) (hF : ∀ k, F k → k < w.heap.size) :
    Calls Tryd.prog 57 #[.pointer (some ⟨rb, 0, none⟩)] w fun e w' => Told rb (attR s0).2 F (.agg (attCells (attR s0).1).toArray) w e w' := by
  have HH := Lib.hid h
  have HF := Lib.hid hF
  clear h hF
  go_enter Tryd.func57, Tryd.ntmps57
  go_wp2_with (first
    | ((with_reducible show wpList _ _ _ _ _ w); refine wpList_allocS rfl 27 rfl (attCells bacZero) attZero ?_; intro g1 w1 hk1 hb1 hg1; go_frame; have C1 := Lib.hid hk1; have B1 := Lib.hid hb1; have G1 := Lib.hid hg1; clear hk1 hb1 hg1)
    | ((with_reducible show wpList _ _ _ _ _ w1); refine wpList_allocS rfl 27 rfl (attCells bacZero) attZero ?_; intro g2 w2 hk2 hb2 hg2; go_frame; have R0x := Lib.hid (C1.out.below hb2 C1.out.lt); have NE := Lib.hid (show g1 ≠ g2 ∧ rb < g1 ∧ rb < g2 by have := C1.out.lt; have := HH.out.lt; have := G1.out; omega); have K0 := Lib.hid (show GetG 27 w rb g2 F s0 (attCells bacZero).toArray w2 from ⟨(HH.out.below B1.out).below hb2, hk2, Turn.of_below (below_chain B1.out hb2) _, Nat.le_trans B1.out.size hg2, HH.out.lt, HF.out⟩); clear hk2 hb2 hg2)
    | fail)
  obtain ⟨n1, s1, he1, hb1, ha1⟩ := num4_e s0
  have hn := Number_r K0.out.rd
  rw [he1] at hn
  dsimp only at hn
  have E1 := Lib.hid he1
  have A1 := Lib.hid ha1
  have B1 := Lib.hid hb1
  clear he1 ha1 hb1
  refine hn.mono ?_
  clear hn
  rintro e w12 hq
  have D1 := Lib.hid (K0.out.told hq)
  have R1 := Lib.hid (R0x.out.other hq.2.2 (by have := NE.out; omega))
  obtain ⟨rfl, -⟩ := hq
  clear K0 R0x
  go_wp2_with (first
    | ((with_reducible show wpList _ _ _ _ _ w12); refine wpList_store1 rfl 22 _ _ rfl g2 0 rfl (.int .u32 (n1 : Int)) rfl rfl infoU32 27 _ D1.out.cs (att_lt _ (by decide)) ?_; intro w13 hk ht; go_frame; have K1 := Lib.hid (D1.out.put (cs' := (attCells { bacZero with ino := n1 }).toArray) hk ht); have R1x := Lib.hid (R1.out.turn ht (by have := NE.out; omega)); clear hk ht D1 R1)
    | fail)
  obtain ⟨n2, s2, he2, hb2, ha2⟩ := num4_e s1
  have hn := Number_r K1.out.rd
  rw [he2] at hn
  dsimp only at hn
  have E2 := Lib.hid he2
  have A2 := Lib.hid ha2
  have B2 := Lib.hid hb2
  clear he2 ha2 hb2
  refine hn.mono ?_
  clear hn
  rintro e w14 hq
  have D2 := Lib.hid (K1.out.told hq)
  have R2 := Lib.hid (R1x.out.other hq.2.2 (by have := NE.out; omega))
  obtain ⟨rfl, -⟩ := hq
  clear K1 R1x
  go_wp2_with (first
    | ((with_reducible show wpList _ _ _ _ _ w14); refine wpList_store1 rfl 22 _ _ rfl g2 1 rfl (.int .u32 (n2 : Int)) rfl rfl infoU32 27 _ D2.out.cs (att_lt _ (by decide)) ?_; intro w15 hk ht; go_frame; have K2 := Lib.hid (D2.out.put (cs' := (attCells { bacZero with ino := n1, gen := n2 }).toArray) hk ht); have R2x := Lib.hid (R2.out.turn ht (by have := NE.out; omega)); clear hk ht D2 R2)
    | fail)
  obtain ⟨n3, s3, he3, ha3⟩ := truth_e s2
  have hn := Truth_r K2.out.rd
  rw [he3] at hn
  dsimp only at hn
  have E3 := Lib.hid he3
  have A3 := Lib.hid ha3
  clear he3 ha3
  refine hn.mono ?_
  clear hn
  rintro e w16 hq
  have D3 := Lib.hid (K2.out.told hq)
  have R3 := Lib.hid (R2x.out.other hq.2.2 (by have := NE.out; omega))
  obtain ⟨rfl, -⟩ := hq
  clear K2 R2x
  go_wp2_with (first
    | ((with_reducible show wpList _ _ _ _ _ w16); refine wpList_store1 rfl 4 _ _ rfl g2 2 rfl (.bool n3) rfl rfl infoBool 27 _ D3.out.cs (att_lt _ (by decide)) ?_; intro w17 hk ht; go_frame; have K3 := Lib.hid (D3.out.put (cs' := (attCells { bacZero with ino := n1, gen := n2, dir := n3 }).toArray) hk ht); have R3x := Lib.hid (R3.out.turn ht (by have := NE.out; omega)); clear hk ht D3 R3)
    | fail)
  obtain ⟨n4, s4, he4, hb4, ha4⟩ := num4_e s3
  have hn := Number_r K3.out.rd
  rw [he4] at hn
  dsimp only at hn
  have E4 := Lib.hid he4
  have A4 := Lib.hid ha4
  have B4 := Lib.hid hb4
  clear he4 ha4 hb4
  refine hn.mono ?_
  clear hn
  rintro e w18 hq
  have D4 := Lib.hid (K3.out.told hq)
  have R4 := Lib.hid (R3x.out.other hq.2.2 (by have := NE.out; omega))
  obtain ⟨rfl, -⟩ := hq
  clear K3 R3x
  go_wp2_with (first
    | ((with_reducible show wpList _ _ _ _ _ w18); refine wpList_store1 rfl 22 _ _ rfl g2 3 rfl (.int .u32 (n4 : Int)) rfl rfl infoU32 27 _ D4.out.cs (att_lt _ (by decide)) ?_; intro w19 hk ht; go_frame; have K4 := Lib.hid (D4.out.put (cs' := (attCells { bacZero with ino := n1, gen := n2, dir := n3, size := n4 }).toArray) hk ht); have R4x := Lib.hid (R4.out.turn ht (by have := NE.out; omega)); clear hk ht D4 R4)
    | fail)
  obtain ⟨n5, s5, he5, hb5, ha5⟩ := num8_e s4
  have hn := Great_r K4.out.rd
  rw [he5] at hn
  dsimp only at hn
  have E5 := Lib.hid he5
  have A5 := Lib.hid ha5
  have B5 := Lib.hid hb5
  clear he5 ha5 hb5
  refine hn.mono ?_
  clear hn
  rintro e w20 hq
  have D5 := Lib.hid (K4.out.told hq)
  have R5 := Lib.hid (R4x.out.other hq.2.2 (by have := NE.out; omega))
  obtain ⟨rfl, -⟩ := hq
  clear K4 R4x
  go_wp2_with (first
    | ((with_reducible show wpList _ _ _ _ _ w20); refine wpList_store1 rfl 23 _ _ rfl g2 4 rfl (.int .u64 (n5 : Int)) rfl rfl infoU64 27 _ D5.out.cs (att_lt _ (by decide)) ?_; intro w21 hk ht; go_frame; have K5 := Lib.hid (D5.out.put (cs' := (attCells { bacZero with ino := n1, gen := n2, dir := n3, size := n4, change := n5 }).toArray) hk ht); have R5x := Lib.hid (R5.out.turn ht (by have := NE.out; omega)); clear hk ht D5 R5)
    | ((with_reducible show wpList _ _ _ _ _ w21); refine wpList_loadS rfl 27 _ rfl g2 rfl (attCells { bacZero with ino := n1, gen := n2, dir := n3, size := n4, change := n5 }) K5.out.cs _ Tryd.underlying27 rfl infoAttr ?_; go_frame)
    | ((with_reducible show wpList _ _ _ _ _ w21); refine wpList_storeS rfl 27 _ _ rfl g1 rfl (attCells { bacZero with ino := n1, gen := n2, dir := n3, size := n4, change := n5 }) (attCells bacZero) rfl R5x.out rfl att_one infoAttr ?_; intro w30 hk ht; go_frame; have C9 := Lib.hid hk; have T9 := Lib.hid ht; clear hk ht)
    | fail)
  have ef : attR s0 = ({ bacZero with ino := n1, gen := n2, dir := n3, size := n4, change := n5 }, s5) := by
    unfold attR
    simp only [E1.out, E2.out, E3.out, E4.out, E5.out, Int.toNat_natCast]
  rw [ef]
  exact att_end (cs := attCells { bacZero with ino := n1, gen := n2, dir := n3, size := n4, change := n5 }) rfl rfl C9.out rfl ⟨rfl, K5.out.rd.turn T9.out (by have := NE.out; omega) (fun k hk e => by have := HF.out k hk; have := G1.out; omega), K5.out.tn.trans T9.out fun k hk e => by have := G1.out; omega⟩
/-- all up to the names -/
def headG (s : RS) : BackX × RS :=
  let a := numR s 4
  let b := numR a.2 4
  let c := numR b.2 8
  let d := numR c.2 4
  let e := numR d.2 4
  let f := attR e.2
  let g := numR f.2 8
  let h := bytesR g.2 4096
  (⟨min a.1.toNat 255, b.1.toNat, c.1.toNat, min d.1.toNat 255, f.1.ino, f.1.gen, f.1.dir, f.1.size, f.1.change, g.1.toNat, h.1, [], e.1.toNat⟩, h.2)
theorem att_all (s : RS) : (attR s).2.all = s.all := by
  unfold attR
  simp only [numR_all, truth_all]
theorem att_e (s : RS) : ∃ (a : BackX) (s' : RS), attR s = (a, s') ∧ s'.all = s.all := ⟨(attR s).1, (attR s).2, rfl, att_all s⟩
theorem over_att (v u : Value) (c a : BackX) : over (bacCells c v u).toArray 4 (attCells a) = (bacCells { c with ino := a.ino, gen := a.gen, dir := a.dir, size := a.size, change := a.change } v u).toArray := by rfl
/-- what hands back a reply but for its names -/
def ToldH (rb : Nat) (s : RS) (F : Nat → Prop) (c : BackX) (w : World) (e : Ending) (w' : World) : Prop :=
  ∃ v, e = .returned (.agg (bacCells c v (.slice none 0 0)).toArray) ∧ BsV w' (w.heap.size ≤ ·) v c.data ∧ TyB w' v ∧ (∀ k, v.ownBlock = some k → w.heap.size ≤ k) ∧ RdAt w' rb s F ∧ Turn w w' (· = rb)
set_option maxHeartbeats 16000000 in
theorem getToNames_v {w : World} {rb : Nat} {s0 : RS} {F : Nat → Prop} (h : RdAt w rb s0 F) (hF : ∀ k, F k → k < w.heap.size) (hlen : s0.all.length ≤ 140737488355328) :
    Calls Tryd.prog 34 #[.pointer (some ⟨rb, 0, none⟩)] w fun e w' => ToldH rb (headG s0).2 F (headG s0).1 w e w' := by
  have HH := Lib.hid h
  have HF := Lib.hid hF
  have HLEN := Lib.hid hlen
  clear h hF hlen
  go_enter Tryd.func34, Tryd.ntmps34
  go_wp2_with (first
    | ((with_reducible show wpList _ _ _ _ _ w); refine wpList_allocS rfl 31 rfl (bacCells bacZero (.slice none 0 0) (.slice none 0 0)) backZero ?_; intro g1 w1 hk1 hb1 hg1; go_frame; have C1 := Lib.hid hk1; have B1 := Lib.hid hb1; have G1 := Lib.hid hg1; clear hk1 hb1 hg1)
    | ((with_reducible show wpList _ _ _ _ _ w1); refine wpList_allocS rfl 31 rfl (bacCells bacZero (.slice none 0 0) (.slice none 0 0)) backZero ?_; intro g2 w2 hk2 hb2 hg2; go_frame; have R0x := Lib.hid (C1.out.below hb2 C1.out.lt); have NE := Lib.hid (show g1 ≠ g2 ∧ rb < g1 ∧ rb < g2 by have := C1.out.lt; have := HH.out.lt; have := G1.out; omega); have K0 := Lib.hid (show GetG 31 w rb g2 F s0 (bacCells bacZero (.slice none 0 0) (.slice none 0 0)).toArray w2 from ⟨(HH.out.below B1.out).below hb2, hk2, Turn.of_below (below_chain B1.out hb2) _, Nat.le_trans B1.out.size hg2, HH.out.lt, HF.out⟩); clear hk2 hb2 hg2)
    | fail)
  obtain ⟨n1, s1, he1, hb1, ha1⟩ := num4_e s0
  have hn := getSmall_v K0.out.rd
  rw [he1] at hn
  dsimp only at hn
  rw [Int.toNat_natCast] at hn
  have E1 := Lib.hid he1
  have A1 := Lib.hid ha1
  have B1 := Lib.hid hb1
  clear he1 ha1 hb1
  refine hn.mono ?_
  clear hn
  rintro e w12 hq
  have D1 := Lib.hid (K0.out.told hq)
  have R1 := Lib.hid (R0x.out.other hq.2.2 (by have := NE.out; omega))
  obtain ⟨rfl, -⟩ := hq
  clear K0 R0x
  go_wp2_with (first
    | ((with_reducible show wpList _ _ _ _ _ w12); refine wpList_store1 rfl 5 _ _ rfl g2 0 rfl (.int .u8 ((min n1 255 : Nat) : Int)) rfl rfl infoU8 31 _ D1.out.cs (bac_lt _ _ _ (by decide)) ?_; intro w13 hk ht; go_frame; have K1 := Lib.hid (D1.out.put (cs' := (bacCells { bacZero with client := (min n1 255) } (.slice none 0 0) (.slice none 0 0)).toArray) hk ht); have R1x := Lib.hid (R1.out.turn ht (by have := NE.out; omega)); clear hk ht D1 R1)
    | fail)
  obtain ⟨n2, s2, he2, hb2, ha2⟩ := num4_e s1
  have hn := Number_r K1.out.rd
  rw [he2] at hn
  dsimp only at hn
  have E2 := Lib.hid he2
  have A2 := Lib.hid ha2
  have B2 := Lib.hid hb2
  clear he2 ha2 hb2
  refine hn.mono ?_
  clear hn
  rintro e w14 hq
  have D2 := Lib.hid (K1.out.told hq)
  have R2 := Lib.hid (R1x.out.other hq.2.2 (by have := NE.out; omega))
  obtain ⟨rfl, -⟩ := hq
  clear K1 R1x
  go_wp2_with (first
    | ((with_reducible show wpList _ _ _ _ _ w14); refine wpList_store1 rfl 22 _ _ rfl g2 1 rfl (.int .u32 (n2 : Int)) rfl rfl infoU32 31 _ D2.out.cs (bac_lt _ _ _ (by decide)) ?_; intro w15 hk ht; go_frame; have K2 := Lib.hid (D2.out.put (cs' := (bacCells { bacZero with client := (min n1 255), inc := n2 } (.slice none 0 0) (.slice none 0 0)).toArray) hk ht); have R2x := Lib.hid (R2.out.turn ht (by have := NE.out; omega)); clear hk ht D2 R2)
    | fail)
  obtain ⟨n3, s3, he3, hb3, ha3⟩ := num8_e s2
  have hn := Great_r K2.out.rd
  rw [he3] at hn
  dsimp only at hn
  have E3 := Lib.hid he3
  have A3 := Lib.hid ha3
  have B3 := Lib.hid hb3
  clear he3 ha3 hb3
  refine hn.mono ?_
  clear hn
  rintro e w16 hq
  have D3 := Lib.hid (K2.out.told hq)
  have R3 := Lib.hid (R2x.out.other hq.2.2 (by have := NE.out; omega))
  obtain ⟨rfl, -⟩ := hq
  clear K2 R2x
  go_wp2_with (first
    | ((with_reducible show wpList _ _ _ _ _ w16); refine wpList_store1 rfl 23 _ _ rfl g2 2 rfl (.int .u64 (n3 : Int)) rfl rfl infoU64 31 _ D3.out.cs (bac_lt _ _ _ (by decide)) ?_; intro w17 hk ht; go_frame; have K3 := Lib.hid (D3.out.put (cs' := (bacCells { bacZero with client := (min n1 255), inc := n2, seq := n3 } (.slice none 0 0) (.slice none 0 0)).toArray) hk ht); have R3x := Lib.hid (R3.out.turn ht (by have := NE.out; omega)); clear hk ht D3 R3)
    | fail)
  obtain ⟨n4, s4, he4, hb4, ha4⟩ := num4_e s3
  have hn := getSmall_v K3.out.rd
  rw [he4] at hn
  dsimp only at hn
  rw [Int.toNat_natCast] at hn
  have E4 := Lib.hid he4
  have A4 := Lib.hid ha4
  have B4 := Lib.hid hb4
  clear he4 ha4 hb4
  refine hn.mono ?_
  clear hn
  rintro e w18 hq
  have D4 := Lib.hid (K3.out.told hq)
  have R4 := Lib.hid (R3x.out.other hq.2.2 (by have := NE.out; omega))
  obtain ⟨rfl, -⟩ := hq
  clear K3 R3x
  go_wp2_with (first
    | ((with_reducible show wpList _ _ _ _ _ w18); refine wpList_store1 rfl 5 _ _ rfl g2 3 rfl (.int .u8 ((min n4 255 : Nat) : Int)) rfl rfl infoU8 31 _ D4.out.cs (bac_lt _ _ _ (by decide)) ?_; intro w19 hk ht; go_frame; have K4 := Lib.hid (D4.out.put (cs' := (bacCells { bacZero with client := (min n1 255), inc := n2, seq := n3, status := (min n4 255) } (.slice none 0 0) (.slice none 0 0)).toArray) hk ht); have R4x := Lib.hid (R4.out.turn ht (by have := NE.out; omega)); clear hk ht D4 R4)
    | fail)
  obtain ⟨n5, s5, he5, hb5, ha5⟩ := num4_e s4
  have hn := Number_r K4.out.rd
  rw [he5] at hn
  dsimp only at hn
  have E5 := Lib.hid he5
  have A5 := Lib.hid ha5
  have B5 := Lib.hid hb5
  clear he5 ha5 hb5
  refine hn.mono ?_
  clear hn
  rintro e w20 hq
  have D5 := Lib.hid (K4.out.told hq)
  have R5 := Lib.hid (R4x.out.other hq.2.2 (by have := NE.out; omega))
  obtain ⟨rfl, -⟩ := hq
  clear K4 R4x
  go_wp2_with (first
    | ((with_reducible show wpList _ _ _ _ _ w20); refine wpList_store1 rfl 22 _ _ rfl g2 12 rfl (.int .u32 (n5 : Int)) rfl rfl infoU32 31 _ D5.out.cs (bac_lt _ _ _ (by decide)) ?_; intro w21 hk ht; go_frame; have K5 := Lib.hid (D5.out.put (cs' := (bacCells { bacZero with client := (min n1 255), inc := n2, seq := n3, status := (min n4 255), boot := n5 } (.slice none 0 0) (.slice none 0 0)).toArray) hk ht); have R5x := Lib.hid (R5.out.turn ht (by have := NE.out; omega)); clear hk ht D5 R5)
    | fail)
  obtain ⟨a6, s6, he6, ha6⟩ := att_e s5
  have hn := getAttr_v K5.out.rd (fun k hk => Nat.lt_of_lt_of_le (HF.out k hk) K5.out.tn.size)
  rw [he6] at hn
  dsimp only at hn
  have E6 := Lib.hid he6
  have A6 := Lib.hid ha6
  clear he6 ha6
  refine hn.mono ?_
  clear hn
  rintro e w22 hq
  have D6 := Lib.hid (K5.out.told hq)
  have R6 := Lib.hid (R5x.out.other hq.2.2 (by have := NE.out; omega))
  obtain ⟨rfl, -⟩ := hq
  clear K5 R5x
  go_wp2_with (first
    | ((with_reducible show wpList _ _ _ _ _ w22); refine wpList_plain rfl fun K hK => wp_storeS 27 _ _ rfl g2 4 rfl (attCells a6) rfl 31 _ D6.out.cs (over_lt _ _ _ _) att_one infoAttr ?_; intro w23 hk ht; refine hK _ _ ?_; go_frame; have K6 := Lib.hid (D6.out.put (cs' := (bacCells { bacZero with client := (min n1 255), inc := n2, seq := n3, status := (min n4 255), boot := n5, ino := a6.ino, gen := a6.gen, dir := a6.dir, size := a6.size, change := a6.change } (.slice none 0 0) (.slice none 0 0)).toArray) (by rw [over_att] at hk; exact hk) ht); have R6x := Lib.hid (R6.out.turn ht (by have := NE.out; omega)); clear hk ht D6 R6)
    | fail)
  obtain ⟨n7, s7, he7, hb7, ha7⟩ := num8_e s6
  have hn := Great_r K6.out.rd
  rw [he7] at hn
  dsimp only at hn
  have E7 := Lib.hid he7
  have A7 := Lib.hid ha7
  have B7 := Lib.hid hb7
  clear he7 ha7 hb7
  refine hn.mono ?_
  clear hn
  rintro e w24 hq
  have D7 := Lib.hid (K6.out.told hq)
  have R7 := Lib.hid (R6x.out.other hq.2.2 (by have := NE.out; omega))
  obtain ⟨rfl, -⟩ := hq
  clear K6 R6x
  go_wp2_with (first
    | ((with_reducible show wpList _ _ _ _ _ w24); refine wpList_store1 rfl 23 _ _ rfl g2 9 rfl (.int .u64 (n7 : Int)) rfl rfl infoU64 31 _ D7.out.cs (bac_lt _ _ _ (by decide)) ?_; intro w25 hk ht; go_frame; have K7 := Lib.hid (D7.out.put (cs' := (bacCells { bacZero with client := (min n1 255), inc := n2, seq := n3, status := (min n4 255), boot := n5, ino := a6.ino, gen := a6.gen, dir := a6.dir, size := a6.size, change := a6.change, before := n7 } (.slice none 0 0) (.slice none 0 0)).toArray) hk ht); have R7x := Lib.hid (R7.out.turn ht (by have := NE.out; omega)); clear hk ht D7 R7)
    | fail)
  obtain ⟨l8, s8, he8, ha8⟩ := bytes_e s7 4096
  have hn := Bytes_r 4096 (by decide) (by decide) (by rw [A7.out, A6.out, A5.out, A4.out, A3.out, A2.out, A1.out]; exact HLEN.out) K7.out.rd
  rw [he8] at hn
  dsimp only at hn
  have E8 := Lib.hid he8
  have A8 := Lib.hid ha8
  clear he8 ha8
  refine hn.mono ?_
  clear hn
  rintro e w26 ⟨v8, rfl, hv8, hty8, hown8, hrd8, ht8⟩
  have D8 := Lib.hid (K7.out.told (v := .tuple #[]) (e := .returned (.tuple #[])) ⟨rfl, hrd8, ht8⟩)
  have R8 := Lib.hid (R7x.out.other ht8 (by have := NE.out; omega))
  have N8 := Lib.hid (show g1 < w25.heap.size ∧ g2 < w25.heap.size by have := R7x.out.lt; have := K7.out.cs.lt; omega)
  have S8 := Lib.hid K7.out.tn.size
  obtain ⟨A8v, c8v, rfl, -⟩ := id hv8
  have V8 := Lib.hid hv8
  have Y8 := Lib.hid hty8
  have O8 := Lib.hid hown8
  clear K7 R7x hv8 hty8 hown8 hrd8 ht8
  go_wp2_with (first
    | ((with_reducible show wpList _ _ _ _ _ w26); refine wpList_store1 rfl 28 _ _ rfl g2 10 rfl (.slice A8v l8.length c8v) rfl rfl infoU8s 31 _ D8.out.cs (bac_lt _ _ _ (by decide)) ?_; intro w27 hk ht; go_frame; have K8 := Lib.hid (D8.out.put (cs' := (bacCells { bacZero with client := (min n1 255), inc := n2, seq := n3, status := (min n4 255), boot := n5, ino := a6.ino, gen := a6.gen, dir := a6.dir, size := a6.size, change := a6.change, before := n7, data := l8 } (.slice A8v l8.length c8v) (.slice none 0 0)).toArray) hk ht); have R8x := Lib.hid (R8.out.turn ht (by have := NE.out; omega)); have V8b := Lib.hid (V8.out.turn ht (fun k hk e => by have := N8.out; omega)); have Y8b := Lib.hid (Y8.out.turn ht (fun k hk e => by have := N8.out; have := O8.out k hk; omega)); clear hk ht D8 R8)
    | ((with_reducible show wpList _ _ _ _ _ w27); refine wpList_loadS rfl 31 _ rfl g2 rfl (bacCells { bacZero with client := (min n1 255), inc := n2, seq := n3, status := (min n4 255), boot := n5, ino := a6.ino, gen := a6.gen, dir := a6.dir, size := a6.size, change := a6.change, before := n7, data := l8 } (.slice A8v l8.length c8v) (.slice none 0 0)) K8.out.cs _ Tryd.underlying31 rfl infoBack ?_; go_frame)
    | ((with_reducible show wpList _ _ _ _ _ w27); refine wpList_storeS rfl 31 _ _ rfl g1 rfl (bacCells { bacZero with client := (min n1 255), inc := n2, seq := n3, status := (min n4 255), boot := n5, ino := a6.ino, gen := a6.gen, dir := a6.dir, size := a6.size, change := a6.change, before := n7, data := l8 } (.slice A8v l8.length c8v) (.slice none 0 0)) (bacCells bacZero (.slice none 0 0) (.slice none 0 0)) rfl R8x.out rfl (bac_one rfl rfl) infoBack ?_; intro w28 hk ht; go_frame; have C9 := Lib.hid hk; have T9 := Lib.hid ht; clear hk ht)
    | fail)
  have ef : headG s0 = ({ bacZero with client := (min n1 255), inc := n2, seq := n3, status := (min n4 255), boot := n5, ino := a6.ino, gen := a6.gen, dir := a6.dir, size := a6.size, change := a6.change, before := n7, data := l8 }, s8) := by
    unfold headG
    simp only [E1.out, E2.out, E3.out, E4.out, E5.out, E6.out, E7.out, E8.out, Int.toNat_natCast]
    rfl
  rw [ef]
  refine bac_end (cs := bacCells { bacZero with client := (min n1 255), inc := n2, seq := n3, status := (min n4 255), boot := n5, ino := a6.ino, gen := a6.gen, dir := a6.dir, size := a6.size, change := a6.change, before := n7, data := l8 } (.slice A8v l8.length c8v) (.slice none 0 0)) rfl rfl C9.out rfl ⟨_, rfl, (V8b.out.turn T9.out (fun k hk e => by have := N8.out; omega)).mono (fun k _ hk => Nat.le_trans S8.out hk), Y8b.out.turn T9.out (fun k hk e => by have := N8.out; have := O8.out k hk; omega), fun k hk => Nat.le_trans S8.out (O8.out k hk), K8.out.rd.turn T9.out (by have := NE.out; omega) (fun k hk e => by have := HF.out k hk; have := G1.out; omega), K8.out.tn.trans T9.out fun k hk e => by have := G1.out; omega⟩

end Go.Proofs.YtboalmmpcfiicaaDoor
