/- BackTells: the walk. -/
import Derived.Test.YtboalmmpcfiicaaDoorBac10
import Derived.Test.YtboalmmpcfiicaaDoorBac11
import Derived.Test.YtboalmmpcfiicaaDoorBacL
import Derived.Test.YtboalmmpcfiicaaDoorTblK
import Derived.Test.YtboalmmpcfiicaaDoorWordsK
namespace Go.Proofs.YtboalmmpcfiicaaDoor
open Go.RowKit Go.Shelf
set_option linter.unusedVariables false
set_option maxRecDepth 100000
set_option linter.unusedSimpArgs false

theorem DoesV.loadB {P : Program} {ops : Array Oper} {T : World → Prop} {o : Oper} {a : Act} (hw : Region.wanted o (yielded ops a.tmps) = true) (ty : TypeId) (x : Operand) (ho : o.op = .load ty x) (b f : Nat) (hx : a.eval x = .pointer (some ⟨b, f, none⟩)) (cs : List Value) (hc : ∀ w, T w → At w b f cs) (d : TypeDesc) (hu : P.underlying ty = some d)
    (hd : (match d with | .struct _ | .array _ _ => true | _ => false) = true) (hi : (P.info? ty).map (·.size) = some cs.length) : DoesV P ops T o (.agg cs.toArray) a :=
  DoesV.reads hw fun w hT => by
    unfold execOp
    simp only [ho, hx, Instr.loadAt, Instr.sureAddr, Sem.run_bind, Sem.run_pure, Result.andThen_ok, run_loadVar_at w ty b f cs (hc w hT) d hu hd hi]
def errV (k : Nat) : Int := if k ≤ 9 then errB k else 2
/-- the bytes that Put tells, of whatever reply; the error -/
def putBL (c : BackX) : List UInt8 := if mayB c then putB c else []
def putBE (c : BackX) : Int := if mayB c then 0 else 2
theorem Put_any11 {F : Nat → Prop} {c : BackX} {v u : Value} {w : World} (h : BacV w F c v u) (hF : ∀ k, F k → k < w.heap.size) (hT : Tabs w) : Calls Tryd.prog 8 #[.agg (bacCells c v u).toArray] w fun e w' => ∃ A cp, e = .returned (.tuple #[.slice A (putBL c).length cp, .int .i64 (putBE c)]) ∧ BsV w' (w.heap.size ≤ ·) (.slice A (putBL c).length cp) (putBL c) ∧ Below w.heap.size w w' := by
  refine (Put_v h hF hT).mono ?_
  unfold putBL putBE
  rintro e w' (⟨hm, he, hb⟩ | ⟨hm, v, he, hv, -, -, hb⟩)
  · rw [hm]; exact ⟨none, 0, he, BsV.nil _ _, hb⟩
  · obtain ⟨A, cp, rfl, -⟩ := id hv
    rw [hm]; exact ⟨A, cp, he, hv, hb⟩
theorem PutR_any11 {F : Nat → Prop} {c : BackX} {v u : Value} {w : World} (h : BacV w F c v u) : Calls Tryd.prog 9 #[.agg (bacCells c v u).toArray] w fun e w' => ∃ A cp, e = .returned (.tuple #[.slice A (putBL c).length cp, .int .i64 (putBE c)]) ∧ BsV w' (w.heap.size ≤ ·) (.slice A (putBL c).length cp) (putBL c) ∧ Below w.heap.size w w' := by
  refine (PutR_v h).mono ?_
  unfold putBL putBE
  rintro e w' (⟨hm, he, hb⟩ | ⟨hm, v, he, hv, hb⟩)
  · rw [hm]; exact ⟨none, 0, he, BsV.nil _ _, hb⟩
  · obtain ⟨A, cp, rfl, -⟩ := id hv
    rw [hm]; exact ⟨A, cp, he, hv, hb⟩
theorem GetRB_b {F : Nat → Prop} {l : List UInt8} {A : Option Addr} {cp : Nat} {w : World} (h : BsV w F (.slice A l.length cp) l) (hl : l.length ≤ 140737488355328) {x : BackX × Int} (hx : getB l = x) : Calls Tryd.prog 11 #[.slice A l.length cp] w fun e w' => ∃ A' c' B' d', e = .returned (.tuple #[.agg (bacCells x.1 (.slice A' x.1.data.length c') (.slice B' x.1.names.length d')).toArray, .int .i64 x.2]) ∧ BacV w' (w.heap.size ≤ ·) x.1 (.slice A' x.1.data.length c') (.slice B' x.1.names.length d') ∧ Below w.heap.size w w' := by
  obtain ⟨h3, h4, -⟩ := h.capB
  subst hx
  refine (GetR_v l A cp w hl h.rdB h3 h4 h.nilB).mono ?_
  rintro e w' ⟨v, u, he, hv, hb⟩
  obtain ⟨A', c', rfl, -⟩ := id hv.1
  obtain ⟨B', d', rfl, -⟩ := id hv.2.1
  exact ⟨A', c', B', d', he, hv, hb⟩
theorem NmV.nilN {w : World} {F : Nat → Prop} {A : Option Addr} {n c : Nat} {l : List ByteArray} (h : NmV w F (.slice A n c) l) : A = none → l = [] ∧ c = 0 := by
  obtain ⟨A', c', e, h1, h2, _⟩ := h
  cases e
  exact h2
theorem own_none (w : World) : (w.alloc (.cells #[] 9)).ownsRow w.heap.size 9 1 (.slice (some ⟨w.heap.size, 0, none⟩) 0 0) 0 [] :=
  ⟨rfl, .inr ⟨w.heap.size, 0, #[], rfl, Nat.le_refl _, World.alloc_heap_new w _, Nat.le_refl _, Nat.zero_le _, rfl, rfl⟩⟩
set_option maxHeartbeats 16000000 in
theorem tells11_many (c : BackX) (va ua : Value) (d : BackX) (vd ud : Value) (l2 : List UInt8) (A2 : Option Addr) (c2 n3 : Nat) (w : World) (hT : Tabs w) (hc : BacV w (· < w.heap.size) c va ua) (hcl : c.data.length ≤ 140737488351232) (hd : BacV w (· < w.heap.size) d vd ud) (hdl : d.data.length ≤ 140737488351232)
    (hl2 : l2.length ≤ 140737488351232) (rd2 : Rd w A2 l2) (hlc2 : l2.length ≤ c2) (hcm2 : c2 ≤ maxLen) (nil2 : A2 = none → l2 = [] ∧ c2 = 0) (hi3 : n3 < 256) (hmany : 100 < c.names.length ∨ 100 < d.names.length) :
    Calls Tryd.prog 3 #[.agg (bacCells c va ua).toArray, .agg (bacCells d vd ud).toArray, .slice A2 l2.length c2, .int .u8 (n3 : Int)] w fun e w' => e = .returned (.bool true) ∧ Below w.heap.size w w' := by
  obtain ⟨A, cp, rfl, -⟩ := id hc.1
  obtain ⟨Ad, cpd, rfl, -⟩ := id hd.1
  obtain ⟨B, dp, rfl, -⟩ := id hc.2.1
  obtain ⟨Bd, dpd, rfl, -⟩ := id hd.2.1
  have HT := Lib.hid hT
  have hmany' : 100 < (c.names.length : Int) ∨ ((c.names.length : Int) ≤ 100 ∧ 100 < (d.names.length : Int)) := by omega
  have hni : (n3 : Int) ≤ 255 := by omega
  clear hc hd hT hl2 rd2 hlc2 hcm2 nil2 hcl hdl hmany
  rcases hmany' with h1 | ⟨h1, h2⟩
  · go_enter Tryd.func3, Tryd.ntmps3
    go_wp2_with (first
      | ((with_reducible show wpList _ _ _ _ _ w); refine wpList_boxS rfl 31 _ rfl (bacCells c (.slice A c.data.length cp) (.slice B c.names.length dp)) rfl ?_; intro g1 w1 hk1 hb1 hg1; go_frame; have C1 := Lib.hid hk1; have B1 := Lib.hid hb1; clear hk1 hb1 hg1)
      | ((with_reducible show wpList _ _ _ _ _ w1); refine wpList_boxS rfl 31 _ rfl (bacCells d (.slice Ad d.data.length cpd) (.slice Bd d.names.length dpd)) rfl ?_; intro g2 w2 hk2 hb2 hg2; go_frame; have C2 := Lib.hid hk2; have B2 := Lib.hid hb2; have pa : w2.cell? ⟨g1, 11, none⟩ = some (.slice B c.names.length dp) := (C1.out.below B2.out C1.out.lt).cell 11 rfl; have pb : w2.cell? ⟨g2, 11, none⟩ = some (.slice Bd d.names.length dpd) := C2.out.cell 11 rfl; clear hk2 hb2 hg2)
      | fail)
    have B02 := Lib.hid (below_chain B1.out B2.out)
    refine (lives11_v w2 (HT.out.below B02.out)).mono ?_
    rintro e w3 ⟨rfl, hb⟩
    have B03 := Lib.hid (below_chain B02.out hb)
    clear hb pa pb
    go_wp2_with fail
    go_ret
    exact ⟨rfl, B03.out⟩
  · go_enter Tryd.func3, Tryd.ntmps3
    go_wp2_with (first
      | ((with_reducible show wpList _ _ _ _ _ w); refine wpList_boxS rfl 31 _ rfl (bacCells c (.slice A c.data.length cp) (.slice B c.names.length dp)) rfl ?_; intro g1 w1 hk1 hb1 hg1; go_frame; have C1 := Lib.hid hk1; have B1 := Lib.hid hb1; clear hk1 hb1 hg1)
      | ((with_reducible show wpList _ _ _ _ _ w1); refine wpList_boxS rfl 31 _ rfl (bacCells d (.slice Ad d.data.length cpd) (.slice Bd d.names.length dpd)) rfl ?_; intro g2 w2 hk2 hb2 hg2; go_frame; have C2 := Lib.hid hk2; have B2 := Lib.hid hb2; have pa : w2.cell? ⟨g1, 11, none⟩ = some (.slice B c.names.length dp) := (C1.out.below B2.out C1.out.lt).cell 11 rfl; have pb : w2.cell? ⟨g2, 11, none⟩ = some (.slice Bd d.names.length dpd) := C2.out.cell 11 rfl; clear hk2 hb2 hg2)
      | fail)
    have B02 := Lib.hid (below_chain B1.out B2.out)
    refine (lives11_v w2 (HT.out.below B02.out)).mono ?_
    rintro e w3 ⟨rfl, hb⟩
    have B03 := Lib.hid (below_chain B02.out hb)
    clear hb pa pb
    go_wp2_with fail
    go_ret
    exact ⟨rfl, B03.out⟩
set_option maxHeartbeats 16000000 in
theorem tells11_few (c : BackX) (va ua : Value) (d : BackX) (vd ud : Value) (l2 : List UInt8) (A2 : Option Addr) (c2 n3 : Nat) (w : World) (hT : Tabs w) (hc : BacV w (· < w.heap.size) c va ua) (hcl : c.data.length ≤ 140737488351232) (hd : BacV w (· < w.heap.size) d vd ud) (hdl : d.data.length ≤ 140737488351232)
    (hl2 : l2.length ≤ 140737488351232) (rd2 : Rd w A2 l2) (hlc2 : l2.length ≤ c2) (hcm2 : c2 ≤ maxLen) (nil2 : A2 = none → l2 = [] ∧ c2 = 0) (hi3 : n3 < 256) (hn1 : c.names.length ≤ 100) (hn2 : d.names.length ≤ 100) :
    Calls Tryd.prog 3 #[.agg (bacCells c va ua).toArray, .agg (bacCells d vd ud).toArray, .slice A2 l2.length c2, .int .u8 (n3 : Int)] w fun e w' => e = .returned (.bool true) ∧ Below w.heap.size w w' := by
  have hmix : Tryd.prog.follows .mixedOrders = true := by kernel_rfl
  have hv2 : BsV w (· < w.heap.size) (.slice A2 l2.length c2) l2 := ⟨A2, c2, rfl, rd2.f fun b off e hlt => hlt, nil2, hlc2, hcm2⟩
  obtain ⟨A, cp, rfl, -⟩ := id hc.1
  obtain ⟨Ad, cpd, rfl, -⟩ := id hd.1
  obtain ⟨B, dp, rfl, -⟩ := id hc.2.1
  obtain ⟨Bd, dpd, rfl, -⟩ := id hd.2.1
  have HV2 := Lib.hid hv2
  have HCV := Lib.hid hc
  have HDV := Lib.hid hd
  have HT := Lib.hid hT
  have HL2 := Lib.hid hl2
  have HCL := Lib.hid hcl
  have HNIL := Lib.hid nil2
  have HN1 := Lib.hid hn1
  have HI3 := Lib.hid hi3
  have hn1' : (c.names.length : Int) ≤ 100 := by omega
  have hn2' : (d.names.length : Int) ≤ 100 := by omega
  have hni : (n3 : Int) ≤ 255 := by omega
  obtain ⟨z, hz⟩ : ∃ z, getB l2 = z := ⟨_, rfl⟩
  obtain ⟨zx, ze⟩ := z
  have HZ := Lib.hid hz
  clear hv2 hc hd hT hl2 rd2 hlc2 hcm2 nil2 hcl hdl hz hn1 hn2 hi3
  go_enter Tryd.func3, Tryd.ntmps3
  go_wp2_with (first
    | ((with_reducible show wpList _ _ _ _ _ w); refine wpList_boxS rfl 31 _ rfl (bacCells c (.slice A c.data.length cp) (.slice B c.names.length dp)) rfl ?_; intro g1 w1 hk1 hb1 hg1; go_frame; have C1 := Lib.hid hk1; have B1 := Lib.hid hb1; clear hk1 hb1 hg1)
    | ((with_reducible show wpList _ _ _ _ _ w1); refine wpList_boxS rfl 31 _ rfl (bacCells d (.slice Ad d.data.length cpd) (.slice Bd d.names.length dpd)) rfl ?_; intro g2 w2 hk2 hb2 hg2; go_frame; have C2 := Lib.hid hk2; have B2 := Lib.hid hb2; have pa : w2.cell? ⟨g1, 11, none⟩ = some (.slice B c.names.length dp) := (C1.out.below B2.out C1.out.lt).cell 11 rfl; have pb : w2.cell? ⟨g2, 11, none⟩ = some (.slice Bd d.names.length dpd) := C2.out.cell 11 rfl; clear hk2 hb2 hg2)
    | ((with_reducible show wpList _ _ _ _ _ w2); refine wpList_loadS rfl 31 _ rfl g1 rfl (bacCells c (.slice A c.data.length cp) (.slice B c.names.length dp)) (C1.out.below B2.out C1.out.lt) _ Tryd.underlying31 rfl infoBack ?_; go_frame)
    | ((with_reducible show wpList _ _ _ _ _ w2); refine wpList_allocS rfl 31 rfl zc backZero ?_; intro g3 w3 hk3 hb3 hg3; go_frame; have CA := Lib.hid hk3; have BA := Lib.hid hb3; have GA := Lib.hid hg3; clear hk3 hb3 hg3)
    | ((with_reducible show wpList _ _ _ _ _ w3); refine wpList_storeS rfl 31 _ _ rfl g3 rfl (bacCells c (.slice A c.data.length cp) (.slice B c.names.length dp)) zc rfl CA.out rfl (bac_one rfl rfl) infoBack ?_; intro w4 hk4 ht4; go_frame; have C3 := Lib.hid hk4; have B4 := Lib.hid (BA.out.trans (ht4.below BA.out.size fun k e => by have := GA.out; omega)); have q10 : w4.cell? ⟨g1, 10, none⟩ = some (.slice A c.data.length cp) := ((C1.out.below B2.out C1.out.lt).below B4.out (C1.out.below B2.out C1.out.lt).lt).cell 10 rfl; clear hk4 ht4 pa pb)
    | fail)
  have K0_1 := Lib.hid (B1.out)
  have K0_2 := Lib.hid (below_chain K0_1.out B2.out)
  have K1_2 := Lib.hid (B2.out)
  have K0_3 := Lib.hid (below_chain K0_2.out B4.out)
  have K1_3 := Lib.hid (below_chain K1_2.out B4.out)
  have K2_3 := Lib.hid (B4.out)
  have HG3 := Lib.hid (show w2.heap.size ≤ g3 from GA.out)
  have hwd := Wide_ty c.data A cp w4 (by have := HCL.out; omega) (HCV.out.1.below K0_3.out).rdB HCV.out.1.nilB
  refine hwd.mono ?_
  clear hwd q10
  rintro e w5 ⟨go, capo, rfl, hco, hcmo, hro, -, hgo0, hgo1, hb⟩
  have K0_4 := Lib.hid (below_chain K0_3.out hb)
  have K1_4 := Lib.hid (below_chain K1_3.out hb)
  have K2_4 := Lib.hid (below_chain K2_3.out hb)
  have HC5 := Lib.hid (C3.out.below hb C3.out.lt)
  have HRO := Lib.hid hro
  have HO := Lib.hid (And.intro hco (And.intro hcmo (And.intro hgo0 hgo1)))
  have HLT3 := Lib.hid C3.out.lt
  have S5 := Lib.hid (K2_4.out).size
  have Q15 := Lib.hid (C1.out.below K1_4.out C1.out.lt)
  have HB5 := Lib.hid (HCV.out.below K0_4.out)
  clear hb hro hco hcmo hgo0 hgo1
  go_wp2_with (first
    | ((with_reducible show wpList _ _ _ _ _ w5); refine wpList_store1 rfl 28 _ _ rfl g3 10 rfl (.slice (some ⟨go, 0, none⟩) c.data.length capo) rfl rfl infoU8s 31 _ HC5.out (bac_lt _ _ _ (by decide)) ?_; intro w6 hk ht; go_frame; have HC6 := Lib.hid (show Cs w6 g3 31 (bacCells c (.slice (some ⟨go, 0, none⟩) c.data.length capo) (.slice B c.names.length dp)).toArray from hk); have T6 := Lib.hid ht; have Q16 := Lib.hid (Q15.out.turn ht (by have h1 := HG3.out; have h2 := B2.out.size; have h3 := C1.out.lt; omega)); have q11 : (w6.alloc (.cells #[] 9)).cell? ⟨g1, 11, none⟩ = some (.slice B c.names.length dp) := cell_b (below_newB w6 _) (Q16.out.cell 11 rfl); have HB6 := Lib.hid (HB5.out.turn ht (fun k hk e => by have h1 := HG3.out; have h2 := B2.out.size; have h3 := B1.out.size; omega)); clear hk ht)
    | (at_builtin; refine append_txs rfl (.tmp 35) (.tmp 37) rfl w6.heap.size _ rfl (own_none w6) B c.names c.names.length dp rfl rfl (HB6.out.2.1.below (below_newB w6 _)).rds HB6.out.2.1.nilN (by have := HN1.out; omega) (by rw [World.size_alloc]; omega) ?_; intro v7 w7 ho hg; obtain ⟨Bo, No, dpo, rfl, -⟩ := own_slice ho; have HO7 := Lib.hid ho; have B67 := Lib.hid (((Below.refl w6.heap.size w6).alloc (Nat.le_refl _) (.cells #[] 9)).grown hg (by rw [World.size_alloc]; omega) (fun k e => by cases e; exact Nat.le_refl _)); have HC7 := Lib.hid (HC6.out.below B67.out HC6.out.lt); clear ho hg q11)
    | ((with_reducible show wpList _ _ _ _ _ w7); refine wpList_store1 rfl 29 _ _ rfl g3 11 rfl (.slice Bo No dpo) rfl rfl infoStrs 31 _ HC7.out (bac_lt _ _ _ (by decide)) ?_; intro w8 hk ht; go_frame; have HC8 := Lib.hid (show Cs w8 g3 31 (bacCells c (.slice (some ⟨go, 0, none⟩) c.data.length capo) (.slice Bo No dpo)).toArray from hk); have T8 := Lib.hid ht; clear hk ht)
    | fail)
  obtain rfl : c.names.length = No := by have h1 := NmV.own HO7.out; obtain ⟨_, _, e, -⟩ := h1; cases e; rfl
  have t58 : Turn w5 w8 (· = g3) := (T6.out.trans (Turn.of_below B67.out fun _ => False) (fun _ _ h => h.elim)).trans T8.out fun _ _ h => h
  have hro8 : Rd w8 (some ⟨go, 0, none⟩) (c.data ++ [9, 9, 9]) := by
    rcases HRO.out with h | ⟨b, off, e, h⟩
    · exact .inl h
    · cases e
      refine .inr ⟨go, 0, rfl, fun j hj => (World.cell?_of_block (w := w5) (a := ⟨go, 0 + j, none⟩) (t58.block go HO.out.2.2.2 (by show ¬ go = g3; have := HLT3.out; have := HO.out.2.2.1; omega))).trans (h j hj)⟩
  have ho8 := ownsRow_turn' HO7.out T8.out (fun k hk e => by have h1 := own_base HO7.out k hk; have h2 := HLT3.out; have h3 := HC6.out.lt; omega)
  have hb8 : Below w2.heap.size w5 w8 := t58.below S5.out fun k e => by have := HG3.out; omega
  have J2 := Lib.hid ((K2_4.out).trans hb8)
  have J1 := Lib.hid (B2.out.trans (J2.out.mono B2.out.size))
  have J0 := Lib.hid (B1.out.trans (J1.out.mono B1.out.size))
  have HR8 := Lib.hid hro8
  have hcv8 : BacV w8 (· < w8.heap.size) c (.slice (some ⟨go, 0, none⟩) c.data.length capo) (.slice Bo c.names.length dpo) := ⟨⟨_, capo, rfl, (rd_prefix HR8.out).f (fun b off e hlt => hlt), (fun h => by cases h), by have := HO.out.1; omega, HO.out.2.1⟩, (NmV.own ho8).mono fun k hlt _ => hlt, HCV.out.2.2⟩
  have HCO := Lib.hid hcv8
  clear hro8 hb8 t58 ho8 hcv8
  have hwb := Wide_ty l2 A2 c2 w8 (by have := HL2.out; omega) (HV2.out.below J0.out).rdB HNIL.out
  refine hwb.mono ?_
  clear hwb
  rintro e w9 ⟨gb, capb, rfl, hcb, hcmb, hrb, -, hgb0, hgb1, hb⟩
  have K0_5 := Lib.hid (below_chain J0.out hb)
  have K1_5 := Lib.hid (below_chain J1.out hb)
  have K2_5 := Lib.hid (below_chain J2.out hb)
  have K6_5 := Lib.hid (hb)
  have HRB := Lib.hid hrb
  have HB9 := Lib.hid (And.intro hcb hcmb)
  clear hb hrb hcb hcmb hgb0 hgb1
  have HP := Lib.hid (Put_any11 (HCO.out.below K6_5.out) (fun k hk => Nat.lt_of_lt_of_le hk (K6_5.out).size) (HT.out.below K0_5.out))
  go_wp2_with (first
      | ((with_reducible show wpList _ _ _ _ _ w9); refine wpList_loadS rfl 31 _ rfl g3 rfl (bacCells c (.slice (some ⟨go, 0, none⟩) c.data.length capo) (.slice Bo c.names.length dpo)) (HC8.out.below K6_5.out HC8.out.lt) _ Tryd.underlying31 rfl infoBack ?_; go_frame)
      | fail)
  refine HP.out.mono ?_
  rintro e w10 ⟨Ax, cx, rfl, hx, hb⟩
  have K0_6 := Lib.hid (below_chain K0_5.out hb)
  have K1_6 := Lib.hid (below_chain K1_5.out hb)
  have K2_6 := Lib.hid (below_chain K2_5.out hb)
  have K6_6 := Lib.hid (below_chain K6_5.out hb)
  have K7_6 := Lib.hid (hb)
  have HX := Lib.hid hx
  clear hx hb
  have HQ := Lib.hid (PutR_any11 (HCV.out.below K0_6.out))
  go_wp2_with (first
      | ((with_reducible show wpList _ _ _ _ _ w10); refine wpList_loadS rfl 31 _ rfl g1 rfl (bacCells c (.slice A c.data.length cp) (.slice B c.names.length dp)) (C1.out.below K1_6.out C1.out.lt) _ Tryd.underlying31 rfl infoBack ?_; go_frame)
      | fail)
  refine HQ.out.mono ?_
  rintro e w11 ⟨Ay, cy, rfl, hy, hb⟩
  have K0_7 := Lib.hid (below_chain K0_6.out hb)
  have K1_7 := Lib.hid (below_chain K1_6.out hb)
  have K2_7 := Lib.hid (below_chain K2_6.out hb)
  have K6_7 := Lib.hid (below_chain K6_6.out hb)
  have K7_7 := Lib.hid (below_chain K7_6.out hb)
  have K8_7 := Lib.hid (hb)
  have HY := Lib.hid hy
  clear hy hb
  have hvb : BsV w9 (fun _ => True) (.slice (some ⟨gb, 0, none⟩) l2.length capb) l2 := ⟨_, capb, rfl, (rd_prefix HRB.out).f (fun b off e hlt => trivial), (fun h => by cases h), by have := HB9.out.1; omega, HB9.out.2⟩
  have HVB := Lib.hid hvb
  clear hvb
  have HG := Lib.hid (GetB_b rfl (HVB.out.below K7_7.out) (by have := HL2.out; omega) (HT.out.below K0_7.out) HZ.out)
  go_wp2_with fail
  refine HG.out.mono ?_
  rintro e wm ⟨Am, cm, Bm, dm, rfl, hvm, hb⟩
  have K0_8 := Lib.hid (below_chain K0_7.out hb)
  have K1_8 := Lib.hid (below_chain K1_7.out hb)
  have K2_8 := Lib.hid (below_chain K2_7.out hb)
  have K6_8 := Lib.hid (below_chain K6_7.out hb)
  have K7_8 := Lib.hid (below_chain K7_7.out hb)
  have K8_8 := Lib.hid (below_chain K8_7.out hb)
  have K9_8 := Lib.hid (hb)
  have HVM := Lib.hid hvm
  clear hvm hb
  go_wp2_with (first
    | ((with_reducible show wpList _ _ _ _ _ wm); refine wpList_allocS rfl 31 rfl zc backZero ?_; intro gM waM hk4 hb4 hg4; go_frame; have CA := Lib.hid hk4; have BA := Lib.hid hb4; have GA := Lib.hid hg4; clear hk4 hb4 hg4)
    | ((with_reducible show wpList _ _ _ _ _ waM); refine wpList_storeS rfl 31 _ _ rfl gM rfl (bacCells zx (.slice Am zx.data.length cm) (.slice Bm zx.names.length dm)) zc rfl CA.out rfl (bac_one rfl rfl) infoBack ?_; intro wbM hk5 ht5; go_frame; have CM := Lib.hid hk5; have BB := Lib.hid (BA.out.trans (ht5.below BA.out.size fun k e => by have := GA.out; omega)); clear hk5 ht5 CA BA GA)
    | fail)
  have K0_9 := Lib.hid (below_chain K0_8.out BB.out)
  have K1_9 := Lib.hid (below_chain K1_8.out BB.out)
  have K2_9 := Lib.hid (below_chain K2_8.out BB.out)
  have K6_9 := Lib.hid (below_chain K6_8.out BB.out)
  have K7_9 := Lib.hid (below_chain K7_8.out BB.out)
  have K8_9 := Lib.hid (below_chain K8_8.out BB.out)
  have K9_9 := Lib.hid (below_chain K9_8.out BB.out)
  have Km_9 := Lib.hid (BB.out)
  clear BB
  have HG2 := Lib.hid (GetRB_b (HV2.out.below K0_9.out) (by have := HL2.out; omega) HZ.out)
  refine HG2.out.mono ?_
  rintro e wn ⟨An, cn, Bn, dn, rfl, hvn, hb⟩
  have K0_10 := Lib.hid (below_chain K0_9.out hb)
  have K1_10 := Lib.hid (below_chain K1_9.out hb)
  have K2_10 := Lib.hid (below_chain K2_9.out hb)
  have K6_10 := Lib.hid (below_chain K6_9.out hb)
  have K7_10 := Lib.hid (below_chain K7_9.out hb)
  have K8_10 := Lib.hid (below_chain K8_9.out hb)
  have K9_10 := Lib.hid (below_chain K9_9.out hb)
  have Km_10 := Lib.hid (below_chain Km_9.out hb)
  have KM_10 := Lib.hid (hb)
  have HVN := Lib.hid hvn
  clear hvn hb
  go_wp2_with (first
    | ((with_reducible show wpList _ _ _ _ _ wn); refine wpList_allocS rfl 31 rfl zc backZero ?_; intro gN waN hk4 hb4 hg4; go_frame; have CA := Lib.hid hk4; have BA := Lib.hid hb4; have GA := Lib.hid hg4; clear hk4 hb4 hg4)
    | ((with_reducible show wpList _ _ _ _ _ waN); refine wpList_storeS rfl 31 _ _ rfl gN rfl (bacCells zx (.slice An zx.data.length cn) (.slice Bn zx.names.length dn)) zc rfl CA.out rfl (bac_one rfl rfl) infoBack ?_; intro wbN hk5 ht5; go_frame; have CN := Lib.hid hk5; have BB := Lib.hid (BA.out.trans (ht5.below BA.out.size fun k e => by have := GA.out; omega)); clear hk5 ht5 CA BA GA)
    | fail)
  have K0_11 := Lib.hid (below_chain K0_10.out BB.out)
  have K1_11 := Lib.hid (below_chain K1_10.out BB.out)
  have K2_11 := Lib.hid (below_chain K2_10.out BB.out)
  have K6_11 := Lib.hid (below_chain K6_10.out BB.out)
  have K7_11 := Lib.hid (below_chain K7_10.out BB.out)
  have K8_11 := Lib.hid (below_chain K8_10.out BB.out)
  have K9_11 := Lib.hid (below_chain K9_10.out BB.out)
  have Km_11 := Lib.hid (below_chain Km_10.out BB.out)
  have KM_11 := Lib.hid (below_chain KM_10.out BB.out)
  have Kn_11 := Lib.hid (BB.out)
  clear BB
  refine wp_region_V [] (Below wbN.heap.size wbN) hmix ((Below.refl _ _).drew) ?_
  change wpAnyV _ _ _ _ _ _ _ _ _
  refine wpAnyV_take (i := 0) (v := .agg (bacCells c (.slice (some ⟨go, 0, none⟩) c.data.length capo) (.slice Bo c.names.length dpo)).toArray) 8 (kept_below wbN) rfl (by kernel_rfl) (by kernel_rfl) (fun _ _ _ h => h) (fun _ h => h) (DoesV.loadB (by rfl) 31 _ rfl g3 0 rfl (bacCells c (.slice (some ⟨go, 0, none⟩) c.data.length capo) (.slice Bo c.names.length dpo)) (fun w9 hS => At.whole ((HC8.out.below K6_11.out HC8.out.lt).below hS (HC8.out.below K6_11.out HC8.out.lt).lt)) _ Tryd.underlying31 rfl infoBack) ?_
  try simp only [List.getElem_toArray, List.getElem_cons_succ, List.getElem_cons_zero, Act.put, List.setIfInBounds_toArray, List.set_cons_succ, List.set_cons_zero]
  refine wpAnyV_take (i := 1) (v := .bool (mayB c)) 8 (kept_below wbN) rfl (by kernel_rfl) (by kernel_rfl) (fun _ _ _ h => h) (fun _ h => h) (DoesV.calls 12 #[.agg (bacCells c (.slice (some ⟨go, 0, none⟩) c.data.length capo) (.slice Bo c.names.length dpo)).toArray] (by rfl) (fun w9 hS => by go_simp) (fun w9 hS => May_v ((HCO.out.below K6_11.out).below hS) ((HT.out.below K0_11.out).below hS))) ?_
  try simp only [List.getElem_toArray, List.getElem_cons_succ, List.getElem_cons_zero, Act.put, List.setIfInBounds_toArray, List.set_cons_succ, List.set_cons_zero]
  refine wpAnyV_take (i := 2) (v := .agg (bacCells c (.slice A c.data.length cp) (.slice B c.names.length dp)).toArray) 8 (kept_below wbN) rfl (by kernel_rfl) (by kernel_rfl) (fun _ _ _ h => h) (fun _ h => h) (DoesV.loadB (by rfl) 31 _ rfl g1 0 rfl (bacCells c (.slice A c.data.length cp) (.slice B c.names.length dp)) (fun w9 hS => At.whole ((C1.out.below K1_11.out C1.out.lt).below hS (C1.out.below K1_11.out C1.out.lt).lt)) _ Tryd.underlying31 rfl infoBack) ?_
  try simp only [List.getElem_toArray, List.getElem_cons_succ, List.getElem_cons_zero, Act.put, List.setIfInBounds_toArray, List.set_cons_succ, List.set_cons_zero]
  refine wpAnyV_take (i := 3) (v := .bool (mayB c)) 8 (kept_below wbN) rfl (by kernel_rfl) (by kernel_rfl) (fun _ _ _ h => h) (fun _ h => h) (DoesV.calls 13 #[.agg (bacCells c (.slice A c.data.length cp) (.slice B c.names.length dp)).toArray] (by rfl) (fun w9 hS => by go_simp) (fun w9 hS => MayR_v ((HCV.out.below K0_11.out).below hS))) ?_
  try simp only [List.getElem_toArray, List.getElem_cons_succ, List.getElem_cons_zero, Act.put, List.setIfInBounds_toArray, List.set_cons_succ, List.set_cons_zero]
  refine wpAnyV_take (i := 4) (v := .bool false) 8 (kept_below wbN) rfl (by kernel_rfl) (by kernel_rfl) (fun _ _ _ h => h) (fun _ h => h) (DoesV.reads (by rfl) fun w9 hS => by go_simp) ?_
  try simp only [List.getElem_toArray, List.getElem_cons_succ, List.getElem_cons_zero, Act.put, List.setIfInBounds_toArray, List.set_cons_succ, List.set_cons_zero]
  refine wpAnyV_take (i := 5) (v := .bool false) 8 (kept_below wbN) rfl (by kernel_rfl) (by kernel_rfl) (fun _ _ _ h => h) (fun _ h => h) (DoesV.reads (by rfl) fun w9 hS => by go_simp) ?_
  try simp only [List.getElem_toArray, List.getElem_cons_succ, List.getElem_cons_zero, Act.put, List.setIfInBounds_toArray, List.set_cons_succ, List.set_cons_zero]
  refine wpAnyV_take (i := 6) (v := .slice Ax (putBL c).length cx) 8 (kept_below wbN) rfl (by kernel_rfl) (by kernel_rfl) (fun _ _ _ h => h) (fun _ h => h) (DoesV.reads (by rfl) fun w9 hS => by go_simp) ?_
  try simp only [List.getElem_toArray, List.getElem_cons_succ, List.getElem_cons_zero, Act.put, List.setIfInBounds_toArray, List.set_cons_succ, List.set_cons_zero]
  refine wpAnyV_take (i := 7) (v := .slice Ay (putBL c).length cy) 8 (kept_below wbN) rfl (by kernel_rfl) (by kernel_rfl) (fun _ _ _ h => h) (fun _ h => h) (DoesV.reads (by rfl) fun w9 hS => by go_simp) ?_
  try simp only [List.getElem_toArray, List.getElem_cons_succ, List.getElem_cons_zero, Act.put, List.setIfInBounds_toArray, List.set_cons_succ, List.set_cons_zero]
  refine wpAnyV_take (i := 8) (v := .bool true) 8 (kept_below wbN) rfl (by kernel_rfl) (by kernel_rfl) (fun _ _ _ h => h) (fun _ h => h) (DoesV.calls 14 #[.slice Ax (putBL c).length cx, .slice Ay (putBL c).length cy] (by rfl) (fun w9 hS => by go_simp) (fun w9 hS => (Same_any Ax Ay (putBL c) (putBL c) cx cy w9 ((HX.out.below K8_11.out).below hS).rdB ((HY.out.below K9_11.out).below hS).rdB).mono fun e u h => ⟨by rw [h.1, show (putBL c == putBL c) = true from beq_self_eq_true _], h.2 ▸ Below.refl _ _⟩)) ?_
  try simp only [List.getElem_toArray, List.getElem_cons_succ, List.getElem_cons_zero, Act.put, List.setIfInBounds_toArray, List.set_cons_succ, List.set_cons_zero]
  refine wpAnyV_take (i := 9) (v := .bool false) 8 (kept_below wbN) rfl (by kernel_rfl) (by kernel_rfl) (fun _ _ _ h => h) (fun _ h => h) (DoesV.reads (by rfl) fun w9 hS => by go_simp) ?_
  try simp only [List.getElem_toArray, List.getElem_cons_succ, List.getElem_cons_zero, Act.put, List.setIfInBounds_toArray, List.set_cons_succ, List.set_cons_zero]
  refine wpAnyV_take (i := 10) (v := .bool false) 8 (kept_below wbN) rfl (by kernel_rfl) (by kernel_rfl) (fun _ _ _ h => h) (fun _ h => h) (DoesV.reads (by rfl) fun w9 hS => by go_simp) ?_
  try simp only [List.getElem_toArray, List.getElem_cons_succ, List.getElem_cons_zero, Act.put, List.setIfInBounds_toArray, List.set_cons_succ, List.set_cons_zero]
  refine wpAnyV_take (i := 11) (v := .bool false) 8 (kept_below wbN) rfl (by kernel_rfl) (by kernel_rfl) (fun _ _ _ h => h) (fun _ h => h) (DoesV.reads (by rfl) fun w9 hS => by go_simp) ?_
  try simp only [List.getElem_toArray, List.getElem_cons_succ, List.getElem_cons_zero, Act.put, List.setIfInBounds_toArray, List.set_cons_succ, List.set_cons_zero]
  refine wpAnyV_take (i := 12) (v := .int .i64 (putBE c)) 8 (kept_below wbN) rfl (by kernel_rfl) (by kernel_rfl) (fun _ _ _ h => h) (fun _ h => h) (DoesV.reads (by rfl) fun w9 hS => by go_simp) ?_
  try simp only [List.getElem_toArray, List.getElem_cons_succ, List.getElem_cons_zero, Act.put, List.setIfInBounds_toArray, List.set_cons_succ, List.set_cons_zero]
  refine wpAnyV_take (i := 13) (v := .int .i64 (putBE c)) 8 (kept_below wbN) rfl (by kernel_rfl) (by kernel_rfl) (fun _ _ _ h => h) (fun _ h => h) (DoesV.reads (by rfl) fun w9 hS => by go_simp) ?_
  try simp only [List.getElem_toArray, List.getElem_cons_succ, List.getElem_cons_zero, Act.put, List.setIfInBounds_toArray, List.set_cons_succ, List.set_cons_zero]
  refine wpAnyV_take (i := 14) (v := .bool false) 8 (kept_below wbN) rfl (by kernel_rfl) (by kernel_rfl) (fun _ _ _ h => h) (fun _ h => h) (DoesV.reads (by rfl) fun w9 hS => by go_simp) ?_
  try simp only [List.getElem_toArray, List.getElem_cons_succ, List.getElem_cons_zero, Act.put, List.setIfInBounds_toArray, List.set_cons_succ, List.set_cons_zero]
  refine wpAnyV_take (i := 15) (v := .bool false) 8 (kept_below wbN) rfl (by kernel_rfl) (by kernel_rfl) (fun _ _ _ h => h) (fun _ h => h) (DoesV.reads (by rfl) fun w9 hS => by go_simp) ?_
  try simp only [List.getElem_toArray, List.getElem_cons_succ, List.getElem_cons_zero, Act.put, List.setIfInBounds_toArray, List.set_cons_succ, List.set_cons_zero]
  refine wpAnyV_take (i := 16) (v := .bool false) 8 (kept_below wbN) rfl (by kernel_rfl) (by kernel_rfl) (fun _ _ _ h => h) (fun _ h => h) (DoesV.reads (by rfl) fun w9 hS => by go_simp) ?_
  try simp only [List.getElem_toArray, List.getElem_cons_succ, List.getElem_cons_zero, Act.put, List.setIfInBounds_toArray, List.set_cons_succ, List.set_cons_zero]
  refine wpAnyV_take (i := 17) (v := .agg (bacCells zx (.slice Am zx.data.length cm) (.slice Bm zx.names.length dm)).toArray) 8 (kept_below wbN) rfl (by kernel_rfl) (by kernel_rfl) (fun _ _ _ h => h) (fun _ h => h) (DoesV.loadB (by rfl) 31 _ rfl gM 0 rfl (bacCells zx (.slice Am zx.data.length cm) (.slice Bm zx.names.length dm)) (fun w9 hS => At.whole ((CM.out.below KM_11.out CM.out.lt).below hS (CM.out.below KM_11.out CM.out.lt).lt)) _ Tryd.underlying31 rfl infoBack) ?_
  try simp only [List.getElem_toArray, List.getElem_cons_succ, List.getElem_cons_zero, Act.put, List.setIfInBounds_toArray, List.set_cons_succ, List.set_cons_zero]
  refine wpAnyV_take (i := 18) (v := .agg (bacCells zx (.slice An zx.data.length cn) (.slice Bn zx.names.length dn)).toArray) 8 (kept_below wbN) rfl (by kernel_rfl) (by kernel_rfl) (fun _ _ _ h => h) (fun _ h => h) (DoesV.loadB (by rfl) 31 _ rfl gN 0 rfl (bacCells zx (.slice An zx.data.length cn) (.slice Bn zx.names.length dn)) (fun w9 hS => At.whole ((CN.out.below (Below.refl _ _) CN.out.lt).below hS (CN.out.below (Below.refl _ _) CN.out.lt).lt)) _ Tryd.underlying31 rfl infoBack) ?_
  try simp only [List.getElem_toArray, List.getElem_cons_succ, List.getElem_cons_zero, Act.put, List.setIfInBounds_toArray, List.set_cons_succ, List.set_cons_zero]
  refine wpAnyV_take (i := 19) (v := .bool true) 8 (kept_below wbN) rfl (by kernel_rfl) (by kernel_rfl) (fun _ _ _ h => h) (fun _ h => h) (DoesV.calls 15 #[.agg (bacCells zx (.slice Am zx.data.length cm) (.slice Bm zx.names.length dm)).toArray, .agg (bacCells zx (.slice An zx.data.length cn) (.slice Bn zx.names.length dn)).toArray] (by rfl) (fun w9 hS => by go_simp) (fun w9 hS => (SameR_v ((HVM.out.below Km_11.out).below hS) ((HVN.out.below Kn_11.out).below hS)).mono fun e u h => ⟨by rw [h.1, sameB_self], h.2⟩)) ?_
  try simp only [List.getElem_toArray, List.getElem_cons_succ, List.getElem_cons_zero, Act.put, List.setIfInBounds_toArray, List.set_cons_succ, List.set_cons_zero]
  refine wpAnyV_take (i := 20) (v := .bool false) 8 (kept_below wbN) rfl (by kernel_rfl) (by kernel_rfl) (fun _ _ _ h => h) (fun _ h => h) (DoesV.reads (by rfl) fun w9 hS => by go_simp) ?_
  try simp only [List.getElem_toArray, List.getElem_cons_succ, List.getElem_cons_zero, Act.put, List.setIfInBounds_toArray, List.set_cons_succ, List.set_cons_zero]
  refine wpAnyV_take (i := 21) (v := .bool false) 8 (kept_below wbN) rfl (by kernel_rfl) (by kernel_rfl) (fun _ _ _ h => h) (fun _ h => h) (DoesV.reads (by rfl) fun w9 hS => by go_simp) ?_
  try simp only [List.getElem_toArray, List.getElem_cons_succ, List.getElem_cons_zero, Act.put, List.setIfInBounds_toArray, List.set_cons_succ, List.set_cons_zero]
  refine wpAnyV_take (i := 22) (v := .bool false) 8 (kept_below wbN) rfl (by kernel_rfl) (by kernel_rfl) (fun _ _ _ h => h) (fun _ h => h) (DoesV.reads (by rfl) fun w9 hS => by go_simp) ?_
  try simp only [List.getElem_toArray, List.getElem_cons_succ, List.getElem_cons_zero, Act.put, List.setIfInBounds_toArray, List.set_cons_succ, List.set_cons_zero]
  refine wpAnyV_take (i := 23) (v := .int .i64 ze) 8 (kept_below wbN) rfl (by kernel_rfl) (by kernel_rfl) (fun _ _ _ h => h) (fun _ h => h) (DoesV.reads (by rfl) fun w9 hS => by go_simp) ?_
  try simp only [List.getElem_toArray, List.getElem_cons_succ, List.getElem_cons_zero, Act.put, List.setIfInBounds_toArray, List.set_cons_succ, List.set_cons_zero]
  refine wpAnyV_take (i := 24) (v := .int .i64 ze) 8 (kept_below wbN) rfl (by kernel_rfl) (by kernel_rfl) (fun _ _ _ h => h) (fun _ h => h) (DoesV.reads (by rfl) fun w9 hS => by go_simp) ?_
  try simp only [List.getElem_toArray, List.getElem_cons_succ, List.getElem_cons_zero, Act.put, List.setIfInBounds_toArray, List.set_cons_succ, List.set_cons_zero]
  refine wpAnyV_take (i := 25) (v := .bool false) 8 (kept_below wbN) rfl (by kernel_rfl) (by kernel_rfl) (fun _ _ _ h => h) (fun _ h => h) (DoesV.reads (by rfl) fun w9 hS => by go_simp) ?_
  try simp only [List.getElem_toArray, List.getElem_cons_succ, List.getElem_cons_zero, Act.put, List.setIfInBounds_toArray, List.set_cons_succ, List.set_cons_zero]
  refine wpAnyV_take (i := 26) (v := .bool false) 8 (kept_below wbN) rfl (by kernel_rfl) (by kernel_rfl) (fun _ _ _ h => h) (fun _ h => h) (DoesV.reads (by rfl) fun w9 hS => by go_simp) ?_
  try simp only [List.getElem_toArray, List.getElem_cons_succ, List.getElem_cons_zero, Act.put, List.setIfInBounds_toArray, List.set_cons_succ, List.set_cons_zero]
  refine wpAnyV_done (by kernel_rfl) (fun y hu => ?_) _
  have K0_12 := Lib.hid (below_chain K0_11.out hu)
  have K1_12 := Lib.hid (below_chain K1_11.out hu)
  have K2_12 := Lib.hid (below_chain K2_11.out hu)
  have K6_12 := Lib.hid (below_chain K6_11.out hu)
  have K7_12 := Lib.hid (below_chain K7_11.out hu)
  have K8_12 := Lib.hid (below_chain K8_11.out hu)
  have K9_12 := Lib.hid (below_chain K9_11.out hu)
  have Km_12 := Lib.hid (below_chain Km_11.out hu)
  have KM_12 := Lib.hid (below_chain KM_11.out hu)
  have Kn_12 := Lib.hid (below_chain Kn_11.out hu)
  have KN_12 := Lib.hid (hu)
  clear hu
  go_wp2_with fail
  have k10 : y.cell? ⟨g1, 10, none⟩ = some (.slice A c.data.length cp) := (C1.out.below K1_12.out C1.out.lt).cell 10 rfl
  have k11 : y.cell? ⟨g1, 11, none⟩ = some (.slice B c.names.length dp) := (C1.out.below K1_12.out C1.out.lt).cell 11 rfl
  have o10 : y.cell? ⟨g3, 10, none⟩ = some (.slice (some ⟨go, 0, none⟩) c.data.length capo) := (HC8.out.below K6_12.out HC8.out.lt).cell 10 rfl
  have o11 : y.cell? ⟨g3, 11, none⟩ = some (.slice Bo c.names.length dpo) := (HC8.out.below K6_12.out HC8.out.lt).cell 11 rfl
  refine wp_region_V [] (Below y.heap.size y) hmix ((Below.refl _ _).drew) ?_
  change wpAnyV _ _ _ _ _ _ _ _ _
  refine wpAnyV_take (i := 0) (v := .agg (bacCells c (.slice A c.data.length cp) (.slice B c.names.length dp)).toArray) 8 (kept_below y) rfl (by kernel_rfl) (by kernel_rfl) (fun _ _ _ h => h) (fun _ h => h) (DoesV.loadB (by rfl) 31 _ rfl g1 0 rfl (bacCells c (.slice A c.data.length cp) (.slice B c.names.length dp)) (fun w9 hS => At.whole ((C1.out.below K1_12.out C1.out.lt).below hS (C1.out.below K1_12.out C1.out.lt).lt)) _ Tryd.underlying31 rfl infoBack) ?_
  try simp only [List.getElem_toArray, List.getElem_cons_succ, List.getElem_cons_zero, Act.put, List.setIfInBounds_toArray, List.set_cons_succ, List.set_cons_zero]
  refine wpAnyV_take (i := 1) (v := .agg (bacCells d (.slice Ad d.data.length cpd) (.slice Bd d.names.length dpd)).toArray) 8 (kept_below y) rfl (by kernel_rfl) (by kernel_rfl) (fun _ _ _ h => h) (fun _ h => h) (DoesV.loadB (by rfl) 31 _ rfl g2 0 rfl (bacCells d (.slice Ad d.data.length cpd) (.slice Bd d.names.length dpd)) (fun w9 hS => At.whole ((C2.out.below K2_12.out C2.out.lt).below hS (C2.out.below K2_12.out C2.out.lt).lt)) _ Tryd.underlying31 rfl infoBack) ?_
  try simp only [List.getElem_toArray, List.getElem_cons_succ, List.getElem_cons_zero, Act.put, List.setIfInBounds_toArray, List.set_cons_succ, List.set_cons_zero]
  refine wpAnyV_take (i := 2) (v := .bool (sameB c d)) 8 (kept_below y) rfl (by kernel_rfl) (by kernel_rfl) (fun _ _ _ h => h) (fun _ h => h) (DoesV.calls 16 #[.agg (bacCells c (.slice A c.data.length cp) (.slice B c.names.length dp)).toArray, .agg (bacCells d (.slice Ad d.data.length cpd) (.slice Bd d.names.length dpd)).toArray] (by rfl) (fun w9 hS => by go_simp) (fun w9 hS => Same_v ((HCV.out.below K0_12.out).below hS) ((HDV.out.below K0_12.out).below hS))) ?_
  try simp only [List.getElem_toArray, List.getElem_cons_succ, List.getElem_cons_zero, Act.put, List.setIfInBounds_toArray, List.set_cons_succ, List.set_cons_zero]
  refine wpAnyV_take (i := 3) (v := .agg (bacCells c (.slice A c.data.length cp) (.slice B c.names.length dp)).toArray) 8 (kept_below y) rfl (by kernel_rfl) (by kernel_rfl) (fun _ _ _ h => h) (fun _ h => h) (DoesV.loadB (by rfl) 31 _ rfl g1 0 rfl (bacCells c (.slice A c.data.length cp) (.slice B c.names.length dp)) (fun w9 hS => At.whole ((C1.out.below K1_12.out C1.out.lt).below hS (C1.out.below K1_12.out C1.out.lt).lt)) _ Tryd.underlying31 rfl infoBack) ?_
  try simp only [List.getElem_toArray, List.getElem_cons_succ, List.getElem_cons_zero, Act.put, List.setIfInBounds_toArray, List.set_cons_succ, List.set_cons_zero]
  refine wpAnyV_take (i := 4) (v := .agg (bacCells d (.slice Ad d.data.length cpd) (.slice Bd d.names.length dpd)).toArray) 8 (kept_below y) rfl (by kernel_rfl) (by kernel_rfl) (fun _ _ _ h => h) (fun _ h => h) (DoesV.loadB (by rfl) 31 _ rfl g2 0 rfl (bacCells d (.slice Ad d.data.length cpd) (.slice Bd d.names.length dpd)) (fun w9 hS => At.whole ((C2.out.below K2_12.out C2.out.lt).below hS (C2.out.below K2_12.out C2.out.lt).lt)) _ Tryd.underlying31 rfl infoBack) ?_
  try simp only [List.getElem_toArray, List.getElem_cons_succ, List.getElem_cons_zero, Act.put, List.setIfInBounds_toArray, List.set_cons_succ, List.set_cons_zero]
  refine wpAnyV_take (i := 5) (v := .bool (sameB c d)) 8 (kept_below y) rfl (by kernel_rfl) (by kernel_rfl) (fun _ _ _ h => h) (fun _ h => h) (DoesV.calls 15 #[.agg (bacCells c (.slice A c.data.length cp) (.slice B c.names.length dp)).toArray, .agg (bacCells d (.slice Ad d.data.length cpd) (.slice Bd d.names.length dpd)).toArray] (by rfl) (fun w9 hS => by go_simp) (fun w9 hS => SameR_v ((HCV.out.below K0_12.out).below hS) ((HDV.out.below K0_12.out).below hS))) ?_
  try simp only [List.getElem_toArray, List.getElem_cons_succ, List.getElem_cons_zero, Act.put, List.setIfInBounds_toArray, List.set_cons_succ, List.set_cons_zero]
  refine wpAnyV_take (i := 6) (v := .bool true) 8 (kept_below y) rfl (by kernel_rfl) (by kernel_rfl) (fun _ _ _ h => h) (fun _ h => h) (DoesV.reads (by rfl) fun w9 hS => by go_simp) ?_
  try simp only [List.getElem_toArray, List.getElem_cons_succ, List.getElem_cons_zero, Act.put, List.setIfInBounds_toArray, List.set_cons_succ, List.set_cons_zero]
  refine wpAnyV_take (i := 7) (v := .bool true) 8 (kept_below y) rfl (by kernel_rfl) (by kernel_rfl) (fun _ _ _ h => h) (fun _ h => h) (DoesV.reads (by rfl) fun w9 hS => by go_simp) ?_
  try simp only [List.getElem_toArray, List.getElem_cons_succ, List.getElem_cons_zero, Act.put, List.setIfInBounds_toArray, List.set_cons_succ, List.set_cons_zero]
  refine wpAnyV_take (i := 8) (v := .agg (bacCells c (.slice A c.data.length cp) (.slice B c.names.length dp)).toArray) 8 (kept_below y) rfl (by kernel_rfl) (by kernel_rfl) (fun _ _ _ h => h) (fun _ h => h) (DoesV.loadB (by rfl) 31 _ rfl g1 0 rfl (bacCells c (.slice A c.data.length cp) (.slice B c.names.length dp)) (fun w9 hS => At.whole ((C1.out.below K1_12.out C1.out.lt).below hS (C1.out.below K1_12.out C1.out.lt).lt)) _ Tryd.underlying31 rfl infoBack) ?_
  try simp only [List.getElem_toArray, List.getElem_cons_succ, List.getElem_cons_zero, Act.put, List.setIfInBounds_toArray, List.set_cons_succ, List.set_cons_zero]
  refine wpAnyV_take (i := 9) (v := .agg (bacCells c (.slice (some ⟨go, 0, none⟩) c.data.length capo) (.slice Bo c.names.length dpo)).toArray) 8 (kept_below y) rfl (by kernel_rfl) (by kernel_rfl) (fun _ _ _ h => h) (fun _ h => h) (DoesV.loadB (by rfl) 31 _ rfl g3 0 rfl (bacCells c (.slice (some ⟨go, 0, none⟩) c.data.length capo) (.slice Bo c.names.length dpo)) (fun w9 hS => At.whole ((HC8.out.below K6_12.out HC8.out.lt).below hS (HC8.out.below K6_12.out HC8.out.lt).lt)) _ Tryd.underlying31 rfl infoBack) ?_
  try simp only [List.getElem_toArray, List.getElem_cons_succ, List.getElem_cons_zero, Act.put, List.setIfInBounds_toArray, List.set_cons_succ, List.set_cons_zero]
  refine wpAnyV_take (i := 10) (v := .bool true) 8 (kept_below y) rfl (by kernel_rfl) (by kernel_rfl) (fun _ _ _ h => h) (fun _ h => h) (DoesV.calls 16 #[.agg (bacCells c (.slice A c.data.length cp) (.slice B c.names.length dp)).toArray, .agg (bacCells c (.slice (some ⟨go, 0, none⟩) c.data.length capo) (.slice Bo c.names.length dpo)).toArray] (by rfl) (fun w9 hS => by go_simp) (fun w9 hS => (Same_v ((HCV.out.below K0_12.out).below hS) ((HCO.out.below K6_12.out).below hS)).mono fun e u h => ⟨by rw [h.1, sameB_self], h.2⟩)) ?_
  try simp only [List.getElem_toArray, List.getElem_cons_succ, List.getElem_cons_zero, Act.put, List.setIfInBounds_toArray, List.set_cons_succ, List.set_cons_zero]
  refine wpAnyV_take (i := 11) (v := .bool true) 8 (kept_below y) rfl (by kernel_rfl) (by kernel_rfl) (fun _ _ _ h => h) (fun _ h => h) (DoesV.reads (by rfl) fun w9 hS => by go_simp) ?_
  try simp only [List.getElem_toArray, List.getElem_cons_succ, List.getElem_cons_zero, Act.put, List.setIfInBounds_toArray, List.set_cons_succ, List.set_cons_zero]
  refine wpAnyV_take (i := 12) (v := .bool true) 8 (kept_below y) rfl (by kernel_rfl) (by kernel_rfl) (fun _ _ _ h => h) (fun _ h => h) (DoesV.reads (by rfl) fun w9 hS => by go_simp) ?_
  try simp only [List.getElem_toArray, List.getElem_cons_succ, List.getElem_cons_zero, Act.put, List.setIfInBounds_toArray, List.set_cons_succ, List.set_cons_zero]
  refine wpAnyV_take (i := 13) (v := .int .u8 (n3 : Int)) 8 (kept_below y) rfl (by kernel_rfl) (by kernel_rfl) (fun _ _ _ h => h) (fun _ h => h) (DoesV.reads (by rfl) fun w9 hS => by go_simp) ?_
  try simp only [List.getElem_toArray, List.getElem_cons_succ, List.getElem_cons_zero, Act.put, List.setIfInBounds_toArray, List.set_cons_succ, List.set_cons_zero]
  refine wpAnyV_take (i := 14) (v := .int .i64 (errV n3)) 8 (kept_below y) rfl (by kernel_rfl) (by kernel_rfl) (fun _ _ _ h => h) (fun _ h => h) (DoesV.calls 17 #[.int .u8 (n3 : Int)] (by rfl) (fun w9 hS => by go_simp) (fun w9 hS => Errno_v n3 HI3.out w9)) ?_
  try simp only [List.getElem_toArray, List.getElem_cons_succ, List.getElem_cons_zero, Act.put, List.setIfInBounds_toArray, List.set_cons_succ, List.set_cons_zero]
  refine wpAnyV_take (i := 15) (v := .int .u8 (n3 : Int)) 8 (kept_below y) rfl (by kernel_rfl) (by kernel_rfl) (fun _ _ _ h => h) (fun _ h => h) (DoesV.reads (by rfl) fun w9 hS => by go_simp) ?_
  try simp only [List.getElem_toArray, List.getElem_cons_succ, List.getElem_cons_zero, Act.put, List.setIfInBounds_toArray, List.set_cons_succ, List.set_cons_zero]
  refine wpAnyV_take (i := 16) (v := .int .i64 (errV n3)) 8 (kept_below y) rfl (by kernel_rfl) (by kernel_rfl) (fun _ _ _ h => h) (fun _ h => h) (DoesV.calls 18 #[.int .u8 (n3 : Int)] (by rfl) (fun w9 hS => by go_simp) (fun w9 hS => (ErrnoR n3 HI3.out w9).mono fun e u h => ⟨h.1, h.2 ▸ Below.refl _ _⟩)) ?_
  try simp only [List.getElem_toArray, List.getElem_cons_succ, List.getElem_cons_zero, Act.put, List.setIfInBounds_toArray, List.set_cons_succ, List.set_cons_zero]
  refine wpAnyV_take (i := 17) (v := .bool true) 8 (kept_below y) rfl (by kernel_rfl) (by kernel_rfl) (fun _ _ _ h => h) (fun _ h => h) (DoesV.reads (by rfl) fun w9 hS => by go_simp) ?_
  try simp only [List.getElem_toArray, List.getElem_cons_succ, List.getElem_cons_zero, Act.put, List.setIfInBounds_toArray, List.set_cons_succ, List.set_cons_zero]
  refine wpAnyV_take (i := 18) (v := .bool true) 8 (kept_below y) rfl (by kernel_rfl) (by kernel_rfl) (fun _ _ _ h => h) (fun _ h => h) (DoesV.reads (by rfl) fun w9 hS => by go_simp) ?_
  try simp only [List.getElem_toArray, List.getElem_cons_succ, List.getElem_cons_zero, Act.put, List.setIfInBounds_toArray, List.set_cons_succ, List.set_cons_zero]
  refine wpAnyV_take (i := 19) (v := .bool true) 8 (kept_below y) rfl (by kernel_rfl) (by kernel_rfl) (fun _ _ _ h => h) (fun _ h => h) (DoesV.reads (by rfl) fun w9 hS => by go_simp) ?_
  try simp only [List.getElem_toArray, List.getElem_cons_succ, List.getElem_cons_zero, Act.put, List.setIfInBounds_toArray, List.set_cons_succ, List.set_cons_zero]
  refine wpAnyV_take (i := 20) (v := .pointer (some ⟨g3, 10, none⟩)) 8 (kept_below y) rfl (by kernel_rfl) (by kernel_rfl) (fun _ _ _ h => h) (fun _ h => h) (DoesV.reads (by rfl) fun w9 hS => by go_simp) ?_
  try simp only [List.getElem_toArray, List.getElem_cons_succ, List.getElem_cons_zero, Act.put, List.setIfInBounds_toArray, List.set_cons_succ, List.set_cons_zero]
  refine wpAnyV_take (i := 21) (v := .slice (some ⟨go, 0, none⟩) c.data.length capo) 8 (kept_below y) rfl (by kernel_rfl) (by kernel_rfl) (fun _ _ _ h => h) (fun _ h => h) (DoesV.reads (by rfl) fun w9 hS => by have q0 := cell_b hS o10; go_simp) ?_
  try simp only [List.getElem_toArray, List.getElem_cons_succ, List.getElem_cons_zero, Act.put, List.setIfInBounds_toArray, List.set_cons_succ, List.set_cons_zero]
  refine wpAnyV_take (i := 22) (v := .pointer (some ⟨g1, 10, none⟩)) 8 (kept_below y) rfl (by kernel_rfl) (by kernel_rfl) (fun _ _ _ h => h) (fun _ h => h) (DoesV.reads (by rfl) fun w9 hS => by go_simp) ?_
  try simp only [List.getElem_toArray, List.getElem_cons_succ, List.getElem_cons_zero, Act.put, List.setIfInBounds_toArray, List.set_cons_succ, List.set_cons_zero]
  refine wpAnyV_take (i := 23) (v := .slice A c.data.length cp) 8 (kept_below y) rfl (by kernel_rfl) (by kernel_rfl) (fun _ _ _ h => h) (fun _ h => h) (DoesV.reads (by rfl) fun w9 hS => by have q0 := cell_b hS k10; go_simp) ?_
  try simp only [List.getElem_toArray, List.getElem_cons_succ, List.getElem_cons_zero, Act.put, List.setIfInBounds_toArray, List.set_cons_succ, List.set_cons_zero]
  refine wpAnyV_take (i := 24) (v := .bool true) 8 (kept_below y) rfl (by kernel_rfl) (by kernel_rfl) (fun _ _ _ h => h) (fun _ h => h) (DoesV.calls 19 #[.slice (some ⟨go, 0, none⟩) c.data.length capo, .slice A c.data.length cp] (by rfl) (fun w9 hS => by go_simp) (fun w9 hS => (Left_any c.data A cp go capo w9 HO.out.1 HO.out.2.1 ((HR8.out.below K6_12.out).below hS) (((HCV.out.1.below K0_12.out).below hS).rdB)).mono fun e u h => ⟨h.1, h.2 ▸ Below.refl _ _⟩)) ?_
  try simp only [List.getElem_toArray, List.getElem_cons_succ, List.getElem_cons_zero, Act.put, List.setIfInBounds_toArray, List.set_cons_succ, List.set_cons_zero]
  refine wpAnyV_take (i := 25) (v := .bool true) 8 (kept_below y) rfl (by kernel_rfl) (by kernel_rfl) (fun _ _ _ h => h) (fun _ h => h) (DoesV.reads (by rfl) fun w9 hS => by go_simp) ?_
  try simp only [List.getElem_toArray, List.getElem_cons_succ, List.getElem_cons_zero, Act.put, List.setIfInBounds_toArray, List.set_cons_succ, List.set_cons_zero]
  refine wpAnyV_take (i := 26) (v := .bool true) 8 (kept_below y) rfl (by kernel_rfl) (by kernel_rfl) (fun _ _ _ h => h) (fun _ h => h) (DoesV.reads (by rfl) fun w9 hS => by go_simp) ?_
  try simp only [List.getElem_toArray, List.getElem_cons_succ, List.getElem_cons_zero, Act.put, List.setIfInBounds_toArray, List.set_cons_succ, List.set_cons_zero]
  refine wpAnyV_take (i := 27) (v := .pointer (some ⟨g3, 11, none⟩)) 8 (kept_below y) rfl (by kernel_rfl) (by kernel_rfl) (fun _ _ _ h => h) (fun _ h => h) (DoesV.reads (by rfl) fun w9 hS => by go_simp) ?_
  try simp only [List.getElem_toArray, List.getElem_cons_succ, List.getElem_cons_zero, Act.put, List.setIfInBounds_toArray, List.set_cons_succ, List.set_cons_zero]
  refine wpAnyV_take (i := 28) (v := .slice Bo c.names.length dpo) 8 (kept_below y) rfl (by kernel_rfl) (by kernel_rfl) (fun _ _ _ h => h) (fun _ h => h) (DoesV.reads (by rfl) fun w9 hS => by have q0 := cell_b hS o11; go_simp) ?_
  try simp only [List.getElem_toArray, List.getElem_cons_succ, List.getElem_cons_zero, Act.put, List.setIfInBounds_toArray, List.set_cons_succ, List.set_cons_zero]
  refine wpAnyV_take (i := 29) (v := .pointer (some ⟨g1, 11, none⟩)) 8 (kept_below y) rfl (by kernel_rfl) (by kernel_rfl) (fun _ _ _ h => h) (fun _ h => h) (DoesV.reads (by rfl) fun w9 hS => by go_simp) ?_
  try simp only [List.getElem_toArray, List.getElem_cons_succ, List.getElem_cons_zero, Act.put, List.setIfInBounds_toArray, List.set_cons_succ, List.set_cons_zero]
  refine wpAnyV_take (i := 30) (v := .slice B c.names.length dp) 8 (kept_below y) rfl (by kernel_rfl) (by kernel_rfl) (fun _ _ _ h => h) (fun _ h => h) (DoesV.reads (by rfl) fun w9 hS => by have q0 := cell_b hS k11; go_simp) ?_
  try simp only [List.getElem_toArray, List.getElem_cons_succ, List.getElem_cons_zero, Act.put, List.setIfInBounds_toArray, List.set_cons_succ, List.set_cons_zero]
  refine wpAnyV_take (i := 31) (v := .bool true) 8 (kept_below y) rfl (by kernel_rfl) (by kernel_rfl) (fun _ _ _ h => h) (fun _ h => h) (DoesV.calls 20 #[.slice Bo c.names.length dpo, .slice B c.names.length dp] (by rfl) (fun w9 hS => by go_simp) (fun w9 hS => (Texts_len c.names c.names Bo B dpo dp w9 HCV.out.2.1.len HCV.out.2.1.len ((HCO.out.2.1.below K6_12.out).below hS).rds ((HCV.out.2.1.below K0_12.out).below hS).rds).mono fun e u h => ⟨by rw [h.1, show (LL c.names == LL c.names) = true from beq_self_eq_true _], h.2⟩)) ?_
  try simp only [List.getElem_toArray, List.getElem_cons_succ, List.getElem_cons_zero, Act.put, List.setIfInBounds_toArray, List.set_cons_succ, List.set_cons_zero]
  refine wpAnyV_take (i := 32) (v := .bool true) 8 (kept_below y) rfl (by kernel_rfl) (by kernel_rfl) (fun _ _ _ h => h) (fun _ h => h) (DoesV.reads (by rfl) fun w9 hS => by go_simp) ?_
  try simp only [List.getElem_toArray, List.getElem_cons_succ, List.getElem_cons_zero, Act.put, List.setIfInBounds_toArray, List.set_cons_succ, List.set_cons_zero]
  refine wpAnyV_take (i := 33) (v := .bool true) 8 (kept_below y) rfl (by kernel_rfl) (by kernel_rfl) (fun _ _ _ h => h) (fun _ h => h) (DoesV.reads (by rfl) fun w9 hS => by go_simp) ?_
  try simp only [List.getElem_toArray, List.getElem_cons_succ, List.getElem_cons_zero, Act.put, List.setIfInBounds_toArray, List.set_cons_succ, List.set_cons_zero]
  refine wpAnyV_take (i := 34) (v := .slice (some ⟨gb, 0, none⟩) l2.length capb) 8 (kept_below y) rfl (by kernel_rfl) (by kernel_rfl) (fun _ _ _ h => h) (fun _ h => h) (DoesV.reads (by rfl) fun w9 hS => by go_simp) ?_
  try simp only [List.getElem_toArray, List.getElem_cons_succ, List.getElem_cons_zero, Act.put, List.setIfInBounds_toArray, List.set_cons_succ, List.set_cons_zero]
  refine wpAnyV_take (i := 35) (v := .slice A2 l2.length c2) 8 (kept_below y) rfl (by kernel_rfl) (by kernel_rfl) (fun _ _ _ h => h) (fun _ h => h) (DoesV.reads (by rfl) fun w9 hS => by go_simp) ?_
  try simp only [List.getElem_toArray, List.getElem_cons_succ, List.getElem_cons_zero, Act.put, List.setIfInBounds_toArray, List.set_cons_succ, List.set_cons_zero]
  refine wpAnyV_take (i := 36) (v := .bool true) 8 (kept_below y) rfl (by kernel_rfl) (by kernel_rfl) (fun _ _ _ h => h) (fun _ h => h) (DoesV.calls 19 #[.slice (some ⟨gb, 0, none⟩) l2.length capb, .slice A2 l2.length c2] (by rfl) (fun w9 hS => by go_simp) (fun w9 hS => (Left_any l2 A2 c2 gb capb w9 HB9.out.1 HB9.out.2 ((HRB.out.below K7_12.out).below hS) (((HV2.out.below K0_12.out).below hS).rdB)).mono fun e u h => ⟨h.1, h.2 ▸ Below.refl _ _⟩)) ?_
  try simp only [List.getElem_toArray, List.getElem_cons_succ, List.getElem_cons_zero, Act.put, List.setIfInBounds_toArray, List.set_cons_succ, List.set_cons_zero]
  refine wpAnyV_take (i := 37) (v := .bool true) 8 (kept_below y) rfl (by kernel_rfl) (by kernel_rfl) (fun _ _ _ h => h) (fun _ h => h) (DoesV.reads (by rfl) fun w9 hS => by go_simp) ?_
  try simp only [List.getElem_toArray, List.getElem_cons_succ, List.getElem_cons_zero, Act.put, List.setIfInBounds_toArray, List.set_cons_succ, List.set_cons_zero]
  refine wpAnyV_take (i := 38) (v := .bool true) 8 (kept_below y) rfl (by kernel_rfl) (by kernel_rfl) (fun _ _ _ h => h) (fun _ h => h) (DoesV.reads (by rfl) fun w9 hS => by go_simp) ?_
  try simp only [List.getElem_toArray, List.getElem_cons_succ, List.getElem_cons_zero, Act.put, List.setIfInBounds_toArray, List.set_cons_succ, List.set_cons_zero]
  refine wpAnyV_take (i := 39) (v := .bool true) 8 (kept_below y) rfl (by kernel_rfl) (by kernel_rfl) (fun _ _ _ h => h) (fun _ h => h) (DoesV.calls 6 #[] (by rfl) (fun w9 hS => by go_simp) (fun w9 hS => lives11_v w9 ((HT.out.below K0_12.out).below hS))) ?_
  try simp only [List.getElem_toArray, List.getElem_cons_succ, List.getElem_cons_zero, Act.put, List.setIfInBounds_toArray, List.set_cons_succ, List.set_cons_zero]
  refine wpAnyV_take (i := 40) (v := .bool true) 8 (kept_below y) rfl (by kernel_rfl) (by kernel_rfl) (fun _ _ _ h => h) (fun _ h => h) (DoesV.reads (by rfl) fun w9 hS => by go_simp) ?_
  try simp only [List.getElem_toArray, List.getElem_cons_succ, List.getElem_cons_zero, Act.put, List.setIfInBounds_toArray, List.set_cons_succ, List.set_cons_zero]
  refine wpAnyV_take (i := 41) (v := .bool true) 8 (kept_below y) rfl (by kernel_rfl) (by kernel_rfl) (fun _ _ _ h => h) (fun _ h => h) (DoesV.reads (by rfl) fun w9 hS => by go_simp) ?_
  try simp only [List.getElem_toArray, List.getElem_cons_succ, List.getElem_cons_zero, Act.put, List.setIfInBounds_toArray, List.set_cons_succ, List.set_cons_zero]
  refine wpAnyV_done (by kernel_rfl) (fun x hu => ?_) _
  have K0_13 := Lib.hid (below_chain K0_12.out hu)
  have K1_13 := Lib.hid (below_chain K1_12.out hu)
  have K2_13 := Lib.hid (below_chain K2_12.out hu)
  have K6_13 := Lib.hid (below_chain K6_12.out hu)
  have K7_13 := Lib.hid (below_chain K7_12.out hu)
  have K8_13 := Lib.hid (below_chain K8_12.out hu)
  have K9_13 := Lib.hid (below_chain K9_12.out hu)
  have Km_13 := Lib.hid (below_chain Km_12.out hu)
  have KM_13 := Lib.hid (below_chain KM_12.out hu)
  have Kn_13 := Lib.hid (below_chain Kn_12.out hu)
  have KN_13 := Lib.hid (below_chain KN_12.out hu)
  clear hu
  go_wp2_with fail
  go_ret
  exact ⟨rfl, K0_13.out⟩
theorem tells11_walk (c : BackX) (va ua : Value) (d : BackX) (vd ud : Value) (l2 : List UInt8) (A2 : Option Addr) (c2 n3 : Nat) (w : World) (hT : Tabs w) (hc : BacV w (· < w.heap.size) c va ua) (hcl : c.data.length ≤ 140737488351232) (hd : BacV w (· < w.heap.size) d vd ud) (hdl : d.data.length ≤ 140737488351232)
    (hl2 : l2.length ≤ 140737488351232) (rd2 : Rd w A2 l2) (hlc2 : l2.length ≤ c2) (hcm2 : c2 ≤ maxLen) (nil2 : A2 = none → l2 = [] ∧ c2 = 0) (hi3 : n3 < 256) :
    Calls Tryd.prog 3 #[.agg (bacCells c va ua).toArray, .agg (bacCells d vd ud).toArray, .slice A2 l2.length c2, .int .u8 (n3 : Int)] w fun e w' => e = .returned (.bool true) ∧ Below w.heap.size w w' := by
  by_cases h1 : 100 < c.names.length ∨ 100 < d.names.length
  · exact tells11_many c va ua d vd ud l2 A2 c2 n3 w hT hc hcl hd hdl hl2 rd2 hlc2 hcm2 nil2 hi3 h1
  · exact tells11_few c va ua d vd ud l2 A2 c2 n3 w hT hc hcl hd hdl hl2 rd2 hlc2 hcm2 nil2 hi3 (by omega) (by omega)

end Go.Proofs.YtboalmmpcfiicaaDoor
