/- The reference: the reply that bytes are. -/
import Derived.Test.YtboalmmpcfiicaaDoorAnyX
import Derived.Test.YtboalmmpcfiicaaDoorBac8
import Derived.Test.YtboalmmpcfiicaaDoorBac9
import Derived.Test.YtboalmmpcfiicaaDoorXdQ3
namespace Go.Proofs.YtboalmmpcfiicaaDoor
open Go.RowKit Go.Shelf
set_option linter.unusedVariables false
set_option maxRecDepth 100000
set_option linter.unusedSimpArgs false

theorem numR_bad0 (s : RS) (k : Nat) (h : (numR s k).2.err ≠ 0) : (numR s k).1 = 0 := by
  unfold numR at h ⊢
  split at h
  · rw [if_pos (by assumption)]
  · rw [if_neg (by assumption)]
    split at h
    · rw [if_pos (by assumption)]
    · exact absurd rfl h
theorem bytesR_bad (s : RS) (M : Int) (h : s.err ≠ 0) : bytesR s M = ([], s) := by
  rw [bytesR_is, numR_bad s 4 h]
  unfold bytesN
  dsimp only
  rw [if_pos h]
theorem namesG_bad (s : RS) (k : Nat) (h : (namesG k s).2.err ≠ 0) : ∀ j, (namesG (k + j) s).2 = (namesG k s).2
  | 0 => rfl
  | j + 1 => by
    show (bytesR (namesG (k + j) s).2 4096).2 = _
    rw [namesG_bad s k h j, bytesR_bad _ _ h]
theorem getB_eq {l : List UInt8} (h : ¬ 4096 < l.length) {hd : BackX} {s12 s13 s14 : RS} {n : Nat} {ns : List ByteArray} (e1 : headG ⟨l, 0, 0⟩ = (hd, s12)) (e2 : numR s12 4 = ((n : Int), s13)) (e3 : namesG n s13 = (ns, s14)) :
    getB l = if 32 < n then (bacZero, 3) else if endR s14 ≠ 0 then (bacZero, endR s14) else if mayB { hd with names := ns } = false then (bacZero, 5) else ({ hd with names := ns }, 0) := by
  rw [getB_is l h]
  unfold getBP
  rw [e1]
  dsimp only
  rw [e2]
  dsimp only
  rw [Int.toNat_natCast, e3]
/-- the reference's reader beside a variable that is being filled, since w0 -/
structure GetH (t : TypeId) (w0 : World) (rb g : Nat) (F : Nat → Prop) (s : RS) (cs : Array Value) (w : World) : Prop where
  rd : QAt w rb s F
  cs : Cs w g t cs
  tn : Turn w0 w (· = rb)
  new : w0.heap.size ≤ g
  old : rb < w0.heap.size
  fs : ∀ k, F k → k < w0.heap.size
theorem GetH.told {t : TypeId} {w0 w w' : World} {rb g : Nat} {F : Nat → Prop} {s s' : RS} {cs : Array Value} {v : Value} {e : Ending} (h : GetH t w0 rb g F s cs w) (k : ToldQ rb s' F v w e w') : GetH t w0 rb g F s' cs w' :=
  ⟨k.2.1, h.cs.turn k.2.2 (by have := h.new; have := h.old; omega), h.tn.trans k.2.2 fun _ _ h => h, h.new, h.old, h.fs⟩
theorem GetH.put {t : TypeId} {w0 w w' : World} {rb g : Nat} {F : Nat → Prop} {s : RS} {cs cs' : Array Value} (h : GetH t w0 rb g F s cs w) (hc : Cs w' g t cs') (ht : Turn w w' (· = g)) : GetH t w0 rb g F s cs' w' :=
  ⟨h.rd.turn ht (by have := h.new; have := h.old; omega) (fun k hk e => by have := h.fs k hk; have := h.new; omega), hc, h.tn.trans ht fun k hk e => by have := h.new; omega, h.new, h.old, h.fs⟩
/-- what the reference's Get answers -/
def GetAnsR (x : BackX × Int) (w : World) (e : Ending) (w' : World) : Prop :=
  ∃ v u, e = .returned (.tuple #[.agg (bacCells x.1 v u).toArray, .int .i64 x.2]) ∧ BacV w' (w.heap.size ≤ ·) x.1 v u ∧ Below w.heap.size w w'
theorem ansZR {w w' : World} (x : Int) (hb : Below w.heap.size w w') : GetAnsR (bacZero, x) w (.returned (.tuple #[.agg (bacCells bacZero (.slice none 0 0) (.slice none 0 0)).toArray, .int .i64 x])) w' :=
  ⟨_, _, rfl, bacZ_v _ _, hb⟩
/-- a round of the reference's loop over the names, since W -/
structure QNam (W : World) (qb g5 : Nat) (F : Nat → Prop) (c : BackX) (v : Value) (s13 : RS) (k : Nat) (u : Value) (wr : World) : Prop where
  rd : QAt wr qb (namesG k s13).2 F
  cs : Cs wr g5 31 (bacCells { c with names := (namesG k s13).1 } v u).toArray
  own : wr.ownsRow W.heap.size 9 1 u (namesG k s13).1.length (txsOf (namesG k s13).1)
  tn : Turn W wr (fun k => k = qb ∨ k = g5)
theorem QNam.below {W : World} {qb g5 : Nat} {F : Nat → Prop} {c : BackX} {v : Value} {s13 : RS} {k : Nat} {u : Value} {wr w' : World} (h : QNam W qb g5 F c v s13 k u wr) (hb : Below wr.heap.size wr w') : QNam W qb g5 F c v s13 k u w' :=
  ⟨h.rd.below hb, h.cs.below hb h.cs.lt, ownsRow_turn' h.own (Turn.of_below hb fun _ => False) (fun _ _ h => h), h.tn.trans (Turn.of_below hb fun _ => False) fun _ _ h => h.elim⟩
theorem kept_csQ (g : Nat) (cs : Array Value) : Kept (fun u => Cs u g 31 cs) := fun u u' h hb => h.below hb h.lt
theorem kept_qnam (W : World) (qb g5 : Nat) (F : Nat → Prop) (c : BackX) (v : Value) (s13 : RS) (k : Nat) (u : Value) : Kept (QNam W qb g5 F c v s13 k u) := fun a b h hb => h.below hb
/-- behind the call of a round -/
structure QNam2 (W : World) (qb g5 : Nat) (F : Nat → Prop) (c : BackX) (v : Value) (s13 s' : RS) (k : Nat) (u : Value) (x : Value) (l : List UInt8) (wr : World) : Prop where
  rd : QAt wr qb s' F
  cs : Cs wr g5 31 (bacCells { c with names := (namesG k s13).1 } v u).toArray
  own : wr.ownsRow W.heap.size 9 1 u (namesG k s13).1.length (txsOf (namesG k s13).1)
  tn : Turn W wr (fun k => k = qb ∨ k = g5)
  bs : BsV wr (fun _ => True) x l
theorem kept_qnam2 (W : World) (qb g5 : Nat) (F : Nat → Prop) (c : BackX) (v : Value) (s13 s' : RS) (k : Nat) (u x : Value) (l : List UInt8) : Kept (QNam2 W qb g5 F c v s13 s' k u x l) := fun a b h hb =>
  ⟨h.rd.below hb, h.cs.below hb h.cs.lt, ownsRow_turn' h.own (Turn.of_below hb fun _ => False) (fun _ _ h => h), h.tn.trans (Turn.of_below hb fun _ => False) (fun _ _ h => h.elim), h.bs.below hb⟩
/-- a whole variable, loaded by an operation that bears a guard and is wanted -/
theorem wpList_loadG {P : Program} {w : World} {ops : Array Oper} {rest : List Oper} {o : Oper} {a : Act} {Q : Exit → Act → World → Prop} (hw : Region.wanted o (yielded ops a.tmps) = true) (t : TypeId) (x : Operand) (ho : o.op = .load t x) (g : Nat) (hx : a.eval x = .pointer (some ⟨g, 0, none⟩)) (cs : List Value) (hg : Cs w g t cs.toArray) (d : TypeDesc) (hu : P.underlying t = some d)
    (hd : (match d with | .struct _ | .array _ _ => true | _ => false) = true) (hi : (P.info? t).map (·.size) = some cs.length) (h : wpList P ops Q rest (a.put o.dst (.agg cs.toArray)) w) : wpList P ops Q (o :: rest) a w :=
  BigFrame.wpList_want hw fun K hK => wp_load_agg t x ho g 0 hx cs (At.whole hg) d hu hd hi (hK _ _ h)
/-- behind the append of a round -/
structure QNam3 (W : World) (qb g5 : Nat) (F : Nat → Prop) (c : BackX) (v : Value) (s13 s' : RS) (k : Nat) (u u' : Value) (t : ByteArray) (wr : World) : Prop where
  rd : QAt wr qb s' F
  cs : Cs wr g5 31 (bacCells { c with names := (namesG k s13).1 } v u).toArray
  own : wr.ownsRow W.heap.size 9 1 u' ((namesG k s13).1 ++ [t]).length (txsOf ((namesG k s13).1 ++ [t]))
  tn : Turn W wr (fun k => k = qb ∨ k = g5)
theorem kept_qnam3 (W : World) (qb g5 : Nat) (F : Nat → Prop) (c : BackX) (v : Value) (s13 s' : RS) (k : Nat) (u u' : Value) (t : ByteArray) : Kept (QNam3 W qb g5 F c v s13 s' k u u' t) := fun a b h hb =>
  ⟨h.rd.below hb, h.cs.below hb h.cs.lt, ownsRow_turn' h.own (Turn.of_below hb fun _ => False) (fun _ _ h => h), h.tn.trans (Turn.of_below hb fun _ => False) (fun _ _ h => h.elim)⟩
/-- one text behind a list of one's own, as a step of a region that draws its order -/
theorem wp_append_tx {w : World} {o : Oper} {a : Act} {K : Act → World → Prop} {Q : Exit → Act → World → Prop} (s x : Operand)
    (ho : o.op = .call { callee := .builtin .append, args := #[s, x], argTypes := #[29, 29] }) (base : Nat) (v : Value) (l : List ByteArray) (hs : a.eval s = v) (hown : w.ownsRow base 9 1 v l.length (txsOf l))
    (g : Nat) (t : ByteArray) (hx : a.eval x = .slice (some ⟨g, 0, none⟩) 1 1) (hc : w.cell? ⟨g, 0, none⟩ = some (.string t)) (hb : l.length ≤ 1048576) (hbase : base ≤ w.heap.size)
    (h : ∀ v' w', w'.ownsRow base 9 1 v' (l ++ [t]).length (txsOf (l ++ [t])) → w.grownBy w' v.ownBlock → K (a.put o.dst v') w') : o.wp Tryd.prog a w K Q := by
  obtain ⟨i0, hi, hz0, hz1, hz2⟩ := info_parts infoTx
  obtain ⟨v', w', hrun, r1, r2, -⟩ := run_append_own_at (P := Tryd.prog) w base 29 o.type 9 i0 (.string ⟨#[]⟩) 1 16 Tryd.underlying29 hi hz0 hz1 hz2 rfl (by decide) v l.length (txsOf l) hown ⟨g, 0, none⟩ 1 1 (txsOf [t]) rfl (fun j u hu => by
    have hj : j = 0 := by
      have := (List.getElem?_eq_some_iff.1 hu).1
      simp [txsOf] at this
      exact this
    subst hj
    simp only [txsOf, List.map_cons, List.map_nil, List.getElem?_cons_zero, Option.some.injEq] at hu
    subst hu
    exact hc) (txsOf_one _) (by simp only [maxLen]; omega) (by omega) hbase
  rw [← txsOf_append] at r1
  unfold Oper.wp execOp
  simp only [ho, resolve, invoke, builtin, Sem.run_bind, Sem.run_pure, Result.andThen_ok, List.map_toArray, List.map_cons, List.map_nil, hs, hx, hrun]
  exact h v' w' (by rw [List.length_append]; exact r1) r2
set_option maxHeartbeats 32000000 in
theorem GetR_v (l : List UInt8) (A : Option Addr) (cp : Nat) (w : World) (hl : l.length ≤ 140737488355328) (hr : Rd w A l) (hlc : l.length ≤ cp) (hcm : cp ≤ maxLen) (hA : A = none → l = [] ∧ cp = 0) :
    Calls Tryd.prog 11 #[.slice A l.length cp] w fun e w' => GetAnsR (getB l) w e w' := by
  by_cases h : 4096 < l.length
  · have hx : getB l = (bacZero, 3) := by unfold getB; rw [if_pos h]
    rw [hx]
    have h' : 4096 < (l.length : Int) := by omega
    clear hx hr hA hl hlc hcm
    go_enter Tryd.func11, Tryd.ntmps11
    go_wp2_with (first
      | ((with_reducible show wpList _ _ _ _ _ w); refine wpList_allocS rfl 31 rfl zc backZero ?_; intro g1 w1 hk1 hb1 hg1; go_frame; have C1 := Lib.hid hk1; have B1 := Lib.hid hb1; have G1 := Lib.hid hg1; clear hk1 hb1 hg1)
      | ((with_reducible show wpList _ _ _ _ _ w1); refine wpList_storeS rfl 31 _ _ rfl g1 rfl zc zc rfl C1.out rfl (bac_one rfl rfl) infoBack ?_; intro w2 hk ht; go_frame; have C2 := Lib.hid hk; have B2 := Lib.hid (below_turn B1.out ht B1.out.size G1.out); clear hk ht)
      | fail)
    exact bac_end2 (cs := zc) rfl rfl C2.out rfl rfl (ansZR 3 B2.out)
  have h' : ¬ 4096 < (l.length : Int) := by omega
  have HN := Lib.hid h
  have HLEN := Lib.hid hl
  have HBV := Lib.hid (show BsV w (· < w.heap.size) (.slice A l.length cp) l from ⟨A, cp, rfl, hr.f fun b off _ hb => hb, hA, hlc, hcm⟩)
  have hmix : Tryd.prog.follows .mixedOrders = true := by kernel_rfl
  obtain ⟨s0, hs0⟩ : ∃ s0 : RS, s0 = ⟨l, 0, 0⟩ := ⟨_, rfl⟩
  have HS0 := Lib.hid hs0
  clear h hl hr hlc hcm hA hs0
  go_enter Tryd.func11, Tryd.ntmps11
  go_wp2_with (first
    | ((with_reducible show wpList _ _ _ _ _ w); refine wpList_allocS rfl 31 rfl zc backZero ?_; intro g1 w1 hk1 hb1 hg1; go_frame; have C1 := Lib.hid hk1; have B1 := Lib.hid hb1; have G1 := Lib.hid hg1; clear hk1 hb1 hg1)
    | ((with_reducible show wpList _ _ _ _ _ w1); refine wpList_boxS rfl 68 _ rfl [.slice A l.length cp, .int .i64 0, .int .i64 0] rfl ?_; intro qb w2 hk2 hb2 hg2; go_frame; have Q2 := Lib.hid (show QAt w2 qb s0 (· < w.heap.size) from ⟨_, (by rw [HS0.out]; exact hk2), (by rw [HS0.out]; exact (HBV.out.below B1.out).below hb2), (by have := B1.out.size; show ¬ qb < w.heap.size; omega), (by rw [HS0.out]; exact Nat.zero_le _)⟩); have C2 := Lib.hid (C1.out.below hb2 C1.out.lt); have B2 := Lib.hid (below_chain B1.out hb2); have NQ := Lib.hid (show g1 < qb ∧ w.heap.size ≤ qb by have := C1.out.lt; have := B1.out.size; omega); clear hk2 hb2 hg2)
    | ((with_reducible show wpList _ _ _ _ _ w2); refine wpList_allocS rfl 31 rfl zc backZero ?_; intro g5 w3 hk3 hb3 hg3; go_frame; have K0 := Lib.hid (show GetH 31 w2 qb g5 (· < w.heap.size) s0 zc.toArray w3 from ⟨Q2.out.below hb3, hk3, Turn.of_below hb3 _, hg3, Q2.out.lt, fun k hk => Nat.lt_of_lt_of_le hk B2.out.size⟩); have G5 := Lib.hid hg3; clear hk3 hb3 hg3)
    | fail)
  obtain ⟨n1, s1, he1, hb1, ha1⟩ := num4_e s0
  have hn := Number_q K0.out.rd
  rw [he1] at hn
  dsimp only at hn
  have E1 := Lib.hid he1
  have A1 := Lib.hid ha1
  have M1 := Lib.hid hb1
  have i1 : (n1 : Int) ≤ 4294967295 := by omega
  clear he1 ha1 hb1
  refine hn.mono ?_
  clear hn
  rintro e w12 hq
  have K1 := Lib.hid (K0.out.told hq)
  obtain ⟨rfl, -⟩ := hq
  clear K0
  go_wp2_with fail
  obtain ⟨n2, s2, he2, hb2, ha2⟩ := num4_e s1
  have hn := Number_q K1.out.rd
  rw [he2] at hn
  dsimp only at hn
  have E2 := Lib.hid he2
  have A2 := Lib.hid ha2
  have M2 := Lib.hid hb2
  clear he2 ha2 hb2
  refine hn.mono ?_
  clear hn
  rintro e w14 hq
  have D2 := Lib.hid (K1.out.told hq)
  obtain ⟨rfl, -⟩ := hq
  clear K1
  go_wp2_with (first
    | ((with_reducible show wpList _ _ _ _ _ w14); refine wpList_store1 rfl 22 _ _ rfl g5 1 rfl (.int .u32 (n2 : Int)) rfl rfl infoU32 31 _ D2.out.cs (bac_lt _ _ _ (by decide)) ?_; intro w15 hk ht; go_frame; have K2 := Lib.hid (D2.out.put (cs' := (bacCells { bacZero with inc := n2 } (.slice none 0 0) (.slice none 0 0)).toArray) hk ht); clear hk ht D2)
    | fail)
  obtain ⟨n3, s3, he3, hb3, ha3⟩ := num8_e s2
  have hn := Great_q K2.out.rd
  rw [he3] at hn
  dsimp only at hn
  have E3 := Lib.hid he3
  have A3 := Lib.hid ha3
  have M3 := Lib.hid hb3
  clear he3 ha3 hb3
  refine hn.mono ?_
  clear hn
  rintro e w16 hq
  have D3 := Lib.hid (K2.out.told hq)
  obtain ⟨rfl, -⟩ := hq
  clear K2
  go_wp2_with (first
    | ((with_reducible show wpList _ _ _ _ _ w16); refine wpList_store1 rfl 23 _ _ rfl g5 2 rfl (.int .u64 (n3 : Int)) rfl rfl infoU64 31 _ D3.out.cs (bac_lt _ _ _ (by decide)) ?_; intro w17 hk ht; go_frame; have K3 := Lib.hid (D3.out.put (cs' := (bacCells { bacZero with inc := n2, seq := n3 } (.slice none 0 0) (.slice none 0 0)).toArray) hk ht); clear hk ht D3)
    | fail)
  obtain ⟨n4, s4, he4, hb4, ha4⟩ := num4_e s3
  have hn := Number_q K3.out.rd
  rw [he4] at hn
  dsimp only at hn
  have E4 := Lib.hid he4
  have A4 := Lib.hid ha4
  have M4 := Lib.hid hb4
  have i4 : (n4 : Int) ≤ 4294967295 := by omega
  clear he4 ha4 hb4
  refine hn.mono ?_
  clear hn
  rintro e w18 hq
  have K4 := Lib.hid (K3.out.told hq)
  obtain ⟨rfl, -⟩ := hq
  clear K3
  go_wp2_with fail
  obtain ⟨n5, s5, he5, hb5, ha5⟩ := num4_e s4
  have hn := Number_q K4.out.rd
  rw [he5] at hn
  dsimp only at hn
  have E5 := Lib.hid he5
  have A5s := Lib.hid ha5
  have M5 := Lib.hid hb5
  clear he5 ha5 hb5
  refine hn.mono ?_
  clear hn
  rintro e w20 hq
  have D5 := Lib.hid (K4.out.told hq)
  obtain ⟨rfl, -⟩ := hq
  clear K4
  go_wp2_with (first
    | ((with_reducible show wpList _ _ _ _ _ w20); refine wpList_store1 rfl 22 _ _ rfl g5 12 rfl (.int .u32 (n5 : Int)) rfl rfl infoU32 31 _ D5.out.cs (bac_lt _ _ _ (by decide)) ?_; intro w21 hk ht; go_frame; have K5 := Lib.hid (D5.out.put (cs' := (bacCells { bacZero with inc := n2, seq := n3, boot := n5 } (.slice none 0 0) (.slice none 0 0)).toArray) hk ht); clear hk ht D5)
    | fail)
  obtain ⟨n6, s6, he6, hb6, ha6⟩ := num4_e s5
  have hn := Number_q K5.out.rd
  rw [he6] at hn
  dsimp only at hn
  have E6 := Lib.hid he6
  have A6 := Lib.hid ha6
  have M6 := Lib.hid hb6
  clear he6 ha6 hb6
  refine hn.mono ?_
  clear hn
  rintro e w22 hq
  have D6 := Lib.hid (K5.out.told hq)
  obtain ⟨rfl, -⟩ := hq
  clear K5
  go_wp2_with (first
    | ((with_reducible show wpList _ _ _ _ _ w22); refine wpList_store1 rfl 22 _ _ rfl g5 4 rfl (.int .u32 (n6 : Int)) rfl rfl infoU32 31 _ D6.out.cs (bac_lt _ _ _ (by decide)) ?_; intro w23 hk ht; go_frame; have K6 := Lib.hid (D6.out.put (cs' := (bacCells { bacZero with inc := n2, seq := n3, boot := n5, ino := n6 } (.slice none 0 0) (.slice none 0 0)).toArray) hk ht); clear hk ht D6)
    | fail)
  obtain ⟨n7, s7, he7, hb7, ha7⟩ := num4_e s6
  have hn := Number_q K6.out.rd
  rw [he7] at hn
  dsimp only at hn
  have E7 := Lib.hid he7
  have A7 := Lib.hid ha7
  have M7 := Lib.hid hb7
  clear he7 ha7 hb7
  refine hn.mono ?_
  clear hn
  rintro e w24 hq
  have D7 := Lib.hid (K6.out.told hq)
  obtain ⟨rfl, -⟩ := hq
  clear K6
  go_wp2_with (first
    | ((with_reducible show wpList _ _ _ _ _ w24); refine wpList_store1 rfl 22 _ _ rfl g5 5 rfl (.int .u32 (n7 : Int)) rfl rfl infoU32 31 _ D7.out.cs (bac_lt _ _ _ (by decide)) ?_; intro w25 hk ht; go_frame; have K7 := Lib.hid (D7.out.put (cs' := (bacCells { bacZero with inc := n2, seq := n3, boot := n5, ino := n6, gen := n7 } (.slice none 0 0) (.slice none 0 0)).toArray) hk ht); clear hk ht D7)
    | fail)
  obtain ⟨n8, s8, he8, ha8⟩ := truth_e s7
  have hn := Truth_q K7.out.rd
  rw [he8] at hn
  dsimp only at hn
  have E8 := Lib.hid he8
  have A8 := Lib.hid ha8
  clear he8 ha8
  refine hn.mono ?_
  clear hn
  rintro e w26 hq
  have D8 := Lib.hid (K7.out.told hq)
  obtain ⟨rfl, -⟩ := hq
  clear K7
  go_wp2_with (first
    | ((with_reducible show wpList _ _ _ _ _ w26); refine wpList_store1 rfl 4 _ _ rfl g5 6 rfl (.bool n8) rfl rfl infoBool 31 _ D8.out.cs (bac_lt _ _ _ (by decide)) ?_; intro w27 hk ht; go_frame; have K8 := Lib.hid (D8.out.put (cs' := (bacCells { bacZero with inc := n2, seq := n3, boot := n5, ino := n6, gen := n7, dir := n8 } (.slice none 0 0) (.slice none 0 0)).toArray) hk ht); clear hk ht D8)
    | fail)
  obtain ⟨n9, s9, he9, hb9, ha9⟩ := num4_e s8
  have hn := Number_q K8.out.rd
  rw [he9] at hn
  dsimp only at hn
  have E9 := Lib.hid he9
  have A9 := Lib.hid ha9
  have M9 := Lib.hid hb9
  clear he9 ha9 hb9
  refine hn.mono ?_
  clear hn
  rintro e w28 hq
  have D9 := Lib.hid (K8.out.told hq)
  obtain ⟨rfl, -⟩ := hq
  clear K8
  go_wp2_with (first
    | ((with_reducible show wpList _ _ _ _ _ w28); refine wpList_store1 rfl 22 _ _ rfl g5 7 rfl (.int .u32 (n9 : Int)) rfl rfl infoU32 31 _ D9.out.cs (bac_lt _ _ _ (by decide)) ?_; intro w29 hk ht; go_frame; have K9 := Lib.hid (D9.out.put (cs' := (bacCells { bacZero with inc := n2, seq := n3, boot := n5, ino := n6, gen := n7, dir := n8, size := n9 } (.slice none 0 0) (.slice none 0 0)).toArray) hk ht); clear hk ht D9)
    | fail)
  obtain ⟨n10, s10, he10, hb10, ha10⟩ := num8_e s9
  have hn := Great_q K9.out.rd
  rw [he10] at hn
  dsimp only at hn
  have E10 := Lib.hid he10
  have A10 := Lib.hid ha10
  have M10 := Lib.hid hb10
  clear he10 ha10 hb10
  refine hn.mono ?_
  clear hn
  rintro e w30 hq
  have D10 := Lib.hid (K9.out.told hq)
  obtain ⟨rfl, -⟩ := hq
  clear K9
  go_wp2_with (first
    | ((with_reducible show wpList _ _ _ _ _ w30); refine wpList_store1 rfl 23 _ _ rfl g5 8 rfl (.int .u64 (n10 : Int)) rfl rfl infoU64 31 _ D10.out.cs (bac_lt _ _ _ (by decide)) ?_; intro w31 hk ht; go_frame; have K10 := Lib.hid (D10.out.put (cs' := (bacCells { bacZero with inc := n2, seq := n3, boot := n5, ino := n6, gen := n7, dir := n8, size := n9, change := n10 } (.slice none 0 0) (.slice none 0 0)).toArray) hk ht); clear hk ht D10)
    | fail)
  obtain ⟨n11, s11, he11, hb11, ha11⟩ := num8_e s10
  have hn := Great_q K10.out.rd
  rw [he11] at hn
  dsimp only at hn
  have E11 := Lib.hid he11
  have A11 := Lib.hid ha11
  have M11 := Lib.hid hb11
  clear he11 ha11 hb11
  refine hn.mono ?_
  clear hn
  rintro e w32 hq
  have D11 := Lib.hid (K10.out.told hq)
  obtain ⟨rfl, -⟩ := hq
  clear K10
  go_wp2_with (first
    | ((with_reducible show wpList _ _ _ _ _ w32); refine wpList_store1 rfl 23 _ _ rfl g5 9 rfl (.int .u64 (n11 : Int)) rfl rfl infoU64 31 _ D11.out.cs (bac_lt _ _ _ (by decide)) ?_; intro w33 hk ht; go_frame; have K11 := Lib.hid (D11.out.put (cs' := (bacCells { bacZero with inc := n2, seq := n3, boot := n5, ino := n6, gen := n7, dir := n8, size := n9, change := n10, before := n11 } (.slice none 0 0) (.slice none 0 0)).toArray) hk ht); clear hk ht D11)
    | fail)
  obtain ⟨l12, s12, he12, ha12⟩ := bytes_e s11 4096
  have hn := Bytes_q 4096 (by decide) (by decide) (by rw [A11.out, A10.out, A9.out, A8.out, A7.out, A6.out, A5s.out, A4.out, A3.out, A2.out, A1.out, HS0.out]; exact HLEN.out) K11.out.rd
  rw [he12] at hn
  dsimp only at hn
  have E12 := Lib.hid he12
  have A12 := Lib.hid ha12
  clear he12 ha12
  refine hn.mono ?_
  clear hn
  rintro e w34 ⟨v12, rfl, hv12, hrd12, ht12⟩
  have D12 := Lib.hid (K11.out.told (v := .tuple #[]) (e := .returned (.tuple #[])) ⟨rfl, hrd12, ht12⟩)
  have N12 := Lib.hid (show g5 < w33.heap.size from K11.out.cs.lt)
  have S12 := Lib.hid K11.out.tn.size
  obtain ⟨A12v, c12v, rfl, -⟩ := id hv12
  have V12 := Lib.hid hv12
  clear K11 hv12 hrd12 ht12
  go_wp2_with (first
    | ((with_reducible show wpList _ _ _ _ _ w34); refine wpList_store1 rfl 28 _ _ rfl g5 10 rfl (.slice A12v l12.length c12v) rfl rfl infoU8s 31 _ D12.out.cs (bac_lt _ _ _ (by decide)) ?_; intro w35 hk ht; go_frame; have K12 := Lib.hid (D12.out.put (cs' := (bacCells { bacZero with inc := n2, seq := n3, boot := n5, ino := n6, gen := n7, dir := n8, size := n9, change := n10, before := n11, data := l12 } (.slice A12v l12.length c12v) (.slice none 0 0)).toArray) hk ht); have V12b := Lib.hid ((V12.out.turn ht (fun k hk e => by have := N12.out; omega)).mono (G := fun k => w2.heap.size ≤ k ∧ k ≠ g5 ∧ k ≠ qb) fun k _ hk => by have := S12.out; have := N12.out; have := D12.out.old; omega); clear hk ht D12)
    | fail)
  obtain ⟨n13, s13, he13, hb13, ha13⟩ := num4_e s12
  have hn := Number_q K12.out.rd
  rw [he13] at hn
  dsimp only at hn
  have hz13 := numR_bad0 s12 4
  rw [he13] at hz13
  have E13 := Lib.hid he13
  have A13 := Lib.hid ha13
  have i13 : (n13 : Int) ≤ 4294967295 := by omega
  clear he13 ha13 hb13
  refine hn.mono ?_
  clear hn
  rintro e w36 hq
  have K13 := Lib.hid (K12.out.told hq)
  have V13 := Lib.hid (V12b.out.turn hq.2.2 (fun k hk e => hk.2.2 e))
  obtain ⟨rfl, -⟩ := hq
  clear K12 V12b
  have EH := Lib.hid (show headG s0 = (⟨min n1 255, n2, n3, min n4 255, n6, n7, n8, n9, n10, n11, l12, [], n5⟩, s12) by
    have ea : attR s5 = ({ bacZero with ino := n6, gen := n7, dir := n8, size := n9, change := n10 }, s10) := by
      unfold attR
      simp only [E6.out, E7.out, E8.out, E9.out, E10.out, Int.toNat_natCast]
    unfold headG
    simp only [E1.out, E2.out, E3.out, E4.out, E5.out, ea, E11.out, E12.out, Int.toNat_natCast])
  have C13 := Lib.hid (C2.out.turn K13.out.tn (by have := NQ.out; omega))
  have B13 := Lib.hid (B2.out.trans (K13.out.tn.below B2.out.size fun k hk => by have := NQ.out; omega))
  obtain ⟨ns, s14, hns⟩ : ∃ ns s14, namesG n13 s13 = (ns, s14) := ⟨_, _, rfl⟩
  have HRES := Lib.hid (getB_eq HN.out (by rw [← HS0.out]; exact EH.out) E13.out hns)
  have HNS := Lib.hid hns
  clear hns
  obtain ⟨qe, -⟩ := K13.out.rd.f2
  by_cases hm : 32 < n13
  · have he : s13.err = 0 := by
      by_cases he : s13.err = 0
      · exact he
      · have := hz13 he; omega
    have hm' : 32 < (n13 : Int) := by omega
    rw [he] at qe
    have HM := Lib.hid hm
    clear hm he hz13
    go_wp2_with (first
      | ((with_reducible show wpList _ _ _ _ _ w36); refine wpList_storeS rfl 31 _ _ rfl g1 rfl zc zc rfl C13.out rfl (bac_one rfl rfl) infoBack ?_; intro w40 hk ht; go_frame; have C40 := Lib.hid hk; have B40 := Lib.hid (below_turn B13.out ht B13.out.size (Nat.le_trans (Nat.le_refl _) G1.out)); clear hk ht)
      | fail)
    refine bac_end2 (cs := zc) rfl rfl C40.out rfl rfl ?_
    rw [HRES.out, if_pos HM.out]
    exact ansZR 3 B40.out
  have hm' : (n13 : Int) ≤ 32 := by omega
  have HM := Lib.hid hm
  have HQ0 := Lib.hid (show QNam w36 qb g5 (· < w.heap.size) { bacZero with inc := n2, seq := n3, boot := n5, ino := n6, gen := n7, dir := n8, size := n9, change := n10, before := n11, data := l12 } (.slice A12v l12.length c12v) s13 0 (.slice none 0 0) w36 from ⟨K13.out.rd, K13.out.cs, World.ownsRow_nil _ _ _ _, Turn.refl _ _⟩)
  have HC0 := Lib.hid (show w36.cell? ⟨qb, 2, none⟩ = some (.int .i64 s13.err) from qe)
  have N36 := Lib.hid (show g5 < w36.heap.size ∧ qb < w36.heap.size from ⟨K13.out.cs.lt, K13.out.rd.lt⟩)
  have hhead : ∀ b : Bool, (s13.err == 0) = b → True := fun _ _ => trivial
  clear hm hz13 hhead
  generalize hC : { bacZero with inc := n2, seq := n3, boot := n5, ino := n6, gen := n7, dir := n8, size := n9, change := n10, before := n11, data := l12 } = c12 at *
  have HC := Lib.hid hC
  clear hC
  rcases Bool.eq_false_or_eq_true (s13.err == 0) with hE | hE
  ·
    go_wp2_with fail
    go_loopw [9] (fun i wr => ∃ (k : Nat) (u : Value), k ≤ n13 ∧ i = .int .u32 (k : Int) ∧ QNam w36 qb g5 (· < w.heap.size) c12 (.slice A12v l12.length c12v) s13 k u wr) (fun i _ => n13 - (RowKit.intOf i).toNat)
    case atStart => exact ⟨0, _, Nat.zero_le _, rfl, HQ0.out⟩
    case round =>
      obtain ⟨k, u, hk, rfl, hq⟩ := hrel
      obtain ⟨A5, N5, c5, rfl, -⟩ := own_slice hq.own
      have HQ := Lib.hid hq
      have NG := Lib.hid (show w2.heap.size ≤ g5 ∧ qb < w2.heap.size ∧ w.heap.size ≤ w2.heap.size from ⟨G5.out, Q2.out.lt, B2.out.size⟩)
      obtain ⟨qe, -⟩ := hq.rd.f2
      have hlk := namesG_len k s13
      have hbadn := namesG_bad s13 k
      clear hq
      generalize hpre : (namesG k s13).1 = pre at *
      generalize hst : (namesG k s13).2 = s at *
      have HPRE := Lib.hid hpre
      have HST := Lib.hid hst
      have HLK := Lib.hid hlk
      clear hpre hst hlk
      by_cases hlt : k < n13
      · have hlt' : (k : Int) < (n13 : Int) := by omega
        by_cases herr : s.err = 0
        · rw [herr] at qe
          have HALL := Lib.hid (show (namesG k s13).2.all.length ≤ 140737488355328 by rw [namesG_all, A13.out, A12.out, A11.out, A10.out, A9.out, A8.out, A7.out, A6.out, A5s.out, A4.out, A3.out, A2.out, A1.out, HS0.out]; exact HLEN.out)
          have HL := Lib.hid (namesG_len k s13)
          go_wp2_with fail
          refine wp_region_X [8] (fun y => Cs y g5 31 (bacCells { c12 with names := (namesG k s13).1 } (.slice A12v l12.length c12v) (.slice A5 N5 c5)).toArray) (QNam w36 qb g5 (· < w.heap.size) c12 (.slice A12v l12.length c12v) s13 k (.slice A5 N5 c5)) hmix (HQ.out.below ((Below.refl _ _).drew)) ?_
          change wpAnyX _ _ _ _ _ _ _ _ _ _
          refine wpAnyX_take (i := 0) (v := .pointer (some ⟨g5, 11, none⟩)) 8 (kept_qnam _ _ _ _ _ _ _ _ _) (fun _ h => h.cs) rfl (by kernel_rfl) (by kernel_rfl) (fun _ _ _ h => h) (DoesV.reads (by rfl) fun w9 hS => by go_simp) ?_
          try simp only [List.getElem_toArray, List.getElem_cons_succ, List.getElem_cons_zero, Act.put, List.setIfInBounds_toArray, List.set_cons_succ, List.set_cons_zero]
          refine wpAnyX_take (i := 1) (v := .slice A5 N5 c5) 8 (kept_qnam _ _ _ _ _ _ _ _ _) (fun _ h => h.cs) rfl (by kernel_rfl) (by kernel_rfl) (fun _ _ _ h => h) (DoesV.reads (by rfl) fun w9 hS => by have q0 : w9.cell? ⟨g5, 11, none⟩ = some (.slice A5 N5 c5) := hS.cell 11 rfl; go_simp) ?_
          try simp only [List.getElem_toArray, List.getElem_cons_succ, List.getElem_cons_zero, Act.put, List.setIfInBounds_toArray, List.set_cons_succ, List.set_cons_zero]
          refine wpAnyX_take (i := 2) (v := .pointer (some ⟨qb, 0, none⟩)) 8 (kept_qnam _ _ _ _ _ _ _ _ _) (fun _ h => h.cs) rfl (by kernel_rfl) (by kernel_rfl) (fun _ _ _ h => h) (DoesV.reads (by rfl) fun w9 hS => by go_simp) ?_
          try simp only [List.getElem_toArray, List.getElem_cons_succ, List.getElem_cons_zero, Act.put, List.setIfInBounds_toArray, List.set_cons_succ, List.set_cons_zero]
          refine wpAnyX_only (i := 3) rfl (by kernel_rfl) rfl (fun W hS => wp_of_call (by go_simp) (Bytes_q 4096 (by decide) (by decide) HALL.out hS.rd) fun e W' ⟨x, he, hv, hrd, ht⟩ => ⟨x, he, QNam2 w36 qb g5 (· < w.heap.size) c12 (.slice A12v l12.length c12v) s13 (bytesR (namesG k s13).2 4096).2 k (.slice A5 N5 c5) x (bytesR (namesG k s13).2 4096).1, ⟨hrd, hS.cs.turn ht (by have := NG.out; omega), ownsRow_turn' hS.own ht (fun q hq e => by have h1 := own_base hS.own q hq; have h2 := N36.out; omega), hS.tn.trans ht (fun _ _ e => .inl e), hv.mono fun _ _ _ => trivial⟩, kept_qnam2 _ _ _ _ _ _ _ _ _ _ _ _, fun _ _ h => h.cs, ?_⟩)
          try simp only [List.getElem_toArray, List.getElem_cons_succ, List.getElem_cons_zero, Act.put, List.setIfInBounds_toArray, List.set_cons_succ, List.set_cons_zero]
          have hn1 : (namesG (k + 1) s13).1 = (namesG k s13).1 ++ [⟨(bytesR (namesG k s13).2 4096).1.toArray⟩] := rfl
          have hn2 : (namesG (k + 1) s13).2 = (bytesR (namesG k s13).2 4096).2 := rfl
          have HN1 := Lib.hid hn1
          have HN2 := Lib.hid hn2
          clear hn1 hn2
          generalize (bytesR (namesG k s13).2 4096).1 = bl at *
          generalize (bytesR (namesG k s13).2 4096).2 = s' at *
          obtain ⟨A7v, c7, rfl, -⟩ := id hv
          clear hv hrd ht
          refine wpAnyX_only (i := 4) rfl (by kernel_rfl) rfl (fun y hy => wp_of_run2 (v := .string ⟨bl.toArray⟩) (by have hcv := conv_rd hy.bs.rdB c7; go_simp) ⟨_, hy, kept_qnam2 _ _ _ _ _ _ _ _ _ _ _ _, fun _ _ h => h.cs, ?_⟩)
          try simp only [List.getElem_toArray, List.getElem_cons_succ, List.getElem_cons_zero, Act.put, List.setIfInBounds_toArray, List.set_cons_succ, List.set_cons_zero]
          refine wpAnyX_only (i := 5) rfl (by kernel_rfl) rfl (fun z hz => wp_of_run2 (v := .slice (some ⟨z.heap.size, 0, none⟩) 1 1) (w' := z.alloc (.cells #[.string ⟨bl.toArray⟩] 9)) (by go_simp) ⟨fun q => QNam2 w36 qb g5 (· < w.heap.size) c12 (.slice A12v l12.length c12v) s13 s' k (.slice A5 N5 c5) (.slice A7v bl.length c7) bl q ∧ Cs q z.heap.size 9 #[.string ⟨bl.toArray⟩], ⟨kept_qnam2 _ _ _ _ _ _ _ _ _ _ _ _ _ _ hz (below_newB _ _), Cs.new _ _ _⟩, kept_and (kept_qnam2 _ _ _ _ _ _ _ _ _ _ _ _) (kept_cs _ _ _), fun _ _ h => h.1.cs, ?_⟩)
          try simp only [List.getElem_toArray, List.getElem_cons_succ, List.getElem_cons_zero, Act.put, List.setIfInBounds_toArray, List.set_cons_succ, List.set_cons_zero]
          refine wpAnyX_only (i := 6) rfl (by kernel_rfl) rfl (fun q hq => wp_append_tx (.tmp 84) (.tmp 88) rfl w36.heap.size _ (namesG k s13).1 rfl hq.1.own z.heap.size ⟨bl.toArray⟩ rfl (hq.2.cell 0 rfl) (by have := HL.out; omega) hq.1.tn.size fun v' q' ho hg => ⟨QNam3 w36 qb g5 (· < w.heap.size) c12 (.slice A12v l12.length c12v) s13 s' k (.slice A5 N5 c5) v' ⟨bl.toArray⟩, ?_, kept_qnam3 _ _ _ _ _ _ _ _ _ _ _ _, fun _ _ h => h.cs, ?_⟩)
          · have hb5 : ∀ j, (Value.slice A5 N5 c5).ownBlock = some j → w36.heap.size ≤ j := own_base hq.1.own
            have tg := Turn.of_grown hg
            exact ⟨hq.1.rd.turn tg (fun hh => by have h1 := hb5 _ hh; have h2 := N36.out; omega) (fun j hj hh => by have h1 := hb5 _ hh; have h2 := B13.out.size; omega), hq.1.cs.turn tg (fun hh => by have h1 := hb5 _ hh; have h2 := N36.out; omega), ho, hq.1.tn.trans tg fun j hj hh => by have h1 := hb5 _ hh; omega⟩
          try simp only [List.getElem_toArray, List.getElem_cons_succ, List.getElem_cons_zero, Act.put, List.setIfInBounds_toArray, List.set_cons_succ, List.set_cons_zero]
          obtain ⟨A8v, N8, c8, rfl, -⟩ := own_slice ho
          clear ho hg
          refine wpAnyX_only (i := 7) rfl (by kernel_rfl) rfl (fun q hq => wp_of_run2 (v := .pointer (some ⟨g5, 11, none⟩)) (by go_simp) ⟨_, hq, kept_qnam3 _ _ _ _ _ _ _ _ _ _ _ _, fun _ _ h => h.cs, ?_⟩)
          try simp only [List.getElem_toArray, List.getElem_cons_succ, List.getElem_cons_zero, Act.put, List.setIfInBounds_toArray, List.set_cons_succ, List.set_cons_zero]
          refine wpAnyX_only (i := 8) rfl (by kernel_rfl) rfl (fun r hr => wp_store1 29 _ _ rfl g5 11 rfl (.slice A8v N8 c8) rfl rfl infoStrs 31 _ hr.cs (bac_lt _ _ _ (by decide)) fun r' hc ht => ⟨QNam w36 qb g5 (· < w.heap.size) c12 (.slice A12v l12.length c12v) s13 (k + 1) (.slice A8v N8 c8), ?_, kept_qnam _ _ _ _ _ _ _ _ _, fun h => absurd (List.mem_singleton.2 rfl) h, ?_⟩)
          · refine ⟨?_, ?_, ?_, hr.tn.trans ht fun j hj e => .inr e⟩
            · rw [HN2.out]; exact hr.rd.turn ht (by have := NG.out; omega) (fun j hj e => by have h1 := NG.out; omega)
            · rw [HN1.out]; exact hc
            · rw [HN1.out]; exact ownsRow_turn' hr.own ht (fun j hj e => by have h1 := own_base hr.own j hj; have h2 := N36.out; omega)
          try simp only [List.getElem_toArray, List.getElem_cons_succ, List.getElem_cons_zero, Act.put, List.setIfInBounds_toArray, List.set_cons_succ, List.set_cons_zero]
          refine wpAnyX_done (by kernel_rfl) (fun y2 hu => ?_) _
          have HU := Lib.hid hu
          clear hu
          go_wp2_with fail
          go_roundw
          case rel => exact ⟨k + 1, _, by omega, by go_num, HU.out⟩
          case measure => simp [RowKit.intOf]; omega
        · have heq : (s.err == 0) = false := by simpa using herr
          have HX := Lib.hid (show endR s = endR s14 by
            have h1 := hbadn herr (n13 - k)
            rw [show k + (n13 - k) = n13 by omega, HNS.out] at h1
            rw [← h1])
          have HE := Lib.hid (show endR s14 ≠ 0 by rw [← HX.out]; unfold endR; rw [if_pos herr]; exact herr)
          clear herr hbadn hlt
          go_wp2_with fail
          refine (End_q HQ.out.rd).mono ?_
          rintro e w40 ⟨rfl, hb⟩
          have Q40 := Lib.hid (HQ.out.below hb)
          have C40 := Lib.hid (C13.out.turn Q40.out.tn (by have := NQ.out; have := NG.out; omega))
          have B40 := Lib.hid (B13.out.trans (Q40.out.tn.below B13.out.size fun k hk => by have := NQ.out; have := NG.out; omega))
          clear hb
          rw [HST.out, HX.out]
          have hne := HE.out
          have hen := HX.out
          clear hen
          generalize hee : endR s14 = en at *
          have hne1 : (en != 0) = true := by simpa using hne
          have hne2 : (en == 0) = false := by simpa using hne
          have HEE := Lib.hid hee
          clear hee hne
          go_wp2_with (first
            | ((with_reducible show wpList _ _ _ _ _ w40); refine wpList_storeS rfl 31 _ _ rfl g1 rfl zc zc rfl C40.out rfl (bac_one rfl rfl) infoBack ?_; intro w41 hk ht; go_frame; have C41 := Lib.hid hk; have B41 := Lib.hid (below_turn B40.out ht B40.out.size G1.out); clear hk ht)
            | fail)
          refine bac_end2 (cs := zc) rfl rfl C41.out rfl rfl ?_
          have hne := HE.out
          rw [HRES.out, if_neg HM.out, if_pos hne]
          exact ansZR en B41.out
      · obtain rfl : k = n13 := by omega
        have hlt' : ¬ (k : Int) < (k : Int) := by omega
        have HNE := Lib.hid (show pre = ns by rw [← HPRE.out, HNS.out])
        have HSE := Lib.hid (show s = s14 by rw [← HST.out, HNS.out])
        have HX := Lib.hid (show endR s = endR s14 by rw [HSE.out])
        clear hbadn hlt
        by_cases he : endR s14 = 0
        · have HE := Lib.hid he
          clear he
          go_wp2_with fail
          refine (End_q HQ.out.rd).mono ?_
          rintro e w40 ⟨rfl, hb⟩
          have Q40 := Lib.hid (HQ.out.below hb)
          have V40 := Lib.hid (V13.out.turn Q40.out.tn (fun k hk e => by have h1 := hk.2.1; have h2 := hk.2.2; omega))
          have C40 := Lib.hid (C13.out.turn Q40.out.tn (by have := NQ.out; have := NG.out; omega))
          have B40 := Lib.hid (B13.out.trans (Q40.out.tn.below B13.out.size fun k hk => by have := NQ.out; have := NG.out; omega))
          have W40 := Lib.hid Q40.out.tn.size
          have G40 := Lib.hid (show Cs w40 g5 31 (bacCells { c12 with names := pre } (.slice A12v l12.length c12v) (.slice A5 N5 c5)).toArray by have h1 := Q40.out.cs; rwa [HPRE.out] at h1)
          have U40 := Lib.hid (show w40.ownsRow w36.heap.size 9 1 (.slice A5 N5 c5) pre.length (txsOf pre) by have h1 := Q40.out.own; rwa [HPRE.out] at h1)
          clear hb
          rw [HST.out, HX.out, HE.out]
          obtain ⟨r1, hr1, hr1b, hr1e⟩ : ∃ r1 : Nat, (n1 : Int).tmod 256 = (r1 : Int) ∧ (r1 : Int) ≤ 255 ∧ r1 = n1 % 256 := ⟨n1 % 256, rfl, by omega, rfl⟩
          obtain ⟨r4, hr4, hr4b, hr4e⟩ : ∃ r4 : Nat, (n4 : Int).tmod 256 = (r4 : Int) ∧ (r4 : Int) ≤ 255 ∧ r4 = n4 % 256 := ⟨n4 % 256, rfl, by omega, rfl⟩
          have R1E := Lib.hid hr1e
          have R4E := Lib.hid hr4e
          clear hr1e hr4e
          have hcell0 := G40.out
          clear hcell0
          by_cases hbad : 4 ≤ n1 ∨ 9 < n4
          · have HBAD := Lib.hid hbad
            have hno : mayB { (⟨min n1 255, n2, n3, min n4 255, n6, n7, n8, n9, n10, n11, l12, [], n5⟩ : BackX) with names := ns } = false := by
              rcases hbad with hbad | hbad
              · exact mayB_client (by show 4 ≤ min n1 255; omega)
              · exact mayB_status (by show 9 < min n4 255; omega)
            have HNO := Lib.hid hno
            clear hno
            have hbad' : 4 ≤ (n1 : Int) ∨ (n1 : Int) < 4 ∧ 9 < (n4 : Int) := by omega
            clear hbad
            rcases hbad' with hb1 | ⟨hb1, hb2⟩
            · go_wp2_with (first
                | ((with_reducible show wpList _ _ _ _ _ w40); refine wpList_store1 rfl 5 _ _ rfl g5 0 rfl (.int .u8 (r1 : Int)) rfl rfl infoU8 31 _ G40.out (bac_lt _ _ _ (by decide)) ?_; intro w42 hk ht; go_frame; have G42 := Lib.hid (show Cs w42 g5 31 (bacCells { c12 with client := r1, names := pre } (.slice A12v l12.length c12v) (.slice A5 N5 c5)).toArray from hk); have T42 := Lib.hid ht; clear hk ht)
                | ((with_reducible show wpList _ _ _ _ _ w42); refine wpList_store1 rfl 5 _ _ rfl g5 3 rfl (.int .u8 (r4 : Int)) rfl rfl infoU8 31 _ G42.out (bac_lt _ _ _ (by decide)) ?_; intro w43 hk ht; go_frame; have G43 := Lib.hid (show Cs w43 g5 31 (bacCells { c12 with client := r1, status := r4, names := pre } (.slice A12v l12.length c12v) (.slice A5 N5 c5)).toArray from hk); have T43 := Lib.hid (T42.out.trans ht fun _ _ h => h); have C43 := Lib.hid (C40.out.turn T43.out (by have := NG.out; have := NQ.out; omega)); have B43 := Lib.hid (below_turn B40.out T43.out B40.out.size (by have := NG.out; have := NQ.out; omega)); have V43 := Lib.hid (V40.out.turn T43.out (fun k hk e => hk.2.1 e)); have U43 := Lib.hid (ownsRow_turn' U40.out T43.out (fun k hk e => by have h1 := own_base U40.out k hk; have h2 := N36.out; omega)); have W43 := Lib.hid (Nat.le_trans W40.out T43.out.size); clear hk ht)
                | ((with_reducible show wpList _ _ _ _ _ w43); refine wpList_storeS rfl 31 _ _ rfl g1 rfl zc zc rfl C43.out rfl (bac_one rfl rfl) infoBack ?_; intro w45 hk ht; go_frame; have C45 := Lib.hid hk; have B45 := Lib.hid (below_turn B43.out ht B43.out.size G1.out); clear hk ht)
                | fail)
              refine bac_end2 (cs := zc) rfl rfl C45.out rfl rfl ?_
              rw [HRES.out, if_neg HM.out, HE.out, if_neg (show ¬ ((0 : Int) ≠ 0) by decide), if_pos HNO.out]
              exact ansZR 5 B45.out
            · go_wp2_with (first
                | ((with_reducible show wpList _ _ _ _ _ w40); refine wpList_store1 rfl 5 _ _ rfl g5 0 rfl (.int .u8 (r1 : Int)) rfl rfl infoU8 31 _ G40.out (bac_lt _ _ _ (by decide)) ?_; intro w42 hk ht; go_frame; have G42 := Lib.hid (show Cs w42 g5 31 (bacCells { c12 with client := r1, names := pre } (.slice A12v l12.length c12v) (.slice A5 N5 c5)).toArray from hk); have T42 := Lib.hid ht; clear hk ht)
                | ((with_reducible show wpList _ _ _ _ _ w42); refine wpList_store1 rfl 5 _ _ rfl g5 3 rfl (.int .u8 (r4 : Int)) rfl rfl infoU8 31 _ G42.out (bac_lt _ _ _ (by decide)) ?_; intro w43 hk ht; go_frame; have G43 := Lib.hid (show Cs w43 g5 31 (bacCells { c12 with client := r1, status := r4, names := pre } (.slice A12v l12.length c12v) (.slice A5 N5 c5)).toArray from hk); have T43 := Lib.hid (T42.out.trans ht fun _ _ h => h); have C43 := Lib.hid (C40.out.turn T43.out (by have := NG.out; have := NQ.out; omega)); have B43 := Lib.hid (below_turn B40.out T43.out B40.out.size (by have := NG.out; have := NQ.out; omega)); have V43 := Lib.hid (V40.out.turn T43.out (fun k hk e => hk.2.1 e)); have U43 := Lib.hid (ownsRow_turn' U40.out T43.out (fun k hk e => by have h1 := own_base U40.out k hk; have h2 := N36.out; omega)); have W43 := Lib.hid (Nat.le_trans W40.out T43.out.size); clear hk ht)
                | ((with_reducible show wpList _ _ _ _ _ w43); refine wpList_storeS rfl 31 _ _ rfl g1 rfl zc zc rfl C43.out rfl (bac_one rfl rfl) infoBack ?_; intro w45 hk ht; go_frame; have C45 := Lib.hid hk; have B45 := Lib.hid (below_turn B43.out ht B43.out.size G1.out); clear hk ht)
                | fail)
              refine bac_end2 (cs := zc) rfl rfl C45.out rfl rfl ?_
              rw [HRES.out, if_neg HM.out, HE.out, if_neg (show ¬ ((0 : Int) ≠ 0) by decide), if_pos HNO.out]
              exact ansZR 5 B45.out
          have hg1 : decide (4 ≤ (n1 : Int)) = false := decide_eq_false (by omega)
          have hg4 : decide (9 < (n4 : Int)) = false := decide_eq_false (by omega)
          have hc' : ({ c12 with client := r1, status := r4, names := pre } : BackX) = { (⟨min n1 255, n2, n3, min n4 255, n6, n7, n8, n9, n10, n11, l12, [], n5⟩ : BackX) with names := ns } := by
            rw [← HC.out, ← HNE.out]
            have e1 := R1E.out
            have e4 := R4E.out
            have f1 : r1 = min n1 255 := by omega
            have f4 : r4 = min n4 255 := by omega
            rw [f1, f4]
          have HCC := Lib.hid hc'
          clear hc' hbad
          have HCD := Lib.hid (show c12.data = l12 by rw [← HC.out])
          have OKK := Lib.hid (show bacOk { c12 with client := r1, status := r4, names := pre } by
            rw [HCC.out]
            have h1 := headG_ok s0 ns
            rw [EH.out] at h1
            exact h1)
          generalize hcy : bacCells { c12 with client := r1, status := r4, names := pre } (.slice A12v l12.length c12v) (.slice A5 N5 c5) = csx at *
          have HCY := Lib.hid hcy
          have HI9 := Lib.hid (show (Tryd.prog.info? 31).map (·.size) = some csx.length by rw [← hcy]; exact infoBack)
          have HO9 := Lib.hid (show ∀ x ∈ csx, x.oneCell' = true by rw [← hcy]; exact bac_one rfl rfl)
          have HL9 := Lib.hid (show csx.length = 13 by rw [← hcy]; rfl)
          clear hcy
          cases hmb : mayB { c12 with client := r1, status := r4, names := pre }
          · have HMB := Lib.hid hmb
            clear hmb
            go_wp2_with (first
              | ((with_reducible show wpList _ _ _ _ _ w40); refine wpList_store1 rfl 5 _ _ rfl g5 0 rfl (.int .u8 (r1 : Int)) rfl rfl infoU8 31 _ G40.out (bac_lt _ _ _ (by decide)) ?_; intro w42 hk ht; go_frame; have G42 := Lib.hid (show Cs w42 g5 31 (bacCells { c12 with client := r1, names := pre } (.slice A12v l12.length c12v) (.slice A5 N5 c5)).toArray from hk); have T42 := Lib.hid ht; clear hk ht)
              | ((with_reducible show wpList _ _ _ _ _ w42); refine wpList_store1 rfl 5 _ _ rfl g5 3 rfl (.int .u8 (r4 : Int)) rfl rfl infoU8 31 _ G42.out (bac_lt _ _ _ (by decide)) ?_; intro w43 hk ht; go_frame; have G43 := Lib.hid (show Cs w43 g5 31 csx.toArray by rw [← HCY.out]; exact hk); have T43 := Lib.hid (T42.out.trans ht fun _ _ h => h); have C43 := Lib.hid (C40.out.turn T43.out (by have := NG.out; have := NQ.out; omega)); have B43 := Lib.hid (below_turn B40.out T43.out B40.out.size (by have := NG.out; have := NQ.out; omega)); have V43 := Lib.hid (V40.out.turn T43.out (fun k hk e => hk.2.1 e)); have U43 := Lib.hid (ownsRow_turn' U40.out T43.out (fun k hk e => by have h1 := own_base U40.out k hk; have h2 := N36.out; omega)); have W43 := Lib.hid (Nat.le_trans W40.out T43.out.size); clear hk ht)
              | ((with_reducible show wpList _ _ _ _ _ w43); refine wpList_loadG (by rfl) 31 _ rfl g5 rfl csx G43.out _ Tryd.underlying31 rfl HI9.out ?_; go_frame)
              | fail)
            have BV := Lib.hid (show BacV w43 (fun k => w.heap.size ≤ k ∧ k ≠ g1) { c12 with client := r1, status := r4, names := pre } (.slice A12v l12.length c12v) (.slice A5 N5 c5) from ⟨(by show BsV _ _ _ c12.data; rw [HCD.out]; exact V43.out.mono (fun k _ hk => by have h1 := hk.1; have h2 := NG.out; have h3 := NQ.out; omega)), ((NmV.own U43.out).mono (fun k _ hk => by have h2 := B13.out.size; have h3 := C13.out.lt; omega)), OKK.out⟩)
            have hmv := MayR_v BV.out
            rw [HCY.out, HMB.out] at hmv
            refine hmv.mono ?_
            clear hmv
            rintro e w44 ⟨rfl, hb⟩
            have C44 := Lib.hid (C43.out.below hb C43.out.lt)
            have B44 := Lib.hid (below_chain B43.out hb)
            have BV44 := Lib.hid (BV.out.below hb)
            have G44 := Lib.hid (G43.out.below hb G43.out.lt)
            clear hb
            go_wp2_with (first
              | ((with_reducible show wpList _ _ _ _ _ w44); refine wpList_storeS rfl 31 _ _ rfl g1 rfl zc zc rfl C44.out rfl (bac_one rfl rfl) infoBack ?_; intro w45 hk ht; go_frame; have C45 := Lib.hid hk; have B45 := Lib.hid (below_turn B44.out ht B44.out.size G1.out); clear hk ht)
              | fail)
            refine bac_end2 (cs := zc) rfl rfl C45.out rfl rfl ?_
            rw [HRES.out, if_neg HM.out, HE.out, if_neg (show ¬ ((0 : Int) ≠ 0) by decide), if_pos (by rw [← HCC.out]; exact HMB.out)]
            exact ansZR 5 B45.out
          · have HMB := Lib.hid hmb
            clear hmb
            go_wp2_with (first
              | ((with_reducible show wpList _ _ _ _ _ w40); refine wpList_store1 rfl 5 _ _ rfl g5 0 rfl (.int .u8 (r1 : Int)) rfl rfl infoU8 31 _ G40.out (bac_lt _ _ _ (by decide)) ?_; intro w42 hk ht; go_frame; have G42 := Lib.hid (show Cs w42 g5 31 (bacCells { c12 with client := r1, names := pre } (.slice A12v l12.length c12v) (.slice A5 N5 c5)).toArray from hk); have T42 := Lib.hid ht; clear hk ht)
              | ((with_reducible show wpList _ _ _ _ _ w42); refine wpList_store1 rfl 5 _ _ rfl g5 3 rfl (.int .u8 (r4 : Int)) rfl rfl infoU8 31 _ G42.out (bac_lt _ _ _ (by decide)) ?_; intro w43 hk ht; go_frame; have G43 := Lib.hid (show Cs w43 g5 31 csx.toArray by rw [← HCY.out]; exact hk); have T43 := Lib.hid (T42.out.trans ht fun _ _ h => h); have C43 := Lib.hid (C40.out.turn T43.out (by have := NG.out; have := NQ.out; omega)); have B43 := Lib.hid (below_turn B40.out T43.out B40.out.size (by have := NG.out; have := NQ.out; omega)); have V43 := Lib.hid (V40.out.turn T43.out (fun k hk e => hk.2.1 e)); have U43 := Lib.hid (ownsRow_turn' U40.out T43.out (fun k hk e => by have h1 := own_base U40.out k hk; have h2 := N36.out; omega)); have W43 := Lib.hid (Nat.le_trans W40.out T43.out.size); clear hk ht)
              | ((with_reducible show wpList _ _ _ _ _ w43); refine wpList_loadG (by rfl) 31 _ rfl g5 rfl csx G43.out _ Tryd.underlying31 rfl HI9.out ?_; go_frame)
              | fail)
            have BV := Lib.hid (show BacV w43 (fun k => w.heap.size ≤ k ∧ k ≠ g1) { c12 with client := r1, status := r4, names := pre } (.slice A12v l12.length c12v) (.slice A5 N5 c5) from ⟨(by show BsV _ _ _ c12.data; rw [HCD.out]; exact V43.out.mono (fun k _ hk => by have h1 := hk.1; have h2 := NG.out; have h3 := NQ.out; omega)), ((NmV.own U43.out).mono (fun k _ hk => by have h2 := B13.out.size; have h3 := C13.out.lt; omega)), OKK.out⟩)
            have hmv := MayR_v BV.out
            rw [HCY.out, HMB.out] at hmv
            refine hmv.mono ?_
            clear hmv
            rintro e w44 ⟨rfl, hb⟩
            have C44 := Lib.hid (C43.out.below hb C43.out.lt)
            have B44 := Lib.hid (below_chain B43.out hb)
            have BV44 := Lib.hid (BV.out.below hb)
            have G44 := Lib.hid (G43.out.below hb G43.out.lt)
            clear hb
            go_wp2_with (first
              | ((with_reducible show wpList _ _ _ _ _ w44); refine wpList_loadS rfl 31 _ rfl g5 rfl csx G44.out _ Tryd.underlying31 rfl HI9.out ?_; go_frame)
              | ((with_reducible show wpList _ _ _ _ _ w44); refine wpList_storeS rfl 31 _ _ rfl g1 rfl csx zc rfl C44.out (by rw [HL9.out]; rfl) HO9.out HI9.out ?_; intro w45 hk ht; go_frame; have C45 := Lib.hid hk; have T45 := Lib.hid ht; have B45 := Lib.hid (below_turn B44.out ht B44.out.size G1.out); clear hk ht)
              | fail)
            refine bac_end2 (cs := csx) rfl HL9.out C45.out rfl rfl ?_
            rw [HRES.out, if_neg HM.out, HE.out, if_neg (show ¬ ((0 : Int) ≠ 0) by decide), if_neg (by rw [← HCC.out, HMB.out]; decide), ← HCC.out]
            exact ⟨_, _, (by rw [← HCY.out]; rfl), (BV44.out.turn T45.out fun k hk e => hk.2 e).mono fun k _ hk => hk.1, B45.out⟩
        · have HE := Lib.hid he
          clear he
          go_wp2_with fail
          refine (End_q HQ.out.rd).mono ?_
          rintro e w40 ⟨rfl, hb⟩
          have Q40 := Lib.hid (HQ.out.below hb)
          have C40 := Lib.hid (C13.out.turn Q40.out.tn (by have := NQ.out; have := NG.out; omega))
          have B40 := Lib.hid (B13.out.trans (Q40.out.tn.below B13.out.size fun k hk => by have := NQ.out; have := NG.out; omega))
          clear hb
          rw [HST.out, HX.out]
          have hne := HE.out
          have hen := HX.out
          clear hen
          generalize hee : endR s14 = en at *
          have hne1 : (en != 0) = true := by simpa using hne
          have hne2 : (en == 0) = false := by simpa using hne
          have HEE := Lib.hid hee
          clear hee hne
          go_wp2_with (first
            | ((with_reducible show wpList _ _ _ _ _ w40); refine wpList_storeS rfl 31 _ _ rfl g1 rfl zc zc rfl C40.out rfl (bac_one rfl rfl) infoBack ?_; intro w41 hk ht; go_frame; have C41 := Lib.hid hk; have B41 := Lib.hid (below_turn B40.out ht B40.out.size G1.out); clear hk ht)
            | fail)
          refine bac_end2 (cs := zc) rfl rfl C41.out rfl rfl ?_
          have hne := HE.out
          rw [HRES.out, if_neg HM.out, if_pos hne]
          exact ansZR en B41.out
  ·
    go_wp2_with fail
    go_loopw [9] (fun i wr => ∃ (k : Nat) (u : Value), k ≤ n13 ∧ i = .int .u32 (k : Int) ∧ QNam w36 qb g5 (· < w.heap.size) c12 (.slice A12v l12.length c12v) s13 k u wr) (fun i _ => n13 - (RowKit.intOf i).toNat)
    case atStart => exact ⟨0, _, Nat.zero_le _, rfl, HQ0.out⟩
    case round =>
      obtain ⟨k, u, hk, rfl, hq⟩ := hrel
      obtain ⟨A5, N5, c5, rfl, -⟩ := own_slice hq.own
      have HQ := Lib.hid hq
      have NG := Lib.hid (show w2.heap.size ≤ g5 ∧ qb < w2.heap.size ∧ w.heap.size ≤ w2.heap.size from ⟨G5.out, Q2.out.lt, B2.out.size⟩)
      obtain ⟨qe, -⟩ := hq.rd.f2
      have hlk := namesG_len k s13
      have hbadn := namesG_bad s13 k
      clear hq
      generalize hpre : (namesG k s13).1 = pre at *
      generalize hst : (namesG k s13).2 = s at *
      have HPRE := Lib.hid hpre
      have HST := Lib.hid hst
      have HLK := Lib.hid hlk
      clear hpre hst hlk
      by_cases hlt : k < n13
      · have hlt' : (k : Int) < (n13 : Int) := by omega
        by_cases herr : s.err = 0
        · rw [herr] at qe
          have HALL := Lib.hid (show (namesG k s13).2.all.length ≤ 140737488355328 by rw [namesG_all, A13.out, A12.out, A11.out, A10.out, A9.out, A8.out, A7.out, A6.out, A5s.out, A4.out, A3.out, A2.out, A1.out, HS0.out]; exact HLEN.out)
          have HL := Lib.hid (namesG_len k s13)
          go_wp2_with fail
          refine wp_region_X [8] (fun y => Cs y g5 31 (bacCells { c12 with names := (namesG k s13).1 } (.slice A12v l12.length c12v) (.slice A5 N5 c5)).toArray) (QNam w36 qb g5 (· < w.heap.size) c12 (.slice A12v l12.length c12v) s13 k (.slice A5 N5 c5)) hmix (HQ.out.below ((Below.refl _ _).drew)) ?_
          change wpAnyX _ _ _ _ _ _ _ _ _ _
          refine wpAnyX_take (i := 0) (v := .pointer (some ⟨g5, 11, none⟩)) 8 (kept_qnam _ _ _ _ _ _ _ _ _) (fun _ h => h.cs) rfl (by kernel_rfl) (by kernel_rfl) (fun _ _ _ h => h) (DoesV.reads (by rfl) fun w9 hS => by go_simp) ?_
          try simp only [List.getElem_toArray, List.getElem_cons_succ, List.getElem_cons_zero, Act.put, List.setIfInBounds_toArray, List.set_cons_succ, List.set_cons_zero]
          refine wpAnyX_take (i := 1) (v := .slice A5 N5 c5) 8 (kept_qnam _ _ _ _ _ _ _ _ _) (fun _ h => h.cs) rfl (by kernel_rfl) (by kernel_rfl) (fun _ _ _ h => h) (DoesV.reads (by rfl) fun w9 hS => by have q0 : w9.cell? ⟨g5, 11, none⟩ = some (.slice A5 N5 c5) := hS.cell 11 rfl; go_simp) ?_
          try simp only [List.getElem_toArray, List.getElem_cons_succ, List.getElem_cons_zero, Act.put, List.setIfInBounds_toArray, List.set_cons_succ, List.set_cons_zero]
          refine wpAnyX_take (i := 2) (v := .pointer (some ⟨qb, 0, none⟩)) 8 (kept_qnam _ _ _ _ _ _ _ _ _) (fun _ h => h.cs) rfl (by kernel_rfl) (by kernel_rfl) (fun _ _ _ h => h) (DoesV.reads (by rfl) fun w9 hS => by go_simp) ?_
          try simp only [List.getElem_toArray, List.getElem_cons_succ, List.getElem_cons_zero, Act.put, List.setIfInBounds_toArray, List.set_cons_succ, List.set_cons_zero]
          refine wpAnyX_only (i := 3) rfl (by kernel_rfl) rfl (fun W hS => wp_of_call (by go_simp) (Bytes_q 4096 (by decide) (by decide) HALL.out hS.rd) fun e W' ⟨x, he, hv, hrd, ht⟩ => ⟨x, he, QNam2 w36 qb g5 (· < w.heap.size) c12 (.slice A12v l12.length c12v) s13 (bytesR (namesG k s13).2 4096).2 k (.slice A5 N5 c5) x (bytesR (namesG k s13).2 4096).1, ⟨hrd, hS.cs.turn ht (by have := NG.out; omega), ownsRow_turn' hS.own ht (fun q hq e => by have h1 := own_base hS.own q hq; have h2 := N36.out; omega), hS.tn.trans ht (fun _ _ e => .inl e), hv.mono fun _ _ _ => trivial⟩, kept_qnam2 _ _ _ _ _ _ _ _ _ _ _ _, fun _ _ h => h.cs, ?_⟩)
          try simp only [List.getElem_toArray, List.getElem_cons_succ, List.getElem_cons_zero, Act.put, List.setIfInBounds_toArray, List.set_cons_succ, List.set_cons_zero]
          have hn1 : (namesG (k + 1) s13).1 = (namesG k s13).1 ++ [⟨(bytesR (namesG k s13).2 4096).1.toArray⟩] := rfl
          have hn2 : (namesG (k + 1) s13).2 = (bytesR (namesG k s13).2 4096).2 := rfl
          have HN1 := Lib.hid hn1
          have HN2 := Lib.hid hn2
          clear hn1 hn2
          generalize (bytesR (namesG k s13).2 4096).1 = bl at *
          generalize (bytesR (namesG k s13).2 4096).2 = s' at *
          obtain ⟨A7v, c7, rfl, -⟩ := id hv
          clear hv hrd ht
          refine wpAnyX_only (i := 4) rfl (by kernel_rfl) rfl (fun y hy => wp_of_run2 (v := .string ⟨bl.toArray⟩) (by have hcv := conv_rd hy.bs.rdB c7; go_simp) ⟨_, hy, kept_qnam2 _ _ _ _ _ _ _ _ _ _ _ _, fun _ _ h => h.cs, ?_⟩)
          try simp only [List.getElem_toArray, List.getElem_cons_succ, List.getElem_cons_zero, Act.put, List.setIfInBounds_toArray, List.set_cons_succ, List.set_cons_zero]
          refine wpAnyX_only (i := 5) rfl (by kernel_rfl) rfl (fun z hz => wp_of_run2 (v := .slice (some ⟨z.heap.size, 0, none⟩) 1 1) (w' := z.alloc (.cells #[.string ⟨bl.toArray⟩] 9)) (by go_simp) ⟨fun q => QNam2 w36 qb g5 (· < w.heap.size) c12 (.slice A12v l12.length c12v) s13 s' k (.slice A5 N5 c5) (.slice A7v bl.length c7) bl q ∧ Cs q z.heap.size 9 #[.string ⟨bl.toArray⟩], ⟨kept_qnam2 _ _ _ _ _ _ _ _ _ _ _ _ _ _ hz (below_newB _ _), Cs.new _ _ _⟩, kept_and (kept_qnam2 _ _ _ _ _ _ _ _ _ _ _ _) (kept_cs _ _ _), fun _ _ h => h.1.cs, ?_⟩)
          try simp only [List.getElem_toArray, List.getElem_cons_succ, List.getElem_cons_zero, Act.put, List.setIfInBounds_toArray, List.set_cons_succ, List.set_cons_zero]
          refine wpAnyX_only (i := 6) rfl (by kernel_rfl) rfl (fun q hq => wp_append_tx (.tmp 84) (.tmp 88) rfl w36.heap.size _ (namesG k s13).1 rfl hq.1.own z.heap.size ⟨bl.toArray⟩ rfl (hq.2.cell 0 rfl) (by have := HL.out; omega) hq.1.tn.size fun v' q' ho hg => ⟨QNam3 w36 qb g5 (· < w.heap.size) c12 (.slice A12v l12.length c12v) s13 s' k (.slice A5 N5 c5) v' ⟨bl.toArray⟩, ?_, kept_qnam3 _ _ _ _ _ _ _ _ _ _ _ _, fun _ _ h => h.cs, ?_⟩)
          · have hb5 : ∀ j, (Value.slice A5 N5 c5).ownBlock = some j → w36.heap.size ≤ j := own_base hq.1.own
            have tg := Turn.of_grown hg
            exact ⟨hq.1.rd.turn tg (fun hh => by have h1 := hb5 _ hh; have h2 := N36.out; omega) (fun j hj hh => by have h1 := hb5 _ hh; have h2 := B13.out.size; omega), hq.1.cs.turn tg (fun hh => by have h1 := hb5 _ hh; have h2 := N36.out; omega), ho, hq.1.tn.trans tg fun j hj hh => by have h1 := hb5 _ hh; omega⟩
          try simp only [List.getElem_toArray, List.getElem_cons_succ, List.getElem_cons_zero, Act.put, List.setIfInBounds_toArray, List.set_cons_succ, List.set_cons_zero]
          obtain ⟨A8v, N8, c8, rfl, -⟩ := own_slice ho
          clear ho hg
          refine wpAnyX_only (i := 7) rfl (by kernel_rfl) rfl (fun q hq => wp_of_run2 (v := .pointer (some ⟨g5, 11, none⟩)) (by go_simp) ⟨_, hq, kept_qnam3 _ _ _ _ _ _ _ _ _ _ _ _, fun _ _ h => h.cs, ?_⟩)
          try simp only [List.getElem_toArray, List.getElem_cons_succ, List.getElem_cons_zero, Act.put, List.setIfInBounds_toArray, List.set_cons_succ, List.set_cons_zero]
          refine wpAnyX_only (i := 8) rfl (by kernel_rfl) rfl (fun r hr => wp_store1 29 _ _ rfl g5 11 rfl (.slice A8v N8 c8) rfl rfl infoStrs 31 _ hr.cs (bac_lt _ _ _ (by decide)) fun r' hc ht => ⟨QNam w36 qb g5 (· < w.heap.size) c12 (.slice A12v l12.length c12v) s13 (k + 1) (.slice A8v N8 c8), ?_, kept_qnam _ _ _ _ _ _ _ _ _, fun h => absurd (List.mem_singleton.2 rfl) h, ?_⟩)
          · refine ⟨?_, ?_, ?_, hr.tn.trans ht fun j hj e => .inr e⟩
            · rw [HN2.out]; exact hr.rd.turn ht (by have := NG.out; omega) (fun j hj e => by have h1 := NG.out; omega)
            · rw [HN1.out]; exact hc
            · rw [HN1.out]; exact ownsRow_turn' hr.own ht (fun j hj e => by have h1 := own_base hr.own j hj; have h2 := N36.out; omega)
          try simp only [List.getElem_toArray, List.getElem_cons_succ, List.getElem_cons_zero, Act.put, List.setIfInBounds_toArray, List.set_cons_succ, List.set_cons_zero]
          refine wpAnyX_done (by kernel_rfl) (fun y2 hu => ?_) _
          have HU := Lib.hid hu
          clear hu
          go_wp2_with fail
          go_roundw
          case rel => exact ⟨k + 1, _, by omega, by go_num, HU.out⟩
          case measure => simp [RowKit.intOf]; omega
        · have heq : (s.err == 0) = false := by simpa using herr
          have HX := Lib.hid (show endR s = endR s14 by
            have h1 := hbadn herr (n13 - k)
            rw [show k + (n13 - k) = n13 by omega, HNS.out] at h1
            rw [← h1])
          have HE := Lib.hid (show endR s14 ≠ 0 by rw [← HX.out]; unfold endR; rw [if_pos herr]; exact herr)
          clear herr hbadn hlt
          go_wp2_with fail
          refine (End_q HQ.out.rd).mono ?_
          rintro e w40 ⟨rfl, hb⟩
          have Q40 := Lib.hid (HQ.out.below hb)
          have C40 := Lib.hid (C13.out.turn Q40.out.tn (by have := NQ.out; have := NG.out; omega))
          have B40 := Lib.hid (B13.out.trans (Q40.out.tn.below B13.out.size fun k hk => by have := NQ.out; have := NG.out; omega))
          clear hb
          rw [HST.out, HX.out]
          have hne := HE.out
          have hen := HX.out
          clear hen
          generalize hee : endR s14 = en at *
          have hne1 : (en != 0) = true := by simpa using hne
          have hne2 : (en == 0) = false := by simpa using hne
          have HEE := Lib.hid hee
          clear hee hne
          go_wp2_with (first
            | ((with_reducible show wpList _ _ _ _ _ w40); refine wpList_storeS rfl 31 _ _ rfl g1 rfl zc zc rfl C40.out rfl (bac_one rfl rfl) infoBack ?_; intro w41 hk ht; go_frame; have C41 := Lib.hid hk; have B41 := Lib.hid (below_turn B40.out ht B40.out.size G1.out); clear hk ht)
            | fail)
          refine bac_end2 (cs := zc) rfl rfl C41.out rfl rfl ?_
          have hne := HE.out
          rw [HRES.out, if_neg HM.out, if_pos hne]
          exact ansZR en B41.out
      · obtain rfl : k = n13 := by omega
        have hlt' : ¬ (k : Int) < (k : Int) := by omega
        have HNE := Lib.hid (show pre = ns by rw [← HPRE.out, HNS.out])
        have HSE := Lib.hid (show s = s14 by rw [← HST.out, HNS.out])
        have HX := Lib.hid (show endR s = endR s14 by rw [HSE.out])
        clear hbadn hlt
        by_cases he : endR s14 = 0
        · have HE := Lib.hid he
          clear he
          go_wp2_with fail
          refine (End_q HQ.out.rd).mono ?_
          rintro e w40 ⟨rfl, hb⟩
          have Q40 := Lib.hid (HQ.out.below hb)
          have V40 := Lib.hid (V13.out.turn Q40.out.tn (fun k hk e => by have h1 := hk.2.1; have h2 := hk.2.2; omega))
          have C40 := Lib.hid (C13.out.turn Q40.out.tn (by have := NQ.out; have := NG.out; omega))
          have B40 := Lib.hid (B13.out.trans (Q40.out.tn.below B13.out.size fun k hk => by have := NQ.out; have := NG.out; omega))
          have W40 := Lib.hid Q40.out.tn.size
          have G40 := Lib.hid (show Cs w40 g5 31 (bacCells { c12 with names := pre } (.slice A12v l12.length c12v) (.slice A5 N5 c5)).toArray by have h1 := Q40.out.cs; rwa [HPRE.out] at h1)
          have U40 := Lib.hid (show w40.ownsRow w36.heap.size 9 1 (.slice A5 N5 c5) pre.length (txsOf pre) by have h1 := Q40.out.own; rwa [HPRE.out] at h1)
          clear hb
          rw [HST.out, HX.out, HE.out]
          obtain ⟨r1, hr1, hr1b, hr1e⟩ : ∃ r1 : Nat, (n1 : Int).tmod 256 = (r1 : Int) ∧ (r1 : Int) ≤ 255 ∧ r1 = n1 % 256 := ⟨n1 % 256, rfl, by omega, rfl⟩
          obtain ⟨r4, hr4, hr4b, hr4e⟩ : ∃ r4 : Nat, (n4 : Int).tmod 256 = (r4 : Int) ∧ (r4 : Int) ≤ 255 ∧ r4 = n4 % 256 := ⟨n4 % 256, rfl, by omega, rfl⟩
          have R1E := Lib.hid hr1e
          have R4E := Lib.hid hr4e
          clear hr1e hr4e
          have hcell0 := G40.out
          clear hcell0
          by_cases hbad : 4 ≤ n1 ∨ 9 < n4
          · have HBAD := Lib.hid hbad
            have hno : mayB { (⟨min n1 255, n2, n3, min n4 255, n6, n7, n8, n9, n10, n11, l12, [], n5⟩ : BackX) with names := ns } = false := by
              rcases hbad with hbad | hbad
              · exact mayB_client (by show 4 ≤ min n1 255; omega)
              · exact mayB_status (by show 9 < min n4 255; omega)
            have HNO := Lib.hid hno
            clear hno
            have hbad' : 4 ≤ (n1 : Int) ∨ (n1 : Int) < 4 ∧ 9 < (n4 : Int) := by omega
            clear hbad
            rcases hbad' with hb1 | ⟨hb1, hb2⟩
            · go_wp2_with (first
                | ((with_reducible show wpList _ _ _ _ _ w40); refine wpList_store1 rfl 5 _ _ rfl g5 0 rfl (.int .u8 (r1 : Int)) rfl rfl infoU8 31 _ G40.out (bac_lt _ _ _ (by decide)) ?_; intro w42 hk ht; go_frame; have G42 := Lib.hid (show Cs w42 g5 31 (bacCells { c12 with client := r1, names := pre } (.slice A12v l12.length c12v) (.slice A5 N5 c5)).toArray from hk); have T42 := Lib.hid ht; clear hk ht)
                | ((with_reducible show wpList _ _ _ _ _ w42); refine wpList_store1 rfl 5 _ _ rfl g5 3 rfl (.int .u8 (r4 : Int)) rfl rfl infoU8 31 _ G42.out (bac_lt _ _ _ (by decide)) ?_; intro w43 hk ht; go_frame; have G43 := Lib.hid (show Cs w43 g5 31 (bacCells { c12 with client := r1, status := r4, names := pre } (.slice A12v l12.length c12v) (.slice A5 N5 c5)).toArray from hk); have T43 := Lib.hid (T42.out.trans ht fun _ _ h => h); have C43 := Lib.hid (C40.out.turn T43.out (by have := NG.out; have := NQ.out; omega)); have B43 := Lib.hid (below_turn B40.out T43.out B40.out.size (by have := NG.out; have := NQ.out; omega)); have V43 := Lib.hid (V40.out.turn T43.out (fun k hk e => hk.2.1 e)); have U43 := Lib.hid (ownsRow_turn' U40.out T43.out (fun k hk e => by have h1 := own_base U40.out k hk; have h2 := N36.out; omega)); have W43 := Lib.hid (Nat.le_trans W40.out T43.out.size); clear hk ht)
                | ((with_reducible show wpList _ _ _ _ _ w43); refine wpList_storeS rfl 31 _ _ rfl g1 rfl zc zc rfl C43.out rfl (bac_one rfl rfl) infoBack ?_; intro w45 hk ht; go_frame; have C45 := Lib.hid hk; have B45 := Lib.hid (below_turn B43.out ht B43.out.size G1.out); clear hk ht)
                | fail)
              refine bac_end2 (cs := zc) rfl rfl C45.out rfl rfl ?_
              rw [HRES.out, if_neg HM.out, HE.out, if_neg (show ¬ ((0 : Int) ≠ 0) by decide), if_pos HNO.out]
              exact ansZR 5 B45.out
            · go_wp2_with (first
                | ((with_reducible show wpList _ _ _ _ _ w40); refine wpList_store1 rfl 5 _ _ rfl g5 0 rfl (.int .u8 (r1 : Int)) rfl rfl infoU8 31 _ G40.out (bac_lt _ _ _ (by decide)) ?_; intro w42 hk ht; go_frame; have G42 := Lib.hid (show Cs w42 g5 31 (bacCells { c12 with client := r1, names := pre } (.slice A12v l12.length c12v) (.slice A5 N5 c5)).toArray from hk); have T42 := Lib.hid ht; clear hk ht)
                | ((with_reducible show wpList _ _ _ _ _ w42); refine wpList_store1 rfl 5 _ _ rfl g5 3 rfl (.int .u8 (r4 : Int)) rfl rfl infoU8 31 _ G42.out (bac_lt _ _ _ (by decide)) ?_; intro w43 hk ht; go_frame; have G43 := Lib.hid (show Cs w43 g5 31 (bacCells { c12 with client := r1, status := r4, names := pre } (.slice A12v l12.length c12v) (.slice A5 N5 c5)).toArray from hk); have T43 := Lib.hid (T42.out.trans ht fun _ _ h => h); have C43 := Lib.hid (C40.out.turn T43.out (by have := NG.out; have := NQ.out; omega)); have B43 := Lib.hid (below_turn B40.out T43.out B40.out.size (by have := NG.out; have := NQ.out; omega)); have V43 := Lib.hid (V40.out.turn T43.out (fun k hk e => hk.2.1 e)); have U43 := Lib.hid (ownsRow_turn' U40.out T43.out (fun k hk e => by have h1 := own_base U40.out k hk; have h2 := N36.out; omega)); have W43 := Lib.hid (Nat.le_trans W40.out T43.out.size); clear hk ht)
                | ((with_reducible show wpList _ _ _ _ _ w43); refine wpList_storeS rfl 31 _ _ rfl g1 rfl zc zc rfl C43.out rfl (bac_one rfl rfl) infoBack ?_; intro w45 hk ht; go_frame; have C45 := Lib.hid hk; have B45 := Lib.hid (below_turn B43.out ht B43.out.size G1.out); clear hk ht)
                | fail)
              refine bac_end2 (cs := zc) rfl rfl C45.out rfl rfl ?_
              rw [HRES.out, if_neg HM.out, HE.out, if_neg (show ¬ ((0 : Int) ≠ 0) by decide), if_pos HNO.out]
              exact ansZR 5 B45.out
          have hg1 : decide (4 ≤ (n1 : Int)) = false := decide_eq_false (by omega)
          have hg4 : decide (9 < (n4 : Int)) = false := decide_eq_false (by omega)
          have hc' : ({ c12 with client := r1, status := r4, names := pre } : BackX) = { (⟨min n1 255, n2, n3, min n4 255, n6, n7, n8, n9, n10, n11, l12, [], n5⟩ : BackX) with names := ns } := by
            rw [← HC.out, ← HNE.out]
            have e1 := R1E.out
            have e4 := R4E.out
            have f1 : r1 = min n1 255 := by omega
            have f4 : r4 = min n4 255 := by omega
            rw [f1, f4]
          have HCC := Lib.hid hc'
          clear hc' hbad
          have HCD := Lib.hid (show c12.data = l12 by rw [← HC.out])
          have OKK := Lib.hid (show bacOk { c12 with client := r1, status := r4, names := pre } by
            rw [HCC.out]
            have h1 := headG_ok s0 ns
            rw [EH.out] at h1
            exact h1)
          generalize hcy : bacCells { c12 with client := r1, status := r4, names := pre } (.slice A12v l12.length c12v) (.slice A5 N5 c5) = csx at *
          have HCY := Lib.hid hcy
          have HI9 := Lib.hid (show (Tryd.prog.info? 31).map (·.size) = some csx.length by rw [← hcy]; exact infoBack)
          have HO9 := Lib.hid (show ∀ x ∈ csx, x.oneCell' = true by rw [← hcy]; exact bac_one rfl rfl)
          have HL9 := Lib.hid (show csx.length = 13 by rw [← hcy]; rfl)
          clear hcy
          cases hmb : mayB { c12 with client := r1, status := r4, names := pre }
          · have HMB := Lib.hid hmb
            clear hmb
            go_wp2_with (first
              | ((with_reducible show wpList _ _ _ _ _ w40); refine wpList_store1 rfl 5 _ _ rfl g5 0 rfl (.int .u8 (r1 : Int)) rfl rfl infoU8 31 _ G40.out (bac_lt _ _ _ (by decide)) ?_; intro w42 hk ht; go_frame; have G42 := Lib.hid (show Cs w42 g5 31 (bacCells { c12 with client := r1, names := pre } (.slice A12v l12.length c12v) (.slice A5 N5 c5)).toArray from hk); have T42 := Lib.hid ht; clear hk ht)
              | ((with_reducible show wpList _ _ _ _ _ w42); refine wpList_store1 rfl 5 _ _ rfl g5 3 rfl (.int .u8 (r4 : Int)) rfl rfl infoU8 31 _ G42.out (bac_lt _ _ _ (by decide)) ?_; intro w43 hk ht; go_frame; have G43 := Lib.hid (show Cs w43 g5 31 csx.toArray by rw [← HCY.out]; exact hk); have T43 := Lib.hid (T42.out.trans ht fun _ _ h => h); have C43 := Lib.hid (C40.out.turn T43.out (by have := NG.out; have := NQ.out; omega)); have B43 := Lib.hid (below_turn B40.out T43.out B40.out.size (by have := NG.out; have := NQ.out; omega)); have V43 := Lib.hid (V40.out.turn T43.out (fun k hk e => hk.2.1 e)); have U43 := Lib.hid (ownsRow_turn' U40.out T43.out (fun k hk e => by have h1 := own_base U40.out k hk; have h2 := N36.out; omega)); have W43 := Lib.hid (Nat.le_trans W40.out T43.out.size); clear hk ht)
              | ((with_reducible show wpList _ _ _ _ _ w43); refine wpList_loadG (by rfl) 31 _ rfl g5 rfl csx G43.out _ Tryd.underlying31 rfl HI9.out ?_; go_frame)
              | fail)
            have BV := Lib.hid (show BacV w43 (fun k => w.heap.size ≤ k ∧ k ≠ g1) { c12 with client := r1, status := r4, names := pre } (.slice A12v l12.length c12v) (.slice A5 N5 c5) from ⟨(by show BsV _ _ _ c12.data; rw [HCD.out]; exact V43.out.mono (fun k _ hk => by have h1 := hk.1; have h2 := NG.out; have h3 := NQ.out; omega)), ((NmV.own U43.out).mono (fun k _ hk => by have h2 := B13.out.size; have h3 := C13.out.lt; omega)), OKK.out⟩)
            have hmv := MayR_v BV.out
            rw [HCY.out, HMB.out] at hmv
            refine hmv.mono ?_
            clear hmv
            rintro e w44 ⟨rfl, hb⟩
            have C44 := Lib.hid (C43.out.below hb C43.out.lt)
            have B44 := Lib.hid (below_chain B43.out hb)
            have BV44 := Lib.hid (BV.out.below hb)
            have G44 := Lib.hid (G43.out.below hb G43.out.lt)
            clear hb
            go_wp2_with (first
              | ((with_reducible show wpList _ _ _ _ _ w44); refine wpList_storeS rfl 31 _ _ rfl g1 rfl zc zc rfl C44.out rfl (bac_one rfl rfl) infoBack ?_; intro w45 hk ht; go_frame; have C45 := Lib.hid hk; have B45 := Lib.hid (below_turn B44.out ht B44.out.size G1.out); clear hk ht)
              | fail)
            refine bac_end2 (cs := zc) rfl rfl C45.out rfl rfl ?_
            rw [HRES.out, if_neg HM.out, HE.out, if_neg (show ¬ ((0 : Int) ≠ 0) by decide), if_pos (by rw [← HCC.out]; exact HMB.out)]
            exact ansZR 5 B45.out
          · have HMB := Lib.hid hmb
            clear hmb
            go_wp2_with (first
              | ((with_reducible show wpList _ _ _ _ _ w40); refine wpList_store1 rfl 5 _ _ rfl g5 0 rfl (.int .u8 (r1 : Int)) rfl rfl infoU8 31 _ G40.out (bac_lt _ _ _ (by decide)) ?_; intro w42 hk ht; go_frame; have G42 := Lib.hid (show Cs w42 g5 31 (bacCells { c12 with client := r1, names := pre } (.slice A12v l12.length c12v) (.slice A5 N5 c5)).toArray from hk); have T42 := Lib.hid ht; clear hk ht)
              | ((with_reducible show wpList _ _ _ _ _ w42); refine wpList_store1 rfl 5 _ _ rfl g5 3 rfl (.int .u8 (r4 : Int)) rfl rfl infoU8 31 _ G42.out (bac_lt _ _ _ (by decide)) ?_; intro w43 hk ht; go_frame; have G43 := Lib.hid (show Cs w43 g5 31 csx.toArray by rw [← HCY.out]; exact hk); have T43 := Lib.hid (T42.out.trans ht fun _ _ h => h); have C43 := Lib.hid (C40.out.turn T43.out (by have := NG.out; have := NQ.out; omega)); have B43 := Lib.hid (below_turn B40.out T43.out B40.out.size (by have := NG.out; have := NQ.out; omega)); have V43 := Lib.hid (V40.out.turn T43.out (fun k hk e => hk.2.1 e)); have U43 := Lib.hid (ownsRow_turn' U40.out T43.out (fun k hk e => by have h1 := own_base U40.out k hk; have h2 := N36.out; omega)); have W43 := Lib.hid (Nat.le_trans W40.out T43.out.size); clear hk ht)
              | ((with_reducible show wpList _ _ _ _ _ w43); refine wpList_loadG (by rfl) 31 _ rfl g5 rfl csx G43.out _ Tryd.underlying31 rfl HI9.out ?_; go_frame)
              | fail)
            have BV := Lib.hid (show BacV w43 (fun k => w.heap.size ≤ k ∧ k ≠ g1) { c12 with client := r1, status := r4, names := pre } (.slice A12v l12.length c12v) (.slice A5 N5 c5) from ⟨(by show BsV _ _ _ c12.data; rw [HCD.out]; exact V43.out.mono (fun k _ hk => by have h1 := hk.1; have h2 := NG.out; have h3 := NQ.out; omega)), ((NmV.own U43.out).mono (fun k _ hk => by have h2 := B13.out.size; have h3 := C13.out.lt; omega)), OKK.out⟩)
            have hmv := MayR_v BV.out
            rw [HCY.out, HMB.out] at hmv
            refine hmv.mono ?_
            clear hmv
            rintro e w44 ⟨rfl, hb⟩
            have C44 := Lib.hid (C43.out.below hb C43.out.lt)
            have B44 := Lib.hid (below_chain B43.out hb)
            have BV44 := Lib.hid (BV.out.below hb)
            have G44 := Lib.hid (G43.out.below hb G43.out.lt)
            clear hb
            go_wp2_with (first
              | ((with_reducible show wpList _ _ _ _ _ w44); refine wpList_loadS rfl 31 _ rfl g5 rfl csx G44.out _ Tryd.underlying31 rfl HI9.out ?_; go_frame)
              | ((with_reducible show wpList _ _ _ _ _ w44); refine wpList_storeS rfl 31 _ _ rfl g1 rfl csx zc rfl C44.out (by rw [HL9.out]; rfl) HO9.out HI9.out ?_; intro w45 hk ht; go_frame; have C45 := Lib.hid hk; have T45 := Lib.hid ht; have B45 := Lib.hid (below_turn B44.out ht B44.out.size G1.out); clear hk ht)
              | fail)
            refine bac_end2 (cs := csx) rfl HL9.out C45.out rfl rfl ?_
            rw [HRES.out, if_neg HM.out, HE.out, if_neg (show ¬ ((0 : Int) ≠ 0) by decide), if_neg (by rw [← HCC.out, HMB.out]; decide), ← HCC.out]
            exact ⟨_, _, (by rw [← HCY.out]; rfl), (BV44.out.turn T45.out fun k hk e => hk.2 e).mono fun k _ hk => hk.1, B45.out⟩
        · have HE := Lib.hid he
          clear he
          go_wp2_with fail
          refine (End_q HQ.out.rd).mono ?_
          rintro e w40 ⟨rfl, hb⟩
          have Q40 := Lib.hid (HQ.out.below hb)
          have C40 := Lib.hid (C13.out.turn Q40.out.tn (by have := NQ.out; have := NG.out; omega))
          have B40 := Lib.hid (B13.out.trans (Q40.out.tn.below B13.out.size fun k hk => by have := NQ.out; have := NG.out; omega))
          clear hb
          rw [HST.out, HX.out]
          have hne := HE.out
          have hen := HX.out
          clear hen
          generalize hee : endR s14 = en at *
          have hne1 : (en != 0) = true := by simpa using hne
          have hne2 : (en == 0) = false := by simpa using hne
          have HEE := Lib.hid hee
          clear hee hne
          go_wp2_with (first
            | ((with_reducible show wpList _ _ _ _ _ w40); refine wpList_storeS rfl 31 _ _ rfl g1 rfl zc zc rfl C40.out rfl (bac_one rfl rfl) infoBack ?_; intro w41 hk ht; go_frame; have C41 := Lib.hid hk; have B41 := Lib.hid (below_turn B40.out ht B40.out.size G1.out); clear hk ht)
            | fail)
          refine bac_end2 (cs := zc) rfl rfl C41.out rfl rfl ?_
          have hne := HE.out
          rw [HRES.out, if_neg HM.out, if_pos hne]
          exact ansZR en B41.out

end Go.Proofs.YtboalmmpcfiicaaDoor
