/- SWEPT -/
import Derived.Lib.AppendZeros
import Derived.Test.YtdhlejhflkfoaaaDoorKB4
import Derived.Test.YtdhlejhflkfoaaaDoorKB7
import Derived.Test.YtdhlejhflkfoaaaDoorKB2
import Derived.Test.YtdhlejhflkfoaaaDoorKB6
import Derived.Test.YtdhlejhflkfoaaaDoorKB3
import Derived.Test.YtdhlejhflkfoaaaDoorKB9
import Derived.Test.YtdhlejhflkfoaaaDoorKB5
/- slices.Grow of nil, slices.Concat of lists of bytes, however many. -/
namespace Go.Proofs.YtdhlejhflkfoaaaDoor
open Go.RowKit Go.Shelf
set_option linter.unusedVariables false
set_option maxRecDepth 100000
set_option linter.unusedSimpArgs false

theorem zeros_run (n : Nat) (h0 : 0 < n) (hn : n ≤ 281474976710656) (w : World) : ∃ cap Z, n ≤ cap ∧ cap ≤ maxLen ∧ Z.size = cap ∧ Z.toList.all isU8 = true ∧
    (Builtin.append_ #[25, 3] 25 #[.slice none 0 0, .int .i64 (n : Int)]).run Tryd.prog w = .ok (.slice (some ⟨w.heap.size, 0, none⟩) n cap) (w.drew.alloc (.cells Z 5)) := by
  obtain ⟨i0, hi, hz0, hz1, hz2⟩ := info_parts Try_info5
  have h := Lib.run_append_nil_zeros (P := Tryd.prog) w 25 3 25 5 i0 (.int .u8 0) .i64 .i64 Tryd.underlying25 Tryd.underlying3 hi hz0 n h0 (by rw [hz1]; decide) (by omega) (by rw [hz2]; omega)
  have hge := grownCap_ge w n 0 5
  exact ⟨_, _, hge, grownCap_le_maxLen w n 0 5 (by unfold maxLen; omega), by simp [size_zeroCells, Value.cells]; omega, by rw [Array.toList_append, List.all_append, zeroCells_u8, zeroCells_u8]; rfl, h⟩
theorem Grow_nil (n : Nat) (h0 : 0 < n) (hn : n ≤ 281474976710656) (w : World) : Calls Tryd.prog 67 #[.slice none 0 0, .int .i64 (n : Int)] w fun e w' =>
    ∃ v, e = .returned v ∧ w'.ownsRow w.heap.size 5 1 v 0 [] ∧ TyB w' v ∧ Below w.heap.size w w' := by
  obtain ⟨cap, Z, hc, hm, hZ, hU, hrun⟩ := zeros_run n h0 hn w
  have HU := Lib.hid hU
  clear hU
  have hp : (0 : Int) < (n : Int) := by omega
  have hm' : cap ≤ 9223372036854775807 := by unfold maxLen at hm; omega
  have HC := Lib.hid hc
  have HN := Lib.hid hn
  have HM := Lib.hid hm
  clear hc h0 hm
  have hn' : (n : Int) ≤ 281474976710656 := by omega
  clear hn
  go_enter Tryd.func67, Tryd.ntmps67
  go_wp2_with (at_builtin; refine Lib.wpList_append_run _ rfl (.tmp 20) (.tmp 21) _ _ rfl (.slice none 0 0) (.int .i64 (n : Int)) rfl rfl _ _ hrun ?_)
  go_ret
  refine ⟨_, rfl, ⟨rfl, .inr ⟨w.heap.size, cap, Z, rfl, Nat.le_refl _, ?_, Nat.zero_le _, HM.out, by omega, by simp⟩⟩, .inr ⟨w.heap.size, 0, cap, Z, rfl, Cs.new w.drew 5 Z, hZ, HM.out, HU.out⟩, (Below.refl _ _).drew.alloc (Nat.le_refl _) _⟩
  exact Cs.new w.drew 5 Z

theorem take_snocB {α : Type} {l : List α} {k : Nat} (h : k < l.length) : l.take (k + 1) = l.take k ++ [l[k]] := List.take_succ_eq_append_getElem h
/-- a part: where it lies, its room, its bytes -/
abbrev Part := Option Addr × Nat × List UInt8
def flatP (ps : List Part) : List UInt8 := (ps.map (·.2.2)).flatten
theorem flatP_snoc {ps : List Part} {k : Nat} (h : k < ps.length) : flatP (ps.take (k + 1)) = flatP (ps.take k) ++ ps[k].2.2 := by
  unfold flatP
  rw [take_snocB h, List.map_append, List.flatten_append]
  simp
theorem flatP_le (ps : List Part) (k : Nat) : (flatP (ps.take k)).length ≤ (flatP ps).length := by
  unfold flatP
  conv => rhs; rw [← List.take_append_drop k ps, List.map_append, List.flatten_append, List.length_append]
  exact Nat.le_add_right _ _
structure PartAt (w : World) (S : Nat) (ps : List Part) : Prop where
  cell : ∀ j (h : j < ps.length), w.cell? ⟨S, j, none⟩ = some (.slice ps[j].1 ps[j].2.2.length ps[j].2.1)
  rd : ∀ j (h : j < ps.length), Rd w ps[j].1 ps[j].2.2
  nil : ∀ j (h : j < ps.length), ps[j].1 = none → ps[j].2.2 = [] ∧ ps[j].2.1 = 0
theorem PartAt.below {w w' : World} {S : Nat} {ps : List Part} (h : PartAt w S ps) (hb : Below w.heap.size w w') : PartAt w' S ps :=
  ⟨fun j hj => (hb.cell (lt_of_cell (h.cell j hj))).trans (h.cell j hj), fun j hj => (h.rd j hj).below hb, h.nil⟩
set_option maxHeartbeats 4000000 in
theorem Concat_n (S : Nat) (ps : List Part) (w : World) (hk : ps.length ≤ 8) (h0 : 0 < (flatP ps).length) (hm : (flatP ps).length ≤ 140737488355328) (h : PartAt w S ps) :
    Calls Tryd.prog 45 #[.slice (some ⟨S, 0, none⟩) ps.length ps.length] w fun e w' => ∃ v, e = .returned v ∧ NewV w' (w.heap.size ≤ ·) v (flatP ps) ∧ Below w.heap.size w w' := by
  have HA := Lib.hid h
  have HM := Lib.hid hm
  have HK := Lib.hid hk
  have HG := Lib.hid (Grow_nil (flatP ps).length h0 (by omega))
  have ik : (ps.length : Int) ≤ 8 := by omega
  clear h hm hk h0
  go_enter Tryd.func45, Tryd.ntmps45
  go_wp2_with fail
  go_loop [3, 11] (fun s c => ∃ k : Nat, k ≤ ps.length ∧ s = .int .i64 ((flatP (ps.take k)).length : Int) ∧ c = .int .i64 k) (fun _ c => ps.length - (intOf c).toNat)
  case atStart => exact ⟨0, Nat.zero_le _, rfl, rfl⟩
  case round =>
    obtain ⟨k, hk, rfl, rfl⟩ := hrel
    by_cases hlt : k < ps.length
    · have HS := Lib.hid (flatP_snoc hlt)
      have q0 := HA.out.cell k hlt
      have hL1 := flatP_le ps (k + 1)
      rw [flatP_snoc hlt, List.length_append] at hL1
      have hm := HM.out
      generalize hA : ps[k] = p at *
      obtain ⟨A, c, l⟩ := p
      dsimp only at *
      have HSL := Lib.hid (show (flatP (ps.take (k + 1))).length = (flatP (ps.take k)).length + l.length by rw [HS.out, List.length_append])
      generalize (flatP (ps.take k)).length = n at *
      have i1 : (n : Int) + l.length ≤ 140737488355328 := by omega
      clear hL1 hm
      have hL : IntKind.i64.wrap ((n : Int) + l.length) = (n : Int) + l.length := by rw [IntKind.wrap_i64]; omega
      have hneg : ¬ ((n : Int) + l.length < 0) := by omega
      go_wp2_with fail
      go_round
      case rel => exact ⟨k + 1, hlt, by rw [HSL.out]; push_cast; first | rfl | (simp; done), by go_num⟩
      case measure => simp [intOf]; omega
    · obtain rfl : k = ps.length := by omega
      rw [List.take_length]
      go_wp2_with fail
      refine (HG.out _).mono ?_
      rintro e w1 ⟨v, rfl, hown, hty, hb⟩
      have HO := Lib.hid hown
      have HTY := Lib.hid hty
      have HB := Lib.hid hb
      clear hown hb hty HG
      go_wp2_with fail
      go_loopw [6, 27] (fun v c wr => ∃ k : Nat, k ≤ ps.length ∧ c = .int .i64 k ∧ wr.ownsRow w.heap.size 5 1 v (flatP (ps.take k)).length (cellsOf (flatP (ps.take k))) ∧ TyB wr v ∧ Below w.heap.size w wr) (fun _ c _ => ps.length - (intOf c).toNat)
      case atStart => exact ⟨0, Nat.zero_le _, rfl, HO.out, HTY.out, HB.out⟩
      case round =>
        obtain ⟨k, hk, rfl, hown, hty, hb⟩ := hrel
        have HOW := Lib.hid hown
        have HTW := Lib.hid hty
        have HBW := Lib.hid hb
        have HPB := Lib.hid (HA.out.below hb)
        clear hown hb hty
        by_cases hlt : k < ps.length
        · have HS := Lib.hid (flatP_snoc hlt)
          have q0 := HPB.out.cell k hlt
          have HR := Lib.hid (HPB.out.rd k hlt)
          have HN := Lib.hid (HPB.out.nil k hlt)
          have hL1 := flatP_le ps (k + 1)
          rw [flatP_snoc hlt, List.length_append] at hL1
          have HLL := Lib.hid (Nat.le_trans hL1 HM.out)
          generalize hA : ps[k] = p at *
          obtain ⟨A, c, l⟩ := p
          dsimp only at *
          clear hL1 hA
          go_wp2_with (at_builtin; refine append_rd_ty rfl (.tmp 31) (.tmp 32) rfl w.heap.size _ _ _ rfl HOW.out HTW.out A l l.length c rfl rfl HR.out HN.out HLL.out HBW.out.size ?_; intro v2 w2 hown2 hty2 hgr2)
          go_roundw
          case rel => exact ⟨k + 1, hlt, by go_num, by rw [HS.out, List.length_append]; exact hown2, hty2, HBW.out.grown hgr2 HBW.out.size (own_base HOW.out)⟩
          case measure => simp [intOf]; omega
        · obtain rfl : k = ps.length := by omega
          rw [List.take_length] at HOW
          go_wp2_with fail
          go_ret
          exact ⟨_, rfl, NewV.own HOW.out HTW.out (fun k hk => hk), HBW.out⟩

end Go.Proofs.YtdhlejhflkfoaaaDoor
/- The program: number, key, the rows of a session, of the rest, of a node. -/
namespace Go.Proofs.YtdhlejhflkfoaaaDoor
open Go.RowKit Go.Shelf
set_option linter.unusedVariables false
set_option maxRecDepth 100000
set_option linter.unusedSimpArgs false

theorem kept_rd (A : Option Addr) (l : List UInt8) : Kept fun u => Rd u A l := fun a b h hb => h.below hb
theorem kept_nv (F : Nat → Prop) (v : Value) (l : List UInt8) : Kept fun u => NewV u F v l := fun a b h hb => h.below hb
theorem BsV.parts {w : World} {F : Nat → Prop} {v : Value} {l : List UInt8} (h : BsV w F v l) : ∃ A c, v = .slice A l.length c ∧ Rd w A l ∧ (A = none → l = [] ∧ c = 0) := by
  obtain ⟨A, c, e, h1, h2, -⟩ := h
  exact ⟨A, c, e, h1.rd, h2⟩
theorem BsV.sl {w : World} {F : Nat → Prop} {v : Value} {l : List UInt8} (h : BsV w F v l) : ∃ A n c, v = .slice A n c := by
  obtain ⟨A, c, rfl, -⟩ := h
  exact ⟨A, _, c, rfl⟩
def rowZ : List Value := [sv [], .slice none 0 0]
theorem rowZero (w : World) : (zeroValue 41).run Tryd.prog w = .ok (.agg rowZ.toArray) w := by kernel_rfl
theorem infoRow : (Tryd.prog.info? 41).map (·.size) = some 2 := by kernel_rfl
theorem run_buildRw {a : Act} {o : Oper} {w : World} {x y : Operand} (ho : o.op = .build 41 #[(0, x), (1, y)]) (k : Key) (A : Option Addr) (n c : Nat) (hx : a.eval x = sv k) (hy : a.eval y = .slice A n c) : (execOp a.eval o).run Tryd.prog w = .ok (.value (.agg #[sv k, .slice A n c])) w := by
  unfold execOp
  simp only [ho, hx, hy, List.map_toArray, List.map_cons, List.map_nil]
  unfold sv
  go_simp
theorem wpList_buildRw {w : World} {ops : Array Oper} {rest : List Oper} {o : Oper} {a : Act} {Q : Exit → Act → World → Prop} (hgd : o.guard = none) (x y : Operand) (ho : o.op = .build 41 #[(0, x), (1, y)]) (k : Key) (A : Option Addr) (n c : Nat) (hx : a.eval x = sv k) (hy : a.eval y = .slice A n c)
    (h : wpList Tryd.prog ops Q rest (a.put o.dst (.agg #[sv k, .slice A n c])) w) : wpList Tryd.prog ops Q (o :: rest) a w :=
  wpList_plain hgd fun _ hh => wp_of_run2 (run_buildRw ho k A n c hx hy) (hh _ _ h)
/-- a row, new -/
def RowRet (x : Rw) (w : World) (e : Ending) (w' : World) : Prop := ∃ v, e = .returned (.agg #[sv x.1, v]) ∧ NewV w' (w.heap.size ≤ ·) v x.2 ∧ Below w.heap.size w w'
def NumRet (x : Int) (k : Nat) (w : World) (e : Ending) (w' : World) : Prop := ∃ g, e = .returned (.slice (some ⟨g, 0, none⟩) k k) ∧ Rd w' (some ⟨g, 0, none⟩) (beL x k) ∧ Below w.heap.size w w'
theorem number_v (x : Int) (k : Nat) (w : World) (hs : sizeB k = true) (hx : 0 ≤ x) (hx' : x ≤ 18446744073709551615) (hfit : fitsB x k = true) :
    Calls Tryd.prog 46 #[.int .u64 x, .int .i64 k] w fun e w' => NumRet x k w e w' := by
  have HP := Lib.hid (Put_ok x k hs hx hx' w hfit)
  clear hfit hs
  go_enter Tryd.func46, Tryd.ntmps46
  go_wp2_with fail
  refine HP.out.mono ?_
  rintro e w1 ⟨rfl, hb, hr⟩
  have B1 := Lib.hid hb
  have R1 := Lib.hid hr
  clear hb hr
  go_wp2_with fail
  go_ret
  exact ⟨_, rfl, R1.out, B1.out⟩
theorem fitB4 {n : Nat} (h : n < 4294967296) : fitsB (n : Int) 4 = true := by simp [fitsB, lim]; omega
theorem fitB8 {n : Nat} (h : n < 18446744073709551616) : fitsB (n : Int) 8 = true := by simp [fitsB, lim]; omega
theorem fitB1 {n : Nat} (h : n < 256) : fitsB (n : Int) 1 = true := by simp [fitsB, lim]; omega
theorem num4 (n : Nat) (h : n < 4294967296) (w : World) : Calls Tryd.prog 46 #[.int .u64 (n : Int), .int .i64 4] w fun e w' => NumRet (n : Int) 4 w e w' := number_v n 4 w rfl (by omega) (by omega) (fitB4 h)
theorem num8 (n : Nat) (h : n < 18446744073709551616) (w : World) : Calls Tryd.prog 46 #[.int .u64 (n : Int), .int .i64 8] w fun e w' => NumRet (n : Int) 8 w e w' := number_v n 8 w rfl (by omega) (by omega) (fitB8 h)
theorem num1 (n : Nat) (h : n < 256) (w : World) : Calls Tryd.prog 46 #[.int .u64 (n : Int), .int .i64 1] w fun e w' => NumRet (n : Int) 1 w e w' := number_v n 1 w rfl (by omega) (by omega) (fitB1 h)
set_option maxHeartbeats 1000000 in
theorem key_v (f : Nat) (hf : f < 256) (A : Option Addr) (c : Nat) (l : List UInt8) (w : World) (hr : Rd w A l) (hn : A = none → l = [] ∧ c = 0) (hl : l.length ≤ 16) :
    Calls Tryd.prog 47 #[.int .u8 (f : Int), .slice A l.length c] w fun e w' => e = .returned (sv (UInt8.ofNat f :: l)) ∧ Below w.heap.size w w' := by
  have HR := Lib.hid hr
  have HN := Lib.hid hn
  have HL := Lib.hid hl
  have HF := Lib.hid (show (UInt8.ofNat f).toNat = f by rw [UInt8.toNat_ofNat']; omega)
  clear hr hn hl hf
  go_enter Tryd.func47, Tryd.ntmps47
  go_wp2_with (first
    | (at_builtin; refine append_rd rfl _ _ rfl w.heap.size (.slice (some ⟨w.heap.size, 0, none⟩) 1 1) 1 [UInt8.ofNat f] rfl (by show World.ownsRow _ _ _ _ _ _ [Value.int .u8 (((UInt8.ofNat f).toNat : Nat) : Int)]; rw [HF.out]; exact World.ownsRow_lit w #[.int .u8 (f : Int)] 1 (Nat.le_refl _) (by decide) rfl) A l l.length c rfl rfl (HR.out.below ((Below.refl _ _).alloc (Nat.le_refl _) _)) HN.out (by have := HL.out; omega) (by have := ((Below.refl w.heap.size w).alloc (Nat.le_refl _) (.cells #[.int .u8 (f : Int)] 5)).size; exact this) ?_; intro v' w' ho hg; go_frame; obtain ⟨g', c', rfl, hc1, hc2⟩ := own_form ho (by omega); have hcv := conv_rd (own_rd ho) c'; have B2 := Lib.hid (((Below.refl w.heap.size w).alloc (Nat.le_refl _) (.cells #[.int .u8 (f : Int)] 5)).grown hg ((Below.refl w.heap.size w).alloc (Nat.le_refl _) _).size (fun k e => by cases e; exact Nat.le_refl _)); rw [show ([UInt8.ofNat f] ++ l).length = 1 + l.length by simp; omega] at hcv; clear ho hg)
    | fail)
  go_ret
  exact ⟨rfl, B2.out⟩
theorem run_parts3 {a : Act} {o : Oper} {w : World} {x0 : Operand} {v0 : Value} {x1 : Operand} {v1 : Value} {x2 : Operand} {v2 : Value} (ho : o.op = .buildSlice 104 3 #[(0, x0), (1, x1), (2, x2)]) (h0 : a.eval x0 = v0) (k0 : v0.oneCell' = true) (h1 : a.eval x1 = v1) (k1 : v1.oneCell' = true) (h2 : a.eval x2 = v2) (k2 : v2.oneCell' = true) : (execOp a.eval o).run Tryd.prog w = .ok (.value (.slice (some ⟨w.heap.size, 0, none⟩) 3 3)) (w.alloc (.cells #[v0, v1, v2] 25)) := by
  have c0 := cells_single k0
  unfold Value.cells at c0
  have c1 := cells_single k1
  unfold Value.cells at c1
  have c2 := cells_single k2
  unfold Value.cells at c2
  unfold execOp
  simp only [ho, h0, h1, h2, List.map_toArray, List.map_cons, List.map_nil]
  go_simp
  try simp [c0, c1, c2]
theorem PartAt.mk3 {w : World} {S : Nat} {A0 : Option Addr} {c0 : Nat} {l0 : List UInt8} {A1 : Option Addr} {c1 : Nat} {l1 : List UInt8} {A2 : Option Addr} {c2 : Nat} {l2 : List UInt8} (hC : Cs w S 25 #[.slice A0 l0.length c0, .slice A1 l1.length c1, .slice A2 l2.length c2]) (r0 : Rd w A0 l0) (n0 : A0 = none → l0 = [] ∧ c0 = 0) (r1 : Rd w A1 l1) (n1 : A1 = none → l1 = [] ∧ c1 = 0) (r2 : Rd w A2 l2) (n2 : A2 = none → l2 = [] ∧ c2 = 0) : PartAt w S [(A0, c0, l0), (A1, c1, l1), (A2, c2, l2)] := by
  refine ⟨fun j hj => ?_, fun j hj => ?_, fun j hj => ?_⟩
  · rcases (show j = 0 ∨ j = 1 ∨ j = 2 by simp at hj; omega) with rfl | rfl | rfl
    · exact hC.cell 0 rfl
    · exact hC.cell 1 rfl
    · exact hC.cell 2 rfl
  · rcases (show j = 0 ∨ j = 1 ∨ j = 2 by simp at hj; omega) with rfl | rfl | rfl
    · exact r0
    · exact r1
    · exact r2
  · rcases (show j = 0 ∨ j = 1 ∨ j = 2 by simp at hj; omega) with rfl | rfl | rfl
    · exact n0
    · exact n1
    · exact n2
theorem run_parts4 {a : Act} {o : Oper} {w : World} {x0 : Operand} {v0 : Value} {x1 : Operand} {v1 : Value} {x2 : Operand} {v2 : Value} {x3 : Operand} {v3 : Value} (ho : o.op = .buildSlice 104 4 #[(0, x0), (1, x1), (2, x2), (3, x3)]) (h0 : a.eval x0 = v0) (k0 : v0.oneCell' = true) (h1 : a.eval x1 = v1) (k1 : v1.oneCell' = true) (h2 : a.eval x2 = v2) (k2 : v2.oneCell' = true) (h3 : a.eval x3 = v3) (k3 : v3.oneCell' = true) : (execOp a.eval o).run Tryd.prog w = .ok (.value (.slice (some ⟨w.heap.size, 0, none⟩) 4 4)) (w.alloc (.cells #[v0, v1, v2, v3] 25)) := by
  have c0 := cells_single k0
  unfold Value.cells at c0
  have c1 := cells_single k1
  unfold Value.cells at c1
  have c2 := cells_single k2
  unfold Value.cells at c2
  have c3 := cells_single k3
  unfold Value.cells at c3
  unfold execOp
  simp only [ho, h0, h1, h2, h3, List.map_toArray, List.map_cons, List.map_nil]
  go_simp
  try simp [c0, c1, c2, c3]
theorem PartAt.mk4 {w : World} {S : Nat} {A0 : Option Addr} {c0 : Nat} {l0 : List UInt8} {A1 : Option Addr} {c1 : Nat} {l1 : List UInt8} {A2 : Option Addr} {c2 : Nat} {l2 : List UInt8} {A3 : Option Addr} {c3 : Nat} {l3 : List UInt8} (hC : Cs w S 25 #[.slice A0 l0.length c0, .slice A1 l1.length c1, .slice A2 l2.length c2, .slice A3 l3.length c3]) (r0 : Rd w A0 l0) (n0 : A0 = none → l0 = [] ∧ c0 = 0) (r1 : Rd w A1 l1) (n1 : A1 = none → l1 = [] ∧ c1 = 0) (r2 : Rd w A2 l2) (n2 : A2 = none → l2 = [] ∧ c2 = 0) (r3 : Rd w A3 l3) (n3 : A3 = none → l3 = [] ∧ c3 = 0) : PartAt w S [(A0, c0, l0), (A1, c1, l1), (A2, c2, l2), (A3, c3, l3)] := by
  refine ⟨fun j hj => ?_, fun j hj => ?_, fun j hj => ?_⟩
  · rcases (show j = 0 ∨ j = 1 ∨ j = 2 ∨ j = 3 by simp at hj; omega) with rfl | rfl | rfl | rfl
    · exact hC.cell 0 rfl
    · exact hC.cell 1 rfl
    · exact hC.cell 2 rfl
    · exact hC.cell 3 rfl
  · rcases (show j = 0 ∨ j = 1 ∨ j = 2 ∨ j = 3 by simp at hj; omega) with rfl | rfl | rfl | rfl
    · exact r0
    · exact r1
    · exact r2
    · exact r3
  · rcases (show j = 0 ∨ j = 1 ∨ j = 2 ∨ j = 3 by simp at hj; omega) with rfl | rfl | rfl | rfl
    · exact n0
    · exact n1
    · exact n2
    · exact n3

set_option maxHeartbeats 8000000 in
theorem rowOfSession_v (i : Nat) (s : Ses) (sv0 : Value) (F : Nat → Prop) (w : World) (hi : i < 256) (h1 : s.1 < 4294967296) (h2 : s.2.1 < 18446744073709551616) (hl : s.2.2.length ≤ 4096) (hb : BsV w F sv0 s.2.2) :
    Calls Tryd.prog 24 #[.int .i64 (i : Int), .agg #[.int .u32 (s.1 : Int), .int .u64 (s.2.1 : Int), sv0]] w fun e w' => RowRet (sesR i s) w e w' := by
  have hmix : Tryd.prog.follows .mixedOrders = true := by kernel_rfl
  obtain ⟨inc, seq, back⟩ := s
  dsimp only at *
  obtain ⟨A, c, rfl, hr, hn⟩ := hb.parts
  have HR := Lib.hid hr
  have HN := Lib.hid hn
  have HL := Lib.hid hl
  have H1 := Lib.hid h1
  have H2 := Lib.hid h2
  have HI := Lib.hid hi
  have jw : IntKind.u64.wrap (inc : Int) = inc := by rw [IntKind.wrap_u64]; omega
  have jw2 : IntKind.u64.wrap (i : Int) = i := by rw [IntKind.wrap_u64]; omega
  clear hb hr hn hl h1 h2
  go_enter Tryd.func24, Tryd.ntmps24
  go_wp2_with (first
    | ((with_reducible show wpList _ _ _ _ _ w); refine wpList_boxS rfl 27 _ rfl [.int .u32 (inc : Int), .int .u64 (seq : Int), .slice A back.length c] rfl ?_; intro g1 w1 hk1 hb1 hg1; go_frame; have C1 := Lib.hid hk1; have B1 := Lib.hid hb1; clear hk1 hb1 hg1)
    | ((with_reducible show wpList _ _ _ _ _ w1); refine wpList_allocS rfl 41 rfl rowZ rowZero ?_; intro g2 w2 hk1 hb1 hg1; go_frame; have C2 := Lib.hid hk1; have C12 := Lib.hid (C1.out.below hb1 C1.out.lt); have B2 := Lib.hid (below_chain B1.out hb1); have G2 := Lib.hid (Nat.le_trans B1.out.size hg1); clear hk1 hb1 hg1)
    | fail)
  have HR2 := Lib.hid (HR.out.below B2.out)
  refine wp_region_V [] (fun u => Below w2.heap.size w2 u) hmix ((Below.refl _ _).drew) ?_
  change wpAnyV _ _ _ _ _ _ _ _ _
  refine wpAnyV_take (i := 0) (v := .pointer (some ⟨g1, 0, none⟩)) 20 (kept_below _) rfl (by kernel_rfl) (by kernel_rfl) (fun _ _ _ h => h) (fun _ h => h) (DoesV.reads (by rfl) fun w9 hS => by go_simp) ?_
  try simp only [nrm, Act.put]
  refine wpAnyV_take (i := 1) (v := .int .u32 (inc : Int)) 20 (kept_below _) rfl (by kernel_rfl) (by kernel_rfl) (fun _ _ _ h => h) (fun _ h => h) (DoesV.reads (by rfl) fun w9 hS => by have q0 : w9.cell? ⟨g1, 0, none⟩ = some (.int .u32 (inc : Int)) := (C12.out.below hS C12.out.lt).cell 0 rfl; go_simp) ?_
  try simp only [nrm, Act.put]
  refine wpAnyV_take (i := 2) (v := .int .u64 (inc : Int)) 20 (kept_below _) rfl (by kernel_rfl) (by kernel_rfl) (fun _ _ _ h => h) (fun _ h => h) (DoesV.reads (by rfl) fun w9 hS => by go_simp) ?_
  try simp only [nrm, Act.put]
  refine wpAnyV_take (i := 4) (v := .pointer (some ⟨g1, 1, none⟩)) 20 (kept_below _) rfl (by kernel_rfl) (by kernel_rfl) (fun _ _ _ h => h) (fun _ h => h) (DoesV.reads (by rfl) fun w9 hS => by go_simp) ?_
  try simp only [nrm, Act.put]
  refine wpAnyV_take (i := 5) (v := .int .u64 (seq : Int)) 20 (kept_below _) rfl (by kernel_rfl) (by kernel_rfl) (fun _ _ _ h => h) (fun _ h => h) (DoesV.reads (by rfl) fun w9 hS => by have q0 : w9.cell? ⟨g1, 1, none⟩ = some (.int .u64 (seq : Int)) := (C12.out.below hS C12.out.lt).cell 1 rfl; go_simp) ?_
  try simp only [nrm, Act.put]
  refine wpAnyV_take (i := 7) (v := .pointer (some ⟨g1, 2, none⟩)) 20 (kept_below _) rfl (by kernel_rfl) (by kernel_rfl) (fun _ _ _ h => h) (fun _ h => h) (DoesV.reads (by rfl) fun w9 hS => by go_simp) ?_
  try simp only [nrm, Act.put]
  refine wpAnyV_take (i := 8) (v := .slice A back.length c) 20 (kept_below _) rfl (by kernel_rfl) (by kernel_rfl) (fun _ _ _ h => h) (fun _ h => h) (DoesV.reads (by rfl) fun w9 hS => by have q0 : w9.cell? ⟨g1, 2, none⟩ = some (.slice A back.length c) := (C12.out.below hS C12.out.lt).cell 2 rfl; go_simp) ?_
  try simp only [nrm, Act.put]
  refine wpAnyV_only (i := 3) rfl (by kernel_rfl) rfl (fun u hS => wp_of_call (f := 46) (args := #[.int .u64 (inc : Int), .int .i64 4]) (by go_simp) (num4 inc H1.out u) fun e u' hu => ?_)
  try simp only [nrm, Act.put]
  obtain ⟨gn0, he, hr, hb⟩ := hu
  refine ⟨_, he, (fun u => (Below w2.heap.size w2 u) ∧ Rd u (some ⟨gn0, 0, none⟩) (beL (inc : Int) 4)), ⟨(kept_below _) _ _ hS hb, hr⟩, kept_and (kept_below _) (kept_rd _ _), fun _ _ h => h.1, ?_⟩
  clear hr hb he hS
  try simp only [nrm, Act.put]
  refine wpAnyV_only (i := 6) rfl (by kernel_rfl) rfl (fun u hS => wp_of_call (f := 46) (args := #[.int .u64 (seq : Int), .int .i64 8]) (by go_simp) (num8 seq H2.out u) fun e u' hu => ?_)
  try simp only [nrm, Act.put]
  obtain ⟨gn1, he, hr, hb⟩ := hu
  refine ⟨_, he, (fun u => ((Below w2.heap.size w2 u) ∧ Rd u (some ⟨gn0, 0, none⟩) (beL (inc : Int) 4)) ∧ Rd u (some ⟨gn1, 0, none⟩) (beL (seq : Int) 8)), ⟨(kept_and (kept_below _) (kept_rd _ _)) _ _ hS hb, hr⟩, kept_and (kept_and (kept_below _) (kept_rd _ _)) (kept_rd _ _), fun _ _ h => h.1, ?_⟩
  clear hr hb he hS
  try simp only [nrm, Act.put]
  refine wpAnyV_only (i := 9) rfl (by kernel_rfl) rfl (fun ub hS => wp_of_run2 (run_parts3 rfl rfl rfl rfl rfl rfl rfl) ⟨(fun u => (((Below w2.heap.size w2 u) ∧ Rd u (some ⟨gn0, 0, none⟩) (beL (inc : Int) 4)) ∧ Rd u (some ⟨gn1, 0, none⟩) (beL (seq : Int) 8)) ∧ Cs u ub.heap.size 25 #[.slice (some ⟨gn0, 0, none⟩) 4 4, .slice (some ⟨gn1, 0, none⟩) 8 8, .slice A back.length c]), ⟨(kept_and (kept_and (kept_below _) (kept_rd _ _)) (kept_rd _ _)) _ _ hS ((Below.refl _ _).alloc (Nat.le_refl _) _), Cs.new _ _ _⟩, kept_and (kept_and (kept_and (kept_below _) (kept_rd _ _)) (kept_rd _ _)) (kept_cs _ _ _), fun _ _ h => h.1, ?_⟩)
  try simp only [nrm, Act.put]
  refine wpAnyV_only (i := 10) rfl (by kernel_rfl) rfl (fun u hS => wp_of_call (f := 45) (args := #[.slice (some ⟨ub.heap.size, 0, none⟩) 3 3]) (by go_simp) (Concat_n ub.heap.size [(some ⟨gn0, 0, none⟩, 4, beL (inc : Int) 4), (some ⟨gn1, 0, none⟩, 8, beL (seq : Int) 8), (A, c, back)] u (by simp) (by simp [flatP, beL_length]; try omega) (by simp [flatP, beL_length]; have := HL.out; omega) (PartAt.mk3 hS.2 (hS.1.1.2) (fun h => by cases h) (hS.1.2) (fun h => by cases h) (HR2.out.below (hS.1.1.1)) (HN.out))) fun e u' hu => ?_)
  try simp only [nrm, Act.put]
  obtain ⟨vz, he, hnv, hb⟩ := hu
  refine ⟨vz, he, fun z => ((fun u => (((Below w2.heap.size w2 u) ∧ Rd u (some ⟨gn0, 0, none⟩) (beL (inc : Int) 4)) ∧ Rd u (some ⟨gn1, 0, none⟩) (beL (seq : Int) 8)) ∧ Cs u ub.heap.size 25 #[.slice (some ⟨gn0, 0, none⟩) 4 4, .slice (some ⟨gn1, 0, none⟩) 8 8, .slice A back.length c])) z ∧ NewV z (w2.heap.size ≤ ·) vz (flatP [(some ⟨gn0, 0, none⟩, 4, beL (inc : Int) 4), (some ⟨gn1, 0, none⟩, 8, beL (seq : Int) 8), (A, c, back)]), ⟨(kept_and (kept_and (kept_and (kept_below _) (kept_rd _ _)) (kept_rd _ _)) (kept_cs _ _ _)) _ _ hS hb, hnv.mono fun k _ hk => Nat.le_trans (hS.1.1.1).size hk⟩, kept_and (kept_and (kept_and (kept_and (kept_below _) (kept_rd _ _)) (kept_rd _ _)) (kept_cs _ _ _)) (kept_nv _ _ _), fun _ _ h => h.1, ?_⟩
  clear hnv hb he hS
  try simp only [nrm, Act.put]
  refine wpAnyV_only (i := 11) rfl (by kernel_rfl) rfl (fun u hS => wp_of_run2 (v := vz) (by go_simp) ⟨_, hS, kept_and (kept_and (kept_and (kept_and (kept_below _) (kept_rd _ _)) (kept_rd _ _)) (kept_cs _ _ _)) (kept_nv _ _ _), fun _ _ h => h, ?_⟩)
  try simp only [nrm, Act.put]
  refine wpAnyV_done (by kernel_rfl) (fun w8 hz => ?_) _
  have BZ := Lib.hid hz.1.1.1.1
  have VZ := Lib.hid hz.2
  clear hz
  obtain ⟨Az, nz, cz, rfl⟩ := VZ.out.1.sl
  have B8 := Lib.hid (below_chain B2.out BZ.out)
  have C28 := Lib.hid (C2.out.below BZ.out C2.out.lt)
  go_wp2_with fail
  refine (num1 i HI.out w8).mono ?_
  rintro e w9 ⟨gn, rfl, hr9, hb9⟩
  have R9 := Lib.hid hr9
  have B9 := Lib.hid hb9
  clear hr9 hb9
  go_wp2_with fail
  refine (key_v 115 (by decide) (some ⟨gn, 0, none⟩) 1 (beL (i : Int) 1) w9 R9.out (fun h => by cases h) (by rw [beL_length]; decide)).mono ?_
  rintro e w10 ⟨rfl, hb10⟩
  have B10 := Lib.hid (below_chain B8.out (below_chain B9.out hb10))
  have C2a := Lib.hid (C28.out.below (below_chain B9.out hb10) C28.out.lt)
  have VZa := Lib.hid (VZ.out.below (below_chain B9.out hb10))
  clear hb10
  go_wp2_with (first
    | ((with_reducible show wpList _ _ _ _ _ w10); refine wpList_buildRw rfl _ _ rfl (115 :: beL (i : Int) 1) Az nz cz rfl rfl ?_; go_frame)
    | ((with_reducible show wpList _ _ _ _ _ w10); refine wpList_storeS rfl 41 _ _ rfl g2 rfl [sv (115 :: beL (i : Int) 1), .slice Az nz cz] rowZ rfl C2a.out rfl (by intro q hq; simp at hq; rcases hq with rfl | rfl; rfl; rfl) infoRow ?_; intro w11 hk2 ht2; go_frame; have C2b := Lib.hid hk2; have T11 := Lib.hid ht2; clear hk2 ht2)
    | fail)
  refine bodyPost_ret (results_agg (P := Tryd.prog) (p := 4) (ty := 41) rfl _ _ g2 0 [sv (115 :: beL (i : Int) 1), .slice Az nz cz] rfl (At.whole C2b.out) _ Tryd.underlying41 rfl infoRow) rfl ?_
  refine ⟨.slice Az nz cz, rfl, ?_, B10.out.trans (T11.out.below B10.out.size fun q e => e ▸ G2.out)⟩
  have hv := (VZa.out.turn T11.out fun k hk e => by have := C2.out.lt; omega).mono (G := (w.heap.size ≤ ·)) fun k _ hk => by have := B2.out.size; omega
  rw [show flatP _ = sesV (inc, seq, back) by simp [flatP, sesV]] at hv
  exact hv

end Go.Proofs.YtdhlejhflkfoaaaDoor
/- The reference of num.Put: what it hands back is its own. -/
namespace Go.Proofs.YtdhlejhflkfoaaaDoor
open Go.RowKit Go.Shelf
set_option linter.unusedVariables false
set_option maxRecDepth 100000

end Go.Proofs.YtdhlejhflkfoaaaDoor
/- The reference: number, a node's row. -/
namespace Go.Proofs.YtdhlejhflkfoaaaDoor
open Go.RowKit Go.Shelf
set_option linter.unusedVariables false
set_option maxRecDepth 100000
set_option linter.unusedSimpArgs false

abbrev OwnYB (w : World) (base : Nat) (v : Value) (l : List UInt8) : Prop := w.ownsRow base 5 1 v l.length (cellsOf l)
theorem OwnYB.below {w w' : World} {base : Nat} {v : Value} {l : List UInt8} (h : OwnYB w base v l) (hb : Below w.heap.size w w') : OwnYB w' base v l := ownsRow_turn' h (Turn.of_below hb fun _ => False) fun _ _ h => h
theorem OwnYB.nil (w : World) (base : Nat) : OwnYB w base (.slice none 0 0) [] := World.ownsRow_nil _ _ _ _
theorem OwnYB.slice {w : World} {base : Nat} {v : Value} {l : List UInt8} (h : OwnYB w base v l) : ∃ A c, v = .slice A l.length c := by
  obtain ⟨A, c, e, -⟩ := BsV.own h
  exact ⟨A, c, e⟩
end Go.Proofs.YtdhlejhflkfoaaaDoor
/- The reference: Copy: the same tree. -/
namespace Go.Proofs.YtdhlejhflkfoaaaDoor
open Go.RowKit Go.Shelf
set_option linter.unusedVariables false
set_option maxRecDepth 100000
set_option linter.unusedSimpArgs false

theorem infoBsB : (Tryd.prog.info? 25).map (·.size) = some 1 := by kernel_rfl
section
variable {w : World} {ops : Array Oper} {rest : List Oper} {o : Oper} {a : Act} {Q : Exit → Act → World → Prop}
end
/-- a session's three cells, from o on -/
structure SesC (w : World) (F : Nat → Prop) (cur : Array Value) (o : Nat) (s : Ses) : Prop where
  inc : cur[o]? = some (.int .u32 (s.1 : Int))
  seq : cur[o + 1]? = some (.int .u64 (s.2.1 : Int))
  back : ∃ v, cur[o + 2]? = some v ∧ BsV w F v s.2.2
theorem tr_cells {w : World} {F : Nat → Prop} {cur : Array Value} {t : Tr} {nv : Value} (hs : cur.size = 16) (h0 : cur[0]? = some nv) (h1 : cur[1]? = some (.int .u32 (t.lastGen : Int))) (h2 : cur[2]? = some (.int .u32 (t.boot : Int))) (h3 : cur[3]? = some (.int .u32 (t.count : Int))) (hn : LsV nodeE w F nv t.nodes) (h4 : t.sess.length = 4)
    (hse : ∀ j (hj : j < t.sess.length), SesC w F cur (4 + j * 3) t.sess[j]) (hb : ∀ s ∈ t.sess, s.1 < 4294967296 ∧ s.2.1 < 18446744073709551616 ∧ s.2.2.length ≤ 140737488355328) (hbig : t.lastGen < 4294967296 ∧ t.boot < 4294967296 ∧ t.count < 4294967296) : TrAt w F cur.toList t := by
  obtain ⟨x0, x1, x2, x3, he⟩ : ∃ x0 x1 x2 x3, t.sess = [x0, x1, x2, x3] := by
    match ht : t.sess, h4 with
    | [x0, x1, x2, x3], _ => exact ⟨x0, x1, x2, x3, rfl⟩
  have k0 := hse 0 (by rw [he]; simp)
  have k1 := hse 1 (by rw [he]; simp)
  have k2 := hse 2 (by rw [he]; simp)
  have k3 := hse 3 (by rw [he]; simp)
  simp only [he, List.getElem_cons_zero, List.getElem_cons_succ] at k0 k1 k2 k3
  obtain ⟨a0, b0, v0, c0, d0⟩ := k0
  obtain ⟨a1, b1, v1, c1, d1⟩ := k1
  obtain ⟨a2, b2, v2, c2, d2⟩ := k2
  obtain ⟨a3, b3, v3, c3, d3⟩ := k3
  have hl : cur.toList = nv :: .int .u32 (t.lastGen : Int) :: .int .u32 (t.boot : Int) :: .int .u32 (t.count : Int) :: (sesC x0 v0 ++ sesC x1 v1 ++ sesC x2 v2 ++ sesC x3 v3) := by
    refine List.ext_getElem? fun i => ?_
    rw [Array.getElem?_toList]
    by_cases hi : i < 16
    · rcases (show i = 0 ∨ i = 1 ∨ i = 2 ∨ i = 3 ∨ i = 4 ∨ i = 5 ∨ i = 6 ∨ i = 7 ∨ i = 8 ∨ i = 9 ∨ i = 10 ∨ i = 11 ∨ i = 12 ∨ i = 13 ∨ i = 14 ∨ i = 15 by omega) with rfl | rfl | rfl | rfl | rfl | rfl | rfl | rfl | rfl | rfl | rfl | rfl | rfl | rfl | rfl | rfl
      · exact h0
      · exact h1
      · exact h2
      · exact h3
      · exact a0
      · exact b0
      · exact c0
      · exact a1
      · exact b1
      · exact c1
      · exact a2
      · exact b2
      · exact c2
      · exact a3
      · exact b3
      · exact c3
    · rw [Array.getElem?_eq_none (by omega), List.getElem?_eq_none (by simp [sesC]; omega)]
  rw [he] at hb
  refine ⟨nv, _, hl, hn, ?_, h4, rfl, hbig⟩
  rw [he]
  exact ses_four d0 d1 d2 d3 hb
theorem set_ne {cur : Array Value} {i j : Nat} {v : Value} (h : i ≠ j) : (cur.setIfInBounds i v)[j]? = cur[j]? := Array.getElem?_setIfInBounds_ne h
theorem SesC.keep {w w' : World} {F : Nat → Prop} {cur : Array Value} {o i : Nat} {s : Ses} {u : Value} (h : SesC w F cur o s) (h0 : i ≠ o) (h1 : i ≠ o + 1) (h2 : i ≠ o + 2) (hb : ∀ v, BsV w F v s.2.2 → BsV w' F v s.2.2) : SesC w' F (cur.setIfInBounds i u) o s := by
  obtain ⟨v, k1, k2⟩ := h.back
  exact ⟨by rw [set_ne h0]; exact h.inc, by rw [set_ne h1]; exact h.seq, v, by rw [set_ne h2]; exact k1, hb v k2⟩
theorem SesC.put {w w' : World} {F : Nat → Prop} {cur : Array Value} {o : Nat} {s : Ses} {u : Value} (h : SesC w F cur o s) (hs : o + 2 < cur.size) (hb : BsV w' F u s.2.2) : SesC w' F (cur.setIfInBounds (o + 2) u) o s :=
  ⟨by rw [set_ne (by omega)]; exact h.inc, by rw [set_ne (by omega)]; exact h.seq, u, Array.getElem?_setIfInBounds_self_of_lt hs, hb⟩
end Go.Proofs.YtdhlejhflkfoaaaDoor
/- The program: a loader's readers, and the names of a value. -/
namespace Go.Proofs.YtdhlejhflkfoaaaDoor
open Go.RowKit Go.Shelf
set_option linter.unusedVariables false
set_option maxRecDepth 100000
set_option linter.unusedSimpArgs false

/-- a loader: its tree's cells, what is left of the key, of the value -/
def LdAt (w : World) (F : Nat → Prop) (L : Nat) (hd : List Value) (k l : List UInt8) : Prop :=
  ∃ kv vv, Cs w L 64 (hd ++ [kv, vv]).toArray ∧ hd.length = 16 ∧ BsV w F kv k ∧ BsV w F vv l ∧ ¬ F L ∧ k.length ≤ 1000000 ∧ l.length ≤ 1000000
theorem LdAt.turn {w w' : World} {F G : Nat → Prop} {L : Nat} {hd : List Value} {k l : List UInt8} (h : LdAt w F L hd k l) (ht : Turn w w' G) (hG : ∀ q, F q → ¬ G q) (hL : ¬ G L) : LdAt w' F L hd k l := by
  obtain ⟨kv, vv, h1, h2, h3, h4, h5⟩ := h
  exact ⟨kv, vv, h1.turn ht hL, h2, h3.turn ht hG, h4.turn ht hG, h5⟩
theorem LdAt.below {w w' : World} {F : Nat → Prop} {L : Nat} {hd : List Value} {k l : List UInt8} (h : LdAt w F L hd k l) (hb : Below w.heap.size w w') : LdAt w' F L hd k l := h.turn (Turn.of_below hb fun _ => False) (fun _ _ h => h) (fun h => h)
theorem LdAt.mono {w : World} {F G : Nat → Prop} {L : Nat} {hd : List Value} {k l : List UInt8} (h : LdAt w F L hd k l) (hF : ∀ q, q < w.heap.size → F q → G q) (hL : ¬ G L) : LdAt w G L hd k l := by
  obtain ⟨kv, vv, h1, h2, h3, h4, h5, h6⟩ := h
  exact ⟨kv, vv, h1, h2, h3.mono hF, h4.mono hF, hL, h6⟩
theorem LdAt.lt {w : World} {F : Nat → Prop} {L : Nat} {hd : List Value} {k l : List UInt8} (h : LdAt w F L hd k l) : L < w.heap.size := by
  obtain ⟨kv, vv, h1, -⟩ := h
  exact h1.lt
theorem LdAt.off {w : World} {F : Nat → Prop} {L : Nat} {hd : List Value} {k l : List UInt8} (h : LdAt w F L hd k l) : ¬ F L := by
  obtain ⟨kv, vv, -, -, -, -, h1, -⟩ := h
  exact h1
theorem LdAt.vlen {w : World} {F : Nat → Prop} {L : Nat} {hd : List Value} {k l : List UInt8} (h : LdAt w F L hd k l) : l.length ≤ 1000000 := by
  obtain ⟨kv, vv, -, -, -, -, -, -, h1⟩ := h
  exact h1
theorem ld_get {hd : List Value} {kv vv : Value} (h : hd.length = 16) : (hd ++ [kv, vv]).toArray[16]? = some kv ∧ (hd ++ [kv, vv]).toArray[17]? = some vv := by
  constructor
  · rw [List.getElem?_toArray, List.getElem?_append_right (by omega), h]
    rfl
  · rw [List.getElem?_toArray, List.getElem?_append_right (by omega), h]
    rfl
theorem ld_set {hd : List Value} {kv vv u : Value} (h : hd.length = 16) : (hd ++ [kv, vv]).toArray.setIfInBounds 16 u = (hd ++ [u, vv]).toArray ∧ (hd ++ [kv, vv]).toArray.setIfInBounds 17 u = (hd ++ [kv, u]).toArray := by
  constructor
  · rw [List.setIfInBounds_toArray, List.set_append_right _ _ (by omega), h]
    rfl
  · rw [List.setIfInBounds_toArray, List.set_append_right _ _ (by omega), h]
    rfl
theorem LdAt.key {w : World} {F : Nat → Prop} {L : Nat} {hd : List Value} {k l : List UInt8} (h : LdAt w F L hd k l) : ∃ cur, RdrAt w F L 16 cur k ∧ ∀ n w', Took w F L 16 cur k n w' → LdAt w' F L hd (k.drop n) l ∧ Turn w w' (· = L) := by
  obtain ⟨kv, vv, h1, h2, h3, h4, h5, h6, h7⟩ := h
  refine ⟨_, ⟨h1, ⟨kv, (ld_get h2).1, h3⟩, h5, h6⟩, fun n w' ⟨u, _, hr, ht⟩ => ?_⟩
  obtain ⟨hb, ⟨v, hv1, hv2⟩, -, -⟩ := hr
  rw [(ld_set h2).1] at hb hv1
  rw [(ld_get h2).1] at hv1
  cases hv1
  exact ⟨⟨u, vv, hb, h2, hv2, h4.turn ht fun q hq e => h5 (e ▸ hq), h5, by rw [List.length_drop]; omega, h7⟩, ht⟩
theorem LdAt.val {w : World} {F : Nat → Prop} {L : Nat} {hd : List Value} {k l : List UInt8} (h : LdAt w F L hd k l) : ∃ cur, RdrAt w F L 17 cur l ∧ ∀ n w', Took w F L 17 cur l n w' → LdAt w' F L hd k (l.drop n) ∧ Turn w w' (· = L) := by
  obtain ⟨kv, vv, h1, h2, h3, h4, h5, h6, h7⟩ := h
  refine ⟨_, ⟨h1, ⟨vv, (ld_get h2).2, h4⟩, h5, h7⟩, fun n w' ⟨u, _, hr, ht⟩ => ?_⟩
  obtain ⟨hb, ⟨v, hv1, hv2⟩, -, -⟩ := hr
  rw [(ld_set h2).2] at hb hv1
  rw [(ld_get h2).2] at hv1
  cases hv1
  exact ⟨⟨kv, u, hb, h2, h3.turn ht fun q hq e => h5 (e ▸ hq), hv2, h5, h6, by rw [List.length_drop]; omega⟩, ht⟩
section
variable {w : World} {F : Nat → Prop} {L : Nat} {hd : List Value} {k l : List UInt8}
theorem ld_num (h : LdAt w F L hd k l) (n : Nat) (hn : sizeB (n : Int) = true) : Calls Tryd.prog 76 #[.pointer (some ⟨L, 17, none⟩), .int .i64 (n : Int)] w fun e w' => e = .returned (.int .u64 (numD l n : Int)) ∧ LdAt w' F L hd k (l.drop n) ∧ Turn w w' (· = L) := by
  obtain ⟨cur, h1, h2⟩ := h.val
  exact (number_r L 17 n cur l F w h1 hn).mono fun e w' ⟨he, ht⟩ => ⟨he, h2 _ _ ht⟩
theorem ld_num32 (h : LdAt w F L hd k l) : Calls Tryd.prog 75 #[.pointer (some ⟨L, 17, none⟩)] w fun e w' => e = .returned (.int .u32 (numD l 4 : Int)) ∧ LdAt w' F L hd k (l.drop 4) ∧ Turn w w' (· = L) := by
  obtain ⟨cur, h1, h2⟩ := h.val
  exact (number32_r L 17 cur l F w h1).mono fun e w' ⟨he, ht⟩ => ⟨he, h2 _ _ ht⟩
theorem ld_piece (h : LdAt w F L hd k l) (n : Nat) (hn : n ≤ 9223372036854775807) : Calls Tryd.prog 93 #[.pointer (some ⟨L, 17, none⟩), .int .i64 (n : Int)] w fun e w' => ∃ v, e = .returned v ∧ NewV w' (w.heap.size ≤ ·) v (l.take n) ∧ LdAt w' F L hd k (l.drop n) ∧ Turn w w' (· = L) := by
  obtain ⟨cur, h1, h2⟩ := h.val
  exact (piece_v L 17 n cur l F w h1 hn).mono fun e w' ⟨v, he, hv, ht⟩ => ⟨v, he, hv, h2 _ _ ht⟩
theorem ld_all (h : LdAt w F L hd k l) : Calls Tryd.prog 78 #[.pointer (some ⟨L, 17, none⟩)] w fun e w' => ∃ v, e = .returned v ∧ NewV w' (w.heap.size ≤ ·) v l ∧ LdAt w' F L hd k [] ∧ Turn w w' (· = L) := by
  obtain ⟨cur, h1, h2⟩ := h.val
  exact (all_r L 17 cur l F w h1).mono fun e w' ⟨v, he, hv, ht⟩ => ⟨v, he, hv, by have := h2 _ _ ht; rwa [List.drop_length] at this⟩
theorem ld_keyn (h : LdAt w F L hd k l) (n : Nat) (hn : sizeB (n : Int) = true) : Calls Tryd.prog 76 #[.pointer (some ⟨L, 16, none⟩), .int .i64 (n : Int)] w fun e w' => e = .returned (.int .u64 (numD k n : Int)) ∧ LdAt w' F L hd (k.drop n) l ∧ Turn w w' (· = L) := by
  obtain ⟨cur, h1, h2⟩ := h.key
  exact (number_r L 16 n cur k F w h1 hn).mono fun e w' ⟨he, ht⟩ => ⟨he, h2 _ _ ht⟩
theorem ld_key32 (h : LdAt w F L hd k l) : Calls Tryd.prog 75 #[.pointer (some ⟨L, 16, none⟩)] w fun e w' => e = .returned (.int .u32 (numD k 4 : Int)) ∧ LdAt w' F L hd (k.drop 4) l ∧ Turn w w' (· = L) := by
  obtain ⟨cur, h1, h2⟩ := h.key
  exact (number32_r L 16 cur k F w h1).mono fun e w' ⟨he, ht⟩ => ⟨he, h2 _ _ ht⟩
theorem kept_ld (w0 : World) : Kept (fun z => LdAt z F L hd k l ∧ Turn w0 z (· = L)) := fun a b h hb => ⟨h.1.below hb, h.2.trans (Turn.of_below hb _) fun _ _ h => h⟩
end
/-- the names of bytes, as the program reads them -/
def namD (l : List UInt8) : List Ent :=
  match l with
  | [] => []
  | b :: r => ((r.take (numD (b :: r) 1)), numD (r.drop (numD (b :: r) 1)) 4) :: namD ((r.drop (numD (b :: r) 1)).drop 4)
termination_by l.length
decreasing_by simp; omega
theorem namD_nil : namD [] = [] := by unfold namD; rfl
theorem namD_cons {l : List UInt8} (h : l ≠ []) : namD l = ((l.drop 1).take (numD l 1), numD ((l.drop 1).drop (numD l 1)) 4) :: namD (((l.drop 1).drop (numD l 1)).drop 4) := by
  cases l with
  | nil => exact absurd rfl h
  | cons b r => rw [namD]; rfl
section
variable {ops : Array Oper} {Q : Exit → Act → World → Prop} {rest : List Oper} {o : Oper} {a : Act} {w : World}
theorem run_buildEnt {x y : Operand} {t : List UInt8} {n : Nat} (ho : o.op = .build 80 #[(0, x), (1, y)]) (h1 : a.eval x = sv t) (h2 : a.eval y = .int .u32 (n : Int)) : (execOp a.eval o).run Tryd.prog w = .ok (.value (.agg #[sv t, .int .u32 (n : Int)])) w := by
  unfold execOp
  simp only [ho, h1, h2, List.map_toArray, List.map_cons, List.map_nil]
  unfold sv
  go_simp
theorem wp_buildE {K : Act → World → Prop} {x : Operand} {t : List UInt8} {n : Nat} (ho : o.op = .buildSlice 46 1 #[(0, x)]) (h1 : a.eval x = .agg #[sv t, .int .u32 (n : Int)]) (h : ∀ g w', Cs w' g 80 #[sv t, .int .u32 (n : Int)] → Below w.heap.size w w' → w.heap.size ≤ g → K (a.put o.dst (.slice (some ⟨g, 0, none⟩) 1 1)) w') : o.wp Tryd.prog a w K Q := by
  refine wp_of_run2 (v := .slice (some ⟨w.heap.size, 0, none⟩) 1 1) (w' := w.alloc (.cells #[sv t, .int .u32 (n : Int)] 80)) ?_ (h _ _ (Cs.new _ _ _) ((Below.refl _ _).alloc (Nat.le_refl _) _) (Nat.le_refl _))
  unfold execOp
  simp only [ho, h1, List.map_toArray, List.map_cons, List.map_nil]
  unfold sv
  go_simp
end
theorem kept_trn (w0 : World) (L : Nat) : Kept (fun z => Turn w0 z (· = L)) := fun a b h hb => h.trans (Turn.of_below hb _) fun _ _ h => h
theorem kept_r4 (w wr : World) (F : Nat → Prop) (L : Nat) (hd : List Value) (u3 : Value) (Ap : Option Addr) {n cp : Nat} {key r nm : List UInt8} {ls : List Ent} : Kept (fun z => ((LdAt z F L hd key r ∧ Turn w z (· = L) ∧ wr.heap.size ≤ z.heap.size) ∧ OwnX entE z w.heap.size (w.heap.size ≤ ·) u3 ls) ∧ BsV z (wr.heap.size ≤ ·) (.slice Ap n cp) nm) := fun a b h hb =>
  ⟨⟨⟨h.1.1.1.below hb, h.1.1.2.1.trans (Turn.of_below hb _) fun _ _ h => h, Nat.le_trans h.1.1.2.2 hb.size⟩, h.1.2.below hb⟩, h.2.below hb⟩
theorem Turn.grownL {w z z' : World} {L : Nat} {v : Value} (h : Turn w z (· = L)) (hg : z.grownBy z' v.ownBlock) (hv : ∀ q, v.ownBlock = some q → w.heap.size ≤ q) : Turn w z' (· = L) :=
  h.trans (Turn.of_grown hg) fun i hi e => absurd (hv i e) (by omega)
set_option maxHeartbeats 16000000 in
theorem names_r (L : Nat) (hd : List Value) (key l : List UInt8) (F : Nat → Prop) (w : World) (h : LdAt w F L hd key l) (hF : ∀ q, F q → q < w.heap.size) :
    Calls Tryd.prog 77 #[.pointer (some ⟨L, 0, none⟩)] w fun e w' => ∃ v, e = .returned v ∧ OwnX entE w' w.heap.size (w.heap.size ≤ ·) v (namD l) ∧ LdAt w' F L hd key [] ∧ Turn w w' (· = L) := by
  have hmix : Tryd.prog.follows .mixedOrders = true := by kernel_rfl
  have HL := Lib.hid h
  have HFW := Lib.hid hF
  clear hF
  have HLT := Lib.hid h.lt
  have HVL := Lib.hid h.vlen
  clear h
  go_enter Tryd.func77, Tryd.ntmps77
  go_wp2_with fail
  go_loopg [3] l.length (fun kx v3 wr => ∃ (ls : List Ent) (r : List UInt8), OwnX entE wr w.heap.size (w.heap.size ≤ ·) v3 ls ∧ LdAt wr F L hd key r ∧ Turn w wr (· = L) ∧ ls ++ namD r = namD l ∧ r.length = kx ∧ ls.length + r.length ≤ l.length)
  case atStart => exact ⟨[], l, OwnX.nil _ _ _, HL.out, Turn.of_below (Below.refl _ _) _, by simp, rfl, by simp⟩
  case round =>
    obtain ⟨ls, r, ho, hl, ht, hn, hk, hb⟩ := hrel
    have HO := Lib.hid ho
    have HR := Lib.hid hl
    have HT := Lib.hid ht
    have HN := Lib.hid hn
    have HB := Lib.hid hb
    have HK := Lib.hid hk
    obtain ⟨kv, vv, hc, h16, -, hv, -⟩ := hl
    obtain ⟨A, c, rfl, -⟩ := hv.parts
    have i1 : (r.length : Int) ≤ 1000000 := by have := HVL.out; omega
    have q0 : wr.cell? ⟨L, 17, none⟩ = some (.slice A r.length c) := hc.cell 17 (ld_get h16).2
    clear ho ht hn hb hc h16 hv hk
    by_cases he : r = []
    · subst he
      obtain ⟨Av, cv, rfl, -⟩ := HO.out.form
      have HN1 := Lib.hid (show ls = namD l by have := HN.out; rwa [namD_nil, List.append_nil] at this)
      clear HN
      simp only [List.length_nil, Int.ofNat_zero, Int.natCast_zero] at q0 i1
      go_wp2_with fail
      go_ret
      refine ⟨_, rfl, ?_, HR.out, HT.out⟩
      rw [← HN1.out]
      exact HO.out
    · have hpos : 0 < r.length := List.length_pos_iff.2 he
      have HND := Lib.hid (namD_cons he)
      have HE := Lib.hid (numD_lt r 1)
      have HPOS := Lib.hid hpos
      have hp1 : (0 : Int) < (r.length : Int) := by omega
      have jc : IntKind.i64.wrap (numD r 1 : Int) = numD r 1 := by have := numD_lt r 1; rw [IntKind.wrap_i64]; omega
      generalize hm : numD r 1 = m at *
      have HM := Lib.hid hm
      clear hm hpos he
      have HLN := Lib.hid (show ¬ (w.heap.size ≤ L) by have := HLT.out; omega)
      have HWW := Lib.hid HT.out.size
      go_wp2_with fail
      refine wp_region_W (fun _ => True) ((fun z => (LdAt z F L hd key r ∧ Turn w z (· = L)) ∧ Turn wr z (· = L))) hmix (⟨⟨HR.out.below ((Below.refl _ _).drew), HT.out.trans (Turn.of_below ((Below.refl _ _).drew) _) fun _ _ h => h⟩, Turn.of_below ((Below.refl _ _).drew) _⟩) ?_
      change wpAnyW _ _ _ _ _ _ _ _ _
      refine wpAnyW_take (i := 0) (v := .pointer (some ⟨L, 0, none⟩)) (kept_and (kept_ld _) (kept_trn _ _)) (fun _ _ => trivial) rfl (by kernel_rfl) (by kernel_rfl) (fun _ _ _ h => h) (DoesV.reads (by rfl) fun w9 hS => by go_simp) ?_
      try simp only [nrm, Act.put]
      refine wpAnyW_take (i := 1) (v := .pointer (some ⟨L, 0, none⟩)) (kept_and (kept_ld _) (kept_trn _ _)) (fun _ _ => trivial) rfl (by kernel_rfl) (by kernel_rfl) (fun _ _ _ h => h) (DoesV.reads (by rfl) fun w9 hS => by go_simp) ?_
      try simp only [nrm, Act.put]
      refine wpAnyW_take (i := 2) (v := .pointer (some ⟨L, 17, none⟩)) (kept_and (kept_ld _) (kept_trn _ _)) (fun _ _ => trivial) rfl (by kernel_rfl) (by kernel_rfl) (fun _ _ _ h => h) (DoesV.reads (by rfl) fun w9 hS => by go_simp) ?_
      try simp only [nrm, Act.put]
      refine wpAnyW_take (i := 3) (v := .pointer (some ⟨L, 0, none⟩)) (kept_and (kept_ld _) (kept_trn _ _)) (fun _ _ => trivial) rfl (by kernel_rfl) (by kernel_rfl) (fun _ _ _ h => h) (DoesV.reads (by rfl) fun w9 hS => by go_simp) ?_
      try simp only [nrm, Act.put]
      refine wpAnyW_take (i := 4) (v := .pointer (some ⟨L, 0, none⟩)) (kept_and (kept_ld _) (kept_trn _ _)) (fun _ _ => trivial) rfl (by kernel_rfl) (by kernel_rfl) (fun _ _ _ h => h) (DoesV.reads (by rfl) fun w9 hS => by go_simp) ?_
      try simp only [nrm, Act.put]
      refine wpAnyW_take (i := 5) (v := .pointer (some ⟨L, 17, none⟩)) (kept_and (kept_ld _) (kept_trn _ _)) (fun _ _ => trivial) rfl (by kernel_rfl) (by kernel_rfl) (fun _ _ _ h => h) (DoesV.reads (by rfl) fun w9 hS => by go_simp) ?_
      try simp only [nrm, Act.put]
      refine wpAnyW_only (i := 6) rfl (by kernel_rfl) rfl (fun u hS => wp_of_call (f := 76) (args := #[.pointer (some ⟨L, 17, none⟩), .int .i64 1]) (by go_simp) (by have hq := ld_num hS.1.1 1 rfl; rw [HM.out] at hq; exact hq) fun e u' hu => ?_)
      try simp only [nrm, Act.put]
      obtain ⟨he, hl, ht⟩ := hu
      refine ⟨_, he, (fun z => (LdAt z F L hd key (r.drop 1) ∧ Turn w z (· = L)) ∧ Turn wr z (· = L)), ⟨⟨hl, hS.1.2.trans ht fun _ _ h => h⟩, hS.2.trans ht fun _ _ h => h⟩, kept_and (kept_ld _) (kept_trn _ _), fun _ _ => trivial, ?_⟩
      clear hS
      try simp only [nrm, Act.put]
      refine wpAnyW_take (i := 7) (v := .int .i64 (m : Int)) (kept_and (kept_ld _) (kept_trn _ _)) (fun _ _ => trivial) rfl (by kernel_rfl) (by kernel_rfl) (fun _ _ _ h => h) (DoesV.reads (by rfl) fun w9 hS => by go_simp) ?_
      try simp only [nrm, Act.put]
      refine wpAnyW_only (i := 8) rfl (by kernel_rfl) rfl (fun u hS => wp_of_call (f := 93) (args := #[.pointer (some ⟨L, 17, none⟩), .int .i64 (m : Int)]) (by go_simp) (ld_piece hS.1.1 m (by have := HE.out; omega)) fun e u' hu => ?_)
      try simp only [nrm, Act.put]
      obtain ⟨vp, he, hv, hl, ht⟩ := hu
      refine ⟨_, he, (fun z => ((LdAt z F L hd key ((r.drop 1).drop m) ∧ Turn w z (· = L)) ∧ Turn wr z (· = L)) ∧ NewV z (wr.heap.size ≤ ·) vp ((r.drop 1).take m)), ⟨⟨⟨hl, hS.1.2.trans ht fun _ _ h => h⟩, hS.2.trans ht fun _ _ h => h⟩, hv.mono fun q _ hq => Nat.le_trans hS.2.size hq⟩, kept_and (kept_and (kept_ld _) (kept_trn _ _)) (kept_nv _ _ _), fun _ _ => trivial, ?_⟩
      clear hS
      try simp only [nrm, Act.put]
      refine wpAnyW_only (i := 9) rfl (by kernel_rfl) rfl (fun u hS => wp_of_run2 (v := vp) (by go_simp) ⟨(fun z => ((LdAt z F L hd key ((r.drop 1).drop m) ∧ Turn w z (· = L)) ∧ Turn wr z (· = L)) ∧ NewV z (wr.heap.size ≤ ·) vp ((r.drop 1).take m)), hS, kept_and (kept_and (kept_ld _) (kept_trn _ _)) (kept_nv _ _ _), fun _ _ => trivial, ?_⟩)
      try simp only [nrm, Act.put]
      refine wpAnyW_done (by kernel_rfl) (fun wz hz => ?_) _
      obtain ⟨Ap, np, cp, rfl⟩ := hz.2.1.sl
      obtain rfl : np = ((r.drop 1).take m).length := hz.2.1.at.1
      have VP := Lib.hid hz.2.1
      have L4 := Lib.hid hz.1.1.1
      have T4 := Lib.hid hz.1.1.2
      have O4 := Lib.hid (HO.out.turn hz.1.2 fun q hq e => HLN.out (e ▸ hq))
      have OB := Lib.hid (fun q (e : u3.ownBlock = some q) => (HO.out.lt q e).2)
      have HW4 := Lib.hid (show wr.heap.size ≤ wz.heap.size from hz.1.2.size)
      clear hz
      have HRL := Lib.hid (show ((r.drop 1).drop m).length < r.length by have := HPOS.out; rw [List.length_drop, List.length_drop]; omega)
      generalize hnm : (r.drop 1).take m = nm at *
      generalize hr2 : (r.drop 1).drop m = r2 at *
      go_wp2_with fail
      refine wp_region_W (fun z => BsV z (wr.heap.size ≤ ·) (.slice Ap nm.length cp) nm) ((fun z => ((LdAt z F L hd key r2 ∧ Turn w z (· = L) ∧ wr.heap.size ≤ z.heap.size) ∧ OwnX entE z w.heap.size (w.heap.size ≤ ·) u3 ls) ∧ (BsV z (wr.heap.size ≤ ·) (.slice Ap nm.length cp) nm))) hmix (kept_r4 _ _ _ _ _ _ _ _ _ ⟨⟨⟨L4.out, T4.out, HW4.out⟩, O4.out⟩, VP.out⟩ ((Below.refl _ _).drew)) ?_
      change wpAnyW _ _ _ _ _ _ _ _ _
      refine wpAnyW_take (i := 0) (v := u3) (kept_r4 _ _ _ _ _ _ _) (fun _ h => h.2) rfl (by kernel_rfl) (by kernel_rfl) (fun _ _ _ h => h) (DoesV.reads (by rfl) fun w9 hS => by go_simp) ?_
      try simp only [nrm, Act.put]
      refine wpAnyW_take (i := 1) (v := .slice Ap nm.length cp) (kept_r4 _ _ _ _ _ _ _) (fun _ h => h.2) rfl (by kernel_rfl) (by kernel_rfl) (fun _ _ _ h => h) (DoesV.reads (by rfl) fun w9 hS => by go_simp) ?_
      try simp only [nrm, Act.put]
      refine wpAnyW_take (i := 2) (v := sv nm) (kept_r4 _ _ _ _ _ _ _) (fun _ h => h.2) rfl (by kernel_rfl) (by kernel_rfl) (fun _ _ _ h => h) (DoesV.reads (by rfl) fun w9 hS => by have hcv := conv_rd hS.at.2.1 cp; unfold sv; go_simp) ?_
      try simp only [nrm, Act.put]
      refine wpAnyW_take (i := 3) (v := .pointer (some ⟨L, 0, none⟩)) (kept_r4 _ _ _ _ _ _ _) (fun _ h => h.2) rfl (by kernel_rfl) (by kernel_rfl) (fun _ _ _ h => h) (DoesV.reads (by rfl) fun w9 hS => by go_simp) ?_
      try simp only [nrm, Act.put]
      refine wpAnyW_take (i := 4) (v := .pointer (some ⟨L, 0, none⟩)) (kept_r4 _ _ _ _ _ _ _) (fun _ h => h.2) rfl (by kernel_rfl) (by kernel_rfl) (fun _ _ _ h => h) (DoesV.reads (by rfl) fun w9 hS => by go_simp) ?_
      try simp only [nrm, Act.put]
      refine wpAnyW_take (i := 5) (v := .pointer (some ⟨L, 17, none⟩)) (kept_r4 _ _ _ _ _ _ _) (fun _ h => h.2) rfl (by kernel_rfl) (by kernel_rfl) (fun _ _ _ h => h) (DoesV.reads (by rfl) fun w9 hS => by go_simp) ?_
      try simp only [nrm, Act.put]
      refine wpAnyW_only (i := 6) rfl (by kernel_rfl) rfl (fun u hS => wp_of_call (f := 75) (args := #[.pointer (some ⟨L, 17, none⟩)]) (by go_simp) (ld_num32 hS.1.1.1) fun e u' hu => ?_)
      try simp only [nrm, Act.put]
      obtain ⟨he, hl, ht⟩ := hu
      refine ⟨_, he, (fun z => ((LdAt z F L hd key (r2.drop 4) ∧ Turn w z (· = L) ∧ wr.heap.size ≤ z.heap.size) ∧ OwnX entE z w.heap.size (w.heap.size ≤ ·) u3 ls) ∧ (BsV z (wr.heap.size ≤ ·) (.slice Ap nm.length cp) nm)), ⟨⟨⟨hl, hS.1.1.2.1.trans ht fun _ _ h => h, Nat.le_trans hS.1.1.2.2 ht.size⟩, hS.1.2.turn ht fun q hq e => HLN.out (e ▸ hq)⟩, hS.2.turn ht fun q hq e => HLN.out (by have := HWW.out; omega)⟩, kept_r4 _ _ _ _ _ _ _, fun _ h => h.2, ?_⟩
      clear hS
      try simp only [nrm, Act.put]
      refine wpAnyW_take (i := 7) (v := .agg #[sv nm, .int .u32 (numD r2 4 : Int)]) (kept_r4 _ _ _ _ _ _ _) (fun _ h => h.2) rfl (by kernel_rfl) (by kernel_rfl) (fun _ _ _ h => h) (DoesV.reads (by rfl) fun w9 hS => run_buildEnt rfl rfl rfl) ?_
      try simp only [nrm, Act.put]
      refine wpAnyW_only (i := 8) rfl (by kernel_rfl) rfl (fun u hS => wp_buildE rfl rfl fun g u' hk hb hg => ⟨(fun z => (((LdAt z F L hd key (r2.drop 4) ∧ Turn w z (· = L) ∧ wr.heap.size ≤ z.heap.size) ∧ OwnX entE z w.heap.size (w.heap.size ≤ ·) u3 ls) ∧ (BsV z (wr.heap.size ≤ ·) (.slice Ap nm.length cp) nm)) ∧ Cs z g 80 #[sv nm, .int .u32 (numD r2 4 : Int)]), ⟨kept_r4 _ _ _ _ _ _ _ _ _ hS hb, hk⟩, kept_and (kept_r4 _ _ _ _ _ _ _) (kept_cs _ _ _), fun _ h => h.1.2, ?_⟩)
      try simp only [nrm, Act.put]
      refine wpAnyW_only (i := 9) rfl (by kernel_rfl) rfl (fun u hS => wp_append_x1 (E := entE) _ _ rfl w.heap.size (w.heap.size ≤ ·) u3 ls rfl hS.1.1.2 g 1 rfl [sv nm, .int .u32 (numD r2 4 : Int)] (nm, numD r2 4) ⟨rfl, by have := numD_lt r2 4; omega⟩ 80 hS.2 (by have h1 := HB.out; have h2 := HVL.out; omega) (by have h1 := hS.1.1.1.2.1.size; exact h1) (by have h1 := hS.1.1.1.2.1.size; exact h1) fun v9 u' ho9 hg9 => ⟨(fun z => ((LdAt z F L hd key (r2.drop 4) ∧ Turn w z (· = L) ∧ wr.heap.size ≤ z.heap.size) ∧ OwnX entE z w.heap.size (w.heap.size ≤ ·) v9 (ls ++ [(nm, numD r2 4)])) ∧ (BsV z (wr.heap.size ≤ ·) (.slice Ap nm.length cp) nm)), ⟨⟨⟨hS.1.1.1.1.turn (Turn.of_grown hg9) (fun q hq e => by have h1 := (O4.out.lt q e).1; have h2 := HFW.out q hq; omega) (fun e => HLN.out (O4.out.lt L e).1), hS.1.1.1.2.1.grownL hg9 (fun q e => (O4.out.lt q e).1), Nat.le_trans hS.1.1.1.2.2 (Turn.of_grown hg9).size⟩, ho9⟩, hS.1.2.turn (Turn.of_grown hg9) fun q hq e => by have := OB.out q e; omega⟩, kept_r4 _ _ _ _ _ _ _, fun _ h => h.2, ?_⟩)
      try simp only [nrm, Act.put]
      refine wpAnyW_only (i := 10) rfl (by kernel_rfl) rfl (fun u hS => wp_of_run2 (v := v9) (by go_simp) ⟨(fun z => ((LdAt z F L hd key (r2.drop 4) ∧ Turn w z (· = L) ∧ wr.heap.size ≤ z.heap.size) ∧ OwnX entE z w.heap.size (w.heap.size ≤ ·) v9 (ls ++ [(nm, numD r2 4)])) ∧ (BsV z (wr.heap.size ≤ ·) (.slice Ap nm.length cp) nm)), hS, kept_r4 _ _ _ _ _ _ _, fun _ h => h.2, ?_⟩)
      try simp only [nrm, Act.put]
      refine wpAnyW_done (by kernel_rfl) (fun wz hz => ?_) _
      have OZ := Lib.hid hz.1.2
      have LZ := Lib.hid hz.1.1.1
      have TZ := Lib.hid hz.1.1.2.1
      clear hz
      go_wp2_with fail
      go_roundg (r2.drop 4).length
      case measure => have h1 := HRL.out; have h2 := HK.out; rw [List.length_drop]; omega
      case rel => exact ⟨_, _, OZ.out, LZ.out, TZ.out, by rw [List.append_assoc, List.singleton_append, ← HND.out]; exact HN.out, rfl, by have h1 := HB.out; have h2 := HRL.out; rw [List.length_append, List.length_drop, List.length_singleton]; omega⟩
theorem names_x (L : Nat) (hd : List Value) (key l : List UInt8) (F : Nat → Prop) (w : World) (h : LdAt w F L hd key l) :
    Calls Tryd.prog 77 #[.pointer (some ⟨L, 0, none⟩)] w fun e w' => ∃ v, e = .returned v ∧ OwnX entE w' w.heap.size (w.heap.size ≤ ·) v (namD l) ∧ LdAt w' F L hd key [] ∧ Turn w w' (· = L) :=
  (names_r L hd key l (fun q => F q ∧ q < w.heap.size) w (h.mono (fun q hq hF => ⟨hF, hq⟩) fun hh => h.off hh.1) fun q hq => hq.2).mono fun e w' ⟨v, he, ho, hl, ht⟩ => ⟨v, he, ho, hl.mono (fun q _ hq => hq.1) h.off, ht⟩

end Go.Proofs.YtdhlejhflkfoaaaDoor
