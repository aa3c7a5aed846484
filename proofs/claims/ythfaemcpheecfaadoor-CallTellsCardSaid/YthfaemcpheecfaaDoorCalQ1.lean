/- The reference: bytes gathered by append; a handle's. -/
import Derived.Test.YthfaemcpheecfaaDoorCalM
import Derived.Test.YthfaemcpheecfaaDoorXdQ3
namespace Go.Proofs.YthfaemcpheecfaaDoor
open Go.RowKit Go.Shelf
set_option linter.unusedVariables false
set_option maxRecDepth 100000
set_option linter.unusedSimpArgs false

/-- bytes of one's own, gathered since w0 -/
def AppS (w0 : World) (v : Value) (l : List UInt8) (w : World) : Prop := w.ownsRow w0.heap.size 5 1 v l.length (cellsOf l) ∧ Below w0.heap.size w0 w
theorem AppS.start {w0 w : World} {v : Value} {l : List UInt8} (h : w.ownsRow w0.heap.size 5 1 v l.length (cellsOf l)) (hb : Below w0.heap.size w0 w) : AppS w0 v l w := ⟨h, hb⟩
theorem AppS.below {w0 w w' : World} {v : Value} {l : List UInt8} (h : AppS w0 v l w) (hb : Below w.heap.size w w') : AppS w0 v l w' := ⟨ownsRow_turn' h.1 (Turn.of_below hb fun _ => False) (fun _ _ h => h), below_chain h.2 hb⟩
theorem AppS.app {w0 w w' : World} {v v' : Value} {l x : List UInt8} (h : AppS w0 v l w) (ho : w'.ownsRow w0.heap.size 5 1 v' (l.length + x.length) (cellsOf (l ++ x))) (hg : w.grownBy w' v.ownBlock) : AppS w0 v' (l ++ x) w' := ⟨by rw [List.length_append]; exact ho, below_own h.2 hg h.1 (Nat.le_refl _) h.2.size⟩
theorem AppS.turn {w0 w w' : World} {v v' : Value} {l l' : List UInt8} (h : AppS w0 v l w) (ho : w'.ownsRow w0.heap.size 5 1 v' l'.length (cellsOf l')) (ht : Turn w w' (fun k => v.ownBlock = some k)) : AppS w0 v' l' w' := ⟨ho, h.2.trans (ht.below h.2.size fun k hk => own_base h.1 k hk)⟩
theorem own_len {w : World} {base n : Nat} {v : Value} {l : List UInt8} (h : w.ownsRow base 5 1 v n (cellsOf l)) (hn : n = l.length) : ∃ A c, v = .slice A l.length c ∧ Rd w A l ∧ (A = none → l = [] ∧ c = 0) := by
  subst hn
  obtain ⟨A, c, rfl, hr, hA, -, -⟩ := BsV.own h
  exact ⟨A, c, rfl, hr.rd, hA⟩
set_option maxHeartbeats 8000000 in
theorem handle_q {w : World} {B : Nat} {v : Value} {l : List UInt8} (hown : w.ownsRow B 5 1 v l.length (cellsOf l)) (hB : B ≤ w.heap.size) (n m : Nat) (hn : n < 4294967296) (hm : m < 4294967296) (hl : l.length + 8 ≤ 140737488355328) :
    Calls Tryd.prog 25 #[v, .agg #[.int .u32 (n : Int), .int .u32 (m : Int)]] w fun e w' => ∃ v', e = .returned v' ∧ w'.ownsRow B 5 1 v' (l ++ beL (n : Int) 4 ++ beL (m : Int) 4).length (cellsOf (l ++ beL (n : Int) 4 ++ beL (m : Int) 4)) ∧ Turn w w' (fun k => v.ownBlock = some k) := by
  have HN := Lib.hid fun u => qNumber n hn u
  have HM := Lib.hid fun u => qNumber m hm u
  have hxl := beL_length (n : Int) 4
  have hyl := beL_length (m : Int) 4
  generalize beL (n : Int) 4 = x at *
  generalize beL (m : Int) 4 = y at *
  have HXL := Lib.hid hxl
  have HYL := Lib.hid hyl
  have HL := Lib.hid hl
  have HBS := Lib.hid hB
  obtain ⟨A, N, c, rfl, -⟩ := own_slice hown
  have HO := Lib.hid hown
  clear hn hm hxl hyl hl hB hown
  go_enter Tryd.func25, Tryd.ntmps25
  go_wp2_with fail
  refine (HN.out _).mono ?_
  rintro e w1 ⟨vx, rfl, hox, hb⟩
  obtain ⟨Ax, cx, rfl, hrx, hAx⟩ := own_len hox rfl
  have hc1 := (Cs.new w 25 #[.int .u32 (n : Int), .int .u32 (m : Int)]).below hb (by rw [World.size_alloc]; omega)
  have hbb := below_chain (below_new1 w _) hb
  have HC1 := Lib.hid hc1
  have HB1 := Lib.hid hbb
  have HO1 := Lib.hid (ownsRow_turn' HO.out (Turn.of_below hbb fun _ => False) (fun _ _ h => h))
  have HRX := Lib.hid hrx
  have HAX := Lib.hid hAx
  clear hox hb hbb hc1 hrx hAx
  go_wp2_with (at_builtin; refine append_to rfl (.tmp 5) (.tmp 8) rfl B _ _ _ rfl HO1.out Ax x x.length cx rfl rfl HRX.out HAX.out (by have := HL.out; have := HXL.out; omega) (Nat.le_trans HBS.out HB1.out.size) ?_; intro v2 w2 ho2 hg2 hto2; obtain ⟨A2, N2, c2, rfl, -⟩ := own_slice ho2; have HO2 := Lib.hid ho2; have HG2 := Lib.hid hg2; have HT2 := Lib.hid hto2; have hc2 := HC1.out.own hg2 HO1.out (by decide); have p0 : w2.cell? ⟨w.heap.size, 1, none⟩ = some (.int .u32 (m : Int)) := hc2.cell 1 rfl; clear ho2 hg2 hto2 hc2)
  refine (HM.out _).mono ?_
  rintro e w3 ⟨vy, rfl, hoy, hb⟩
  obtain ⟨Ay, cy, rfl, hry, hAy⟩ := own_len hoy rfl
  have hlen2 : l.length + x.length = (l ++ x).length := (List.length_append).symm
  have ho3 := ownsRow_turn' HO2.out (Turn.of_below hb fun _ => False) (fun _ _ h => h)
  rw [hlen2] at ho3
  have HO3 := Lib.hid ho3
  have HB3 := Lib.hid hb
  have HRY := Lib.hid hry
  have HAY := Lib.hid hAy
  clear hoy hb hry hAy ho3 hlen2
  go_wp2_with (at_builtin; refine append_to rfl (.tmp 10) (.tmp 13) rfl B _ _ _ rfl HO3.out Ay y y.length cy rfl rfl HRY.out HAY.out (by have := HL.out; have := HXL.out; have := HYL.out; rw [List.length_append]; omega) (Nat.le_trans HBS.out (Nat.le_trans HB1.out.size (Nat.le_trans HG2.out.size HB3.out.size))) ?_; intro v4 w4 ho4 hg4 hto4; obtain ⟨A4, N4, c4, rfl, -⟩ := own_slice ho4; have HO4 := Lib.hid ho4; have HG4 := Lib.hid hg4; clear ho4 hg4 hto4)
  go_ret
  refine ⟨_, rfl, by rw [List.length_append]; exact HO4.out, ?_⟩
  have t1 := (Turn.of_below HB1.out fun k => (Value.slice A N c).ownBlock = some k).trans (Turn.of_grown HG2.out) fun _ _ h => h
  have t2 := t1.trans (Turn.of_below HB3.out fun _ => False) fun _ _ h => h.elim
  refine t2.trans (Turn.of_grown HG4.out) fun k hk h => ?_
  rcases HT2.out k h with h | h
  · exact h
  · have := HB1.out.size; omega
theorem Cs.calX {w : World} {g c1 c2 c3 k c5 c6 : Nat} {c7 : ByteArray} {c8 c9 : Nat} {c10 : ByteArray} {c11 c12 : Nat} {c13 : List UInt8} {v : Value} (h : Cs w g 28 (calCells (CX c1 c2 c3 k c5 c6 c7 c8 c9 c10 c11 c12 c13) v).toArray) : w.cell? ⟨g, 0, none⟩ = some (.int .u8 (c1 : Int)) ∧ w.cell? ⟨g, 1, none⟩ = some (.int .u32 (c2 : Int)) ∧ w.cell? ⟨g, 2, none⟩ = some (.int .u64 (c3 : Int)) ∧ w.cell? ⟨g, 3, none⟩ = some (.int .u8 (k : Int)) ∧ w.cell? ⟨g, 4, none⟩ = some (.int .u32 (c5 : Int)) ∧ w.cell? ⟨g, 5, none⟩ = some (.int .u32 (c6 : Int)) ∧ w.cell? ⟨g, 6, none⟩ = some (.string c7) ∧ w.cell? ⟨g, 7, none⟩ = some (.int .u32 (c8 : Int)) ∧ w.cell? ⟨g, 8, none⟩ = some (.int .u32 (c9 : Int)) ∧ w.cell? ⟨g, 9, none⟩ = some (.string c10) ∧ w.cell? ⟨g, 10, none⟩ = some (.int .u32 (c11 : Int)) ∧ w.cell? ⟨g, 11, none⟩ = some (.int .u32 (c12 : Int)) ∧ w.cell? ⟨g, 12, none⟩ = some v := Cs.cal h

end Go.Proofs.YthfaemcpheecfaaDoor
