/- Which replies are the same. -/
import Derived.Test.YtboalmmpcfiicaaDoorBac3
namespace Go.Proofs.YtboalmmpcfiicaaDoor
open Go.RowKit Go.Shelf Go.Lib
set_option linter.unusedVariables false
set_option maxRecDepth 100000
set_option linter.unusedSimpArgs false

theorem sv_eqB (p q : List UInt8) : ((⟨p.toArray⟩ : ByteArray).toList == (⟨q.toArray⟩ : ByteArray).toList) = (p == q) := by
  rw [toList_L, toList_L]
theorem EqualB (p q : List UInt8) (A B : Option Addr) (c d : Nat) (w : World) (hp : Rd w A p) (hq : Rd w B q) :
    Calls Tryd.prog 46 #[.slice A p.length c, .slice B q.length d] w fun e w' => e = .returned (.bool (p == q)) ∧ w = w' := by
  have h1 := conv_rd hp c
  have h2 := conv_rd hq d
  have h3 := sv_eqB p q
  clear hp hq
  go_enter Tryd.func46, Tryd.ntmps46
  go_wp2_with fail
  go_ret
  exact ⟨by first | rfl | rw [h3], rfl⟩
theorem names_LL (p q : List ByteArray) : (LL p == LL q) = namesSame p q := rfl
set_option maxHeartbeats 1000000 in
theorem EqualS (p q : List ByteArray) (A B : Option Addr) (ca cb : Nat) (w : World) (hp : p.length ≤ maxLen) (hq : q.length ≤ maxLen) (rp : RdS w A p) (rq : RdS w B q) :
    Calls Tryd.prog 47 #[.slice A p.length ca, .slice B q.length cb] w fun e w' => e = .returned (.bool (LL p == LL q)) ∧ Below w.heap.size w w' := by
  unfold maxLen at hp hq
  by_cases hl : p.length = q.length
  · have el : ((p.length : Int) == (q.length : Int)) = true := by simp [hl]
    have el' : ((p.length : Int) != (q.length : Int)) = false := by simp [hl]
    have HP := Lib.hid rp
    have HQ := Lib.hid rq
    have HL := Lib.hid hl
    clear rp rq hl
    go_enter Tryd.func47, Tryd.ntmps47
    go_wp2
    clear el el'
    go_loopw [5, 13] (fun _ j wr => ∃ k : Nat, j = .int .i64 k ∧ SameI p q k ∧ Below w.heap.size w wr) (fun _ j _ => p.length - (RowKit.intOf j).toNat)
    case atStart => exact ⟨0, rfl, ⟨Nat.zero_le _, by simp⟩, Below.refl _ _⟩
    case round =>
      obtain ⟨k, rfl, hI, hB⟩ := hrel
      by_cases hk : k < p.length
      · have hk2 : k < q.length := by rw [← HL.out]; exact hk
        obtain ⟨b, off, rfl, hc⟩ := (HP.out.below hB).get hk
        obtain ⟨b', off', rfl, hc'⟩ := (HQ.out.below hB).get hk2
        have hc1 := hc k hk
        have hc2 := hc' k hk2
        have hx := fun e => same_no hk hk2 e
        have hy := fun e => hI.next hk hk2 e
        generalize p[k] = x at *
        generalize q[k] = y at *
        have HX := Lib.hid hx
        have HY := Lib.hid hy
        clear hx hy hc hc' hI
        by_cases he : x = y
        · have hf := Lib.hid (HY.out he)
          subst he
          clear HX HY
          go_wp2
          go_quiet (fail)
          go_wp2
          go_roundw
          case rel => exact ⟨k + 1, by go_num, hf.out, below_drewN hB _⟩
          case measure => simp [RowKit.intOf]; omega
        · have hf := Lib.hid (HX.out he)
          have hb : (x.toList == y.toList) = false := by
            rw [beq_eq_false_iff_ne, toList_L, toList_L]
            exact fun h => he (L_inj h)
          have hb' : (x.toList != y.toList) = true := by rw [bne, hb]; rfl
          clear HX HY he
          go_wp2
          go_quiet (fail)
          go_wp2
          go_ret
          exact ⟨by rw [hf.out]; first | done | rfl, below_drewN hB _⟩
      · have hv := Lib.hid (hI.over hk HL.out)
        clear hI
        go_wp2
        go_ret
        exact ⟨by rw [hv.out]; first | done | rfl, hB⟩
  · have el : ((p.length : Int) == (q.length : Int)) = false := by simp; omega
    have el' : ((p.length : Int) != (q.length : Int)) = true := by simp; omega
    have hv := Lib.hid (len_no hl)
    clear hl rp rq
    go_enter Tryd.func47, Tryd.ntmps47
    go_wp2
    go_ret
    exact ⟨by rw [hv.out]; first | done | rfl, Below.refl _ _⟩
theorem same_intB (a b : BackX) : sameB a b = (((a.client : Int) == (b.client : Int)) && ((a.inc : Int) == (b.inc : Int)) && ((a.seq : Int) == (b.seq : Int)) && ((a.status : Int) == (b.status : Int)) && ((((a.ino : Int) == (b.ino : Int)) && ((a.gen : Int) == (b.gen : Int))) && (a.dir == b.dir) && ((a.size : Int) == (b.size : Int)) && ((a.change : Int) == (b.change : Int))) && ((a.before : Int) == (b.before : Int)) && (a.data == b.data) && namesSame a.names b.names && ((a.boot : Int) == (b.boot : Int))) := by
  unfold sameB
  rw [nat_eqB a.client, nat_eqB a.inc, nat_eqB a.seq, nat_eqB a.status, nat_eqB a.ino, nat_eqB a.gen, nat_eqB a.size, nat_eqB a.change, nat_eqB a.before, nat_eqB a.boot]
set_option maxHeartbeats 16000000 in
theorem Same_v {F G : Nat → Prop} {a b : BackX} {va ua vb ub : Value} {w : World} (ha : BacV w F a va ua) (hb : BacV w G b vb ub) : Calls Tryd.prog 16 #[.agg (bacCells a va ua).toArray, .agg (bacCells b vb ub).toArray] w fun e w' => e = .returned (.bool (sameB a b)) ∧ Below w.heap.size w w' := by
  obtain ⟨A, ca, rfl, -⟩ := id ha.1
  obtain ⟨B, cb, rfl, -⟩ := id hb.1
  obtain ⟨C, cc, rfl, -⟩ := id ha.2.1
  obtain ⟨D, cd, rfl, -⟩ := id hb.2.1
  have HE := Lib.hid fun W (h : Below w.heap.size w W) => EqualB a.data b.data A B ca cb W (ha.1.rdB.below h) (hb.1.rdB.below h)
  have HS := Lib.hid fun W (h : Below w.heap.size w W) => EqualS a.names b.names C D cc cd W ha.2.1.len hb.2.1.len (ha.2.1.rds.below h) (hb.2.1.rds.below h)
  have BB := Lib.hid (fun (o o2 : Obj) => below_chain (below_newB w o) (below_newB (w.alloc o) o2))
  rw [same_intB]
  clear ha hb
  obtain ⟨a1, a2, a3, a4, a5, a6, a7, a8, a9, a10, a11, a12, a13⟩ := a
  obtain ⟨b1, b2, b3, b4, b5, b6, b7, b8, b9, b10, b11, b12, b13⟩ := b
  unfold bacCells at *
  dsimp only at *
  rw [← names_LL]
  generalize (a11 == b11) = e11 at *
  generalize (LL a12 == LL b12) = e12 at *
  generalize a11.length = n11 at *
  generalize b11.length = m11 at *
  generalize a12.length = n12 at *
  generalize b12.length = m12 at *
  go_enter Tryd.func16, Tryd.ntmps16
  go_wp2_with fail
  all_goals first
    | (refine (HE.out _ (BB.out _ _)).mono ?_
       rintro e w3 ⟨rfl, rfl⟩
       go_wp2_with fail
       all_goals first
         | (refine (HS.out _ (BB.out _ _)).mono ?_
            rintro e w4 ⟨rfl, hb⟩
            have HB4 := Lib.hid (below_chain (BB.out _ _) hb)
            clear hb
            go_wp2_with fail
            go_ret
            exact ⟨by simp_all, HB4.out⟩)
         | (go_ret
            exact ⟨by simp_all, BB.out _ _⟩))
    | (go_ret
       exact ⟨by simp_all, BB.out _ _⟩)

end Go.Proofs.YtboalmmpcfiicaaDoor
