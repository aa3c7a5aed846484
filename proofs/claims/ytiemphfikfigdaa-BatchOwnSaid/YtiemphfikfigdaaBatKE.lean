/- batch: two lists side by side. -/
import Derived.Test.YtiemphfikfigdaaBatKD
namespace Go.Proofs.Ytiemphfikfigdaa
open Go.RowKit Go.Shelf
set_option linter.unusedVariables false
set_option maxRecDepth 100000
set_option linter.unusedSimpArgs false

theorem mA_nil : mergeA [] [] = [] := by simp [mergeA]
theorem mA_row (x : Rw) (t : List Rw) : mergeA (x :: t) [] = x :: mergeA t [] := by rw [mergeA]
theorem mA_chg (c : Ch) (l : List Ch) : mergeA [] (c :: l) = putA c ++ mergeA [] l := by rw [mergeA]
theorem mA_lt {x : Rw} {c : Ch} (t : List Rw) (l : List Ch) (h : lessK x.1 c.1 = true) : mergeA (x :: t) (c :: l) = x :: mergeA t (c :: l) := by rw [mergeA, if_pos h]
theorem mA_gt {x : Rw} {c : Ch} (t : List Rw) (l : List Ch) (h : lessK x.1 c.1 = false) (k : lessK c.1 x.1 = true) : mergeA (x :: t) (c :: l) = putA c ++ mergeA (x :: t) l := by rw [mergeA, if_neg (by simp [h]), if_pos k]
theorem mA_eq {x : Rw} {c : Ch} (t : List Rw) (l : List Ch) (h : lessK x.1 c.1 = false) (k : lessK c.1 x.1 = false) : mergeA (x :: t) (c :: l) = putA c ++ mergeA t l := by rw [mergeA, if_neg (by simp [h]), if_neg (by simp [k])]
theorem mB_nil : mergeB [] [] = [] := by simp [mergeB]
theorem mB_row (x : Rw) (t : List Rw) : mergeB (x :: t) [] = (x.1, [], true) :: mergeB t [] := by rw [mergeB]
theorem mB_chg (c : Rw) (l : List Rw) : mergeB [] (c :: l) = (c.1, c.2, false) :: mergeB [] l := by rw [mergeB]
theorem mB_lt {x : Rw} {c : Rw} (t : List Rw) (l : List Rw) (h : lessK x.1 c.1 = true) : mergeB (x :: t) (c :: l) = (x.1, [], true) :: mergeB t (c :: l) := by rw [mergeB, if_pos h]
theorem mB_gt {x : Rw} {c : Rw} (t : List Rw) (l : List Rw) (h : lessK x.1 c.1 = false) (k : lessK c.1 x.1 = true) : mergeB (x :: t) (c :: l) = (c.1, c.2, false) :: mergeB (x :: t) l := by rw [mergeB, if_neg (by simp [h]), if_pos k]
theorem mB_eq {x : Rw} {c : Rw} (t : List Rw) (l : List Rw) (h : lessK x.1 c.1 = false) (k : lessK c.1 x.1 = false) : mergeB (x :: t) (c :: l) = putB x c ++ mergeB t l := by rw [mergeB, if_neg (by simp [h]), if_neg (by simp [k])]
theorem putA_len (c : Ch) : (putA c).length ≤ 1 := by unfold putA; split <;> simp
theorem putB_len (x y : Rw) : (putB x y).length ≤ 1 := by unfold putB; split <;> simp
theorem row_first {w w' : World} {F : Nat → Prop} {A : Option Addr} {x1 x2 : List UInt8} {ls : List Rw} (h : RdX rowE w F A ((x1, x2) :: ls)) (hb : Below w.heap.size w w') : ∃ b off A' c, A = some ⟨b, off, none⟩ ∧ At w' b off (rwCells (x1, x2) A' c) ∧ BsV w' F (.slice A' x2.length c) x2 := by
  obtain ⟨b, off, A', c, e, hat, hbv⟩ := row_rd (h.below hb) 0 (by simp)
  simp only [Nat.zero_mul, Nat.add_zero, List.getElem_cons_zero] at hat hbv
  exact ⟨b, off, A', c, e, hat, hbv⟩
theorem chg_first {w w' : World} {F : Nat → Prop} {A : Option Addr} {x1 x2 : List UInt8} {z : Bool} {ls : List Ch} (h : RdX chgE w F A ((x1, x2, z) :: ls)) (hb : Below w.heap.size w w') : ∃ b off A' c, A = some ⟨b, off, none⟩ ∧ At w' b off (chCells (x1, x2, z) A' c) ∧ BsV w' F (.slice A' x2.length c) x2 := by
  obtain ⟨b, off, A', c, e, hat, hbv⟩ := chg_rd (h.below hb) 0 (by simp)
  simp only [Nat.zero_mul, Nat.add_zero, List.getElem_cons_zero] at hat hbv
  exact ⟨b, off, A', c, e, hat, A', c, rfl, hbv⟩
theorem At.below {w w' : World} {b off : Nat} {cs : List Value} (h : At w b off cs) (hb : Below w.heap.size w w') : At w' b off cs := fun j v hv => (hb.cell (lt_of_cell (h j v hv))).trans (h j v hv)
/-- the sum of two slices' lengths -/
def lens2 (a b : Value) : Nat := match a, b with
  | .slice _ n _, .slice _ m _ => n + m
  | _, _ => 0
set_option maxHeartbeats 8000000 in
theorem side_apply (t : List Rw) (l : List Ch) (A B : Option Addr) (ca cb : Nat) (F F' : Nat → Prop) (G : Nat) (w0 w : World) (ht : ∀ x ∈ t, x.2.length ≤ 8192) (hl : ∀ x ∈ l, x.2.1.length ≤ 8192) (hlen : t.length + l.length ≤ 100000) (hca : t.length ≤ ca) (hcb : l.length ≤ cb) (hr : RdX rowE w0 F A t) (hc : RdX chgE w0 F' B l) (hb : Below w0.heap.size w0 w) (hG : w0.heap.size ≤ G) (ho : OutX rowN w0.heap.size G w []) :
    Calls Try.prog 44 #[.slice A t.length ca, .slice B l.length cb, .func (.func 45) #[] #[], .func (.func 42) #[] #[], .func (.func 46) #[] #[.pointer (some ⟨G, 0, none⟩)]] w fun e w' => (∃ v, e = .returned v) ∧ OutX rowN w0.heap.size G w' (mergeA t l) ∧ Below w0.heap.size w0 w' := by
  have hmix : Try.prog.follows .mixedOrders = true := by kernel_rfl
  have H0 := Lib.hid (And.intro (And.intro ht hl) (And.intro hr hc))
  have HL := Lib.hid (And.intro hlen (And.intro hca hcb))
  have HB := Lib.hid hb
  have HG := Lib.hid hG
  have HO := Lib.hid ho
  clear ht hl hlen hca hcb hr hc hb hG ho
  go_enter Try.func44, Try.ntmps44
  go_wp2_with fail
  go_loopw [0, 1] (fun s0 s1 wr => ∃ (A' B' : Option Addr) (ca' cb' : Nat) (t' : List Rw) (l' : List Ch) (done : List Rw), s0 = .slice A' t'.length ca' ∧ s1 = .slice B' l'.length cb' ∧ (((∀ x ∈ t', x.2.length ≤ 8192) ∧ ∀ x ∈ l', x.2.1.length ≤ 8192) ∧ RdX rowE w0 F A' t' ∧ RdX chgE w0 F' B' l') ∧ (done.length + (t'.length + l'.length) ≤ 100000 ∧ t'.length ≤ ca' ∧ l'.length ≤ cb') ∧ done ++ mergeA t' l' = mergeA t l ∧ OutX rowN w0.heap.size G wr done ∧ Below w0.heap.size w0 wr) (fun s0 s1 _ => lens2 s0 s1)
  case atStart => exact ⟨A, B, ca, cb, t, l, [], rfl, rfl, H0.out, ⟨by have := HL.out.1; simpa using this, HL.out.2⟩, rfl, HO.out, HB.out⟩
  case round =>
    obtain ⟨A', B', ca', cb', t', l', done, rfl, rfl, h0, hlen, hE, ho, hb⟩ := hrel
    have H := Lib.hid h0
    have HL := Lib.hid hlen
    have HE := Lib.hid hE
    have HO := Lib.hid ho
    have HB := Lib.hid hb
    have hts : t'.length ≤ 100000 := by omega
    have hls : l'.length ≤ 100000 := by omega
    clear h0 hlen hE ho hb
    rcases t' with _ | ⟨⟨x1, x2⟩, t2⟩
    · rcases l' with _ | ⟨⟨y1, y2, z⟩, l2⟩
      · go_wp2_with fail
        go_end0
        have hE := HE.out
        rw [mA_nil, List.append_nil] at hE
        rw [← hE]
        exact ⟨⟨_, rfl⟩, HO.out, HB.out⟩
      · skip
        obtain ⟨b2, off2, A3, c3, rfl, hat2, hbv2⟩ := chg_first H.out.2.2 HB.out
        obtain ⟨o2, hsl2, ho2⟩ := slC_1 b2 off2 (l2.length + 1) cb' (by omega) (by have := HL.out.2.2; simpa using this)
        rw [Nat.add_sub_cancel] at hsl2
        have SL2 := Lib.hid hsl2
        have TL2 := Lib.hid (rdx_tail H.out.2.2 HL.out.2.2 ho2)
        have AT2 := Lib.hid hat2
        have BV2 := Lib.hid hbv2
        clear hsl2 ho2 hat2 hbv2
        have p2 : (0 : Int) < (l2.length : Int) + 1 := by omega
        have p2' : (0 : Int) < ((l2.length + 1 : Nat) : Int) := by omega
        have n2 : ((l2.length : Int) + 1 == 0) = false := by rw [beq_eq_false_iff_ne]; omega
        have n2' : (((l2.length + 1 : Nat) : Int) == 0) = false := by rw [beq_eq_false_iff_ne]; omega
        simp only [List.length_cons] at hls
        have s2 : (l2.length : Int) + 1 ≤ 100000 := by omega
        go_wp2_with fail
        refine wp_region_V [] (Below wr.heap.size wr) hmix ((Below.refl _ _).drew) ?_
        change wpAnyV _ _ _ _ _ _ _ _ _
        refine wpAnyV_take (i := 0) (v := .slice (some ⟨b2, off2, none⟩) (l2.length + 1) cb') 8 (kept_below wr) rfl (by kernel_rfl) (by kernel_rfl) (fun _ _ _ h => h) (fun _ h => h) (DoesV.reads (by rfl) fun w9 hS => by go_simp) ?_
        try simp only [List.getElem_toArray, List.getElem_cons_succ, List.getElem_cons_zero, Act.put, List.setIfInBounds_toArray, List.set_cons_succ, List.set_cons_zero]
        refine wpAnyV_take (i := 1) (v := .pointer (some ⟨b2, off2, none⟩)) 8 (kept_below wr) rfl (by kernel_rfl) (by kernel_rfl) (fun _ _ _ h => h) (fun _ h => h) (DoesV.reads (by rfl) fun w9 hS => by go_simp) ?_
        try simp only [List.getElem_toArray, List.getElem_cons_succ, List.getElem_cons_zero, Act.put, List.setIfInBounds_toArray, List.set_cons_succ, List.set_cons_zero]
        refine wpAnyV_take (i := 2) (v := .slice (some ⟨b2, off2, none⟩) (l2.length + 1) cb') 8 (kept_below wr) rfl (by kernel_rfl) (by kernel_rfl) (fun _ _ _ h => h) (fun _ h => h) (DoesV.reads (by rfl) fun w9 hS => by go_simp) ?_
        try simp only [List.getElem_toArray, List.getElem_cons_succ, List.getElem_cons_zero, Act.put, List.setIfInBounds_toArray, List.set_cons_succ, List.set_cons_zero]
        refine wpAnyV_take (i := 3) (v := .slice (some ⟨b2, o2, none⟩) l2.length (cb' - 1)) 8 (kept_below wr) rfl (by kernel_rfl) (by kernel_rfl) (fun _ _ _ h => h) (fun _ h => h) (DoesV.reads (by rfl) fun w9 hS => by have h9 := SL2.out w9; go_simp) ?_
        try simp only [List.getElem_toArray, List.getElem_cons_succ, List.getElem_cons_zero, Act.put, List.setIfInBounds_toArray, List.set_cons_succ, List.set_cons_zero]
        refine wpAnyV_take (i := 4) (v := .pointer (some ⟨b2, off2, none⟩)) 8 (kept_below wr) rfl (by kernel_rfl) (by kernel_rfl) (fun _ _ _ h => h) (fun _ h => h) (DoesV.reads (by rfl) fun w9 hS => by go_simp) ?_
        try simp only [List.getElem_toArray, List.getElem_cons_succ, List.getElem_cons_zero, Act.put, List.setIfInBounds_toArray, List.set_cons_succ, List.set_cons_zero]
        refine wpAnyV_take (i := 5) (v := .slice (some ⟨b2, o2, none⟩) l2.length (cb' - 1)) 8 (kept_below wr) rfl (by kernel_rfl) (by kernel_rfl) (fun _ _ _ h => h) (fun _ h => h) (DoesV.reads (by rfl) fun w9 hS => by go_simp) ?_
        try simp only [List.getElem_toArray, List.getElem_cons_succ, List.getElem_cons_zero, Act.put, List.setIfInBounds_toArray, List.set_cons_succ, List.set_cons_zero]
        refine wpAnyV_done (by kernel_rfl) (fun u1 hu => ?_) _
        have Bu1 := Lib.hid hu
        clear hu
        go_wp2_with fail
        rcases z with _ | _
        · have EQ := Lib.hid (show (done ++ [(y1, y2)]) ++ _ = mergeA t l from by rw [← HE.out, mA_chg, List.append_assoc]; first | done | rfl)
          refine (apply1_put (.pointer none) y1 y2 b2 off2 A3 c3 F' w0.heap.size G u1 done (AT2.out.below Bu1.out) (BV2.out.below Bu1.out) (H.out.1.2 (y1, y2, false) (by simp)) (by have := HL.out.1; omega) (HO.out.below Bu1.out) (Nat.le_trans HB.out.size Bu1.out.size) HG.out).mono ?_
          rintro e w5 ⟨⟨v5, rfl⟩, ho5, hb5⟩
          have O5 := Lib.hid ho5
          have B5 := Lib.hid ((HB.out.trans (Bu1.out.mono HB.out.size)).trans hb5)
          clear ho5 hb5
          go_wp2_with fail
          go_roundw
          case rel => exact ⟨A', some ⟨b2, o2, none⟩, ca', cb' - 1, [], l2, done ++ [(y1, y2)], rfl, rfl, ⟨⟨H.out.1.1, fun x hx => H.out.1.2 x (by simp [hx])⟩, H.out.2.1, TL2.out⟩, ⟨by have h1 := HL.out.1;  simp only [List.length_append, List.length_cons, List.length_nil] at h1 ⊢; omega, by have h1 := HL.out.2.1; simp only [List.length_cons, List.length_nil] at h1 ⊢; omega, by have h1 := HL.out.2.2; simp only [List.length_cons, List.length_nil] at h1 ⊢; omega⟩, EQ.out, O5.out, B5.out⟩
          case measure => simp [lens2] <;> omega
        · have EQ := Lib.hid (show done ++ _ = mergeA t l from by rw [← HE.out, mA_chg]; first | done | rfl)
          refine (apply1_gone (.pointer none) y1 y2 b2 off2 A3 c3 w0.heap.size G u1 done (AT2.out.below Bu1.out) (by have := HL.out.1; omega) (HO.out.below Bu1.out) (Nat.le_trans HB.out.size Bu1.out.size) HG.out).mono ?_
          rintro e w5 ⟨⟨v5, rfl⟩, ho5, hb5⟩
          have O5 := Lib.hid ho5
          have B5 := Lib.hid ((HB.out.trans (Bu1.out.mono HB.out.size)).trans hb5)
          clear ho5 hb5
          go_wp2_with fail
          go_roundw
          case rel => exact ⟨A', some ⟨b2, o2, none⟩, ca', cb' - 1, [], l2, done, rfl, rfl, ⟨⟨H.out.1.1, fun x hx => H.out.1.2 x (by simp [hx])⟩, H.out.2.1, TL2.out⟩, ⟨by have h1 := HL.out.1;  simp only [List.length_append, List.length_cons, List.length_nil] at h1 ⊢; omega, by have h1 := HL.out.2.1; simp only [List.length_cons, List.length_nil] at h1 ⊢; omega, by have h1 := HL.out.2.2; simp only [List.length_cons, List.length_nil] at h1 ⊢; omega⟩, EQ.out, O5.out, B5.out⟩
          case measure => simp [lens2] <;> omega
    · rcases l' with _ | ⟨⟨y1, y2, z⟩, l2⟩
      · skip
        obtain ⟨b, off, A1, c1, rfl, hat1, hbv1⟩ := row_first H.out.2.1 HB.out
        obtain ⟨o1, hsl1, ho1⟩ := slR_1 b off (t2.length + 1) ca' (by omega) (by have := HL.out.2.1; simpa using this)
        rw [Nat.add_sub_cancel] at hsl1
        have SL1 := Lib.hid hsl1
        have TL1 := Lib.hid (rdx_tail H.out.2.1 HL.out.2.1 ho1)
        have AT1 := Lib.hid hat1
        have BV1 := Lib.hid hbv1
        clear hsl1 ho1 hat1 hbv1
        have p1 : (0 : Int) < (t2.length : Int) + 1 := by omega
        have p1' : (0 : Int) < ((t2.length + 1 : Nat) : Int) := by omega
        have n1 : ((t2.length : Int) + 1 == 0) = false := by rw [beq_eq_false_iff_ne]; omega
        have n1' : (((t2.length + 1 : Nat) : Int) == 0) = false := by rw [beq_eq_false_iff_ne]; omega
        simp only [List.length_cons] at hts
        have s1 : (t2.length : Int) + 1 ≤ 100000 := by omega
        go_wp2_with fail
        refine wp_region_V [] (Below wr.heap.size wr) hmix ((Below.refl _ _).drew) ?_
        change wpAnyV _ _ _ _ _ _ _ _ _
        refine wpAnyV_take (i := 0) (v := .slice (some ⟨b, off, none⟩) (t2.length + 1) ca') 8 (kept_below wr) rfl (by kernel_rfl) (by kernel_rfl) (fun _ _ _ h => h) (fun _ h => h) (DoesV.reads (by rfl) fun w9 hS => by go_simp) ?_
        try simp only [List.getElem_toArray, List.getElem_cons_succ, List.getElem_cons_zero, Act.put, List.setIfInBounds_toArray, List.set_cons_succ, List.set_cons_zero]
        refine wpAnyV_take (i := 1) (v := .pointer (some ⟨b, off, none⟩)) 8 (kept_below wr) rfl (by kernel_rfl) (by kernel_rfl) (fun _ _ _ h => h) (fun _ h => h) (DoesV.reads (by rfl) fun w9 hS => by go_simp) ?_
        try simp only [List.getElem_toArray, List.getElem_cons_succ, List.getElem_cons_zero, Act.put, List.setIfInBounds_toArray, List.set_cons_succ, List.set_cons_zero]
        refine wpAnyV_take (i := 2) (v := .slice (some ⟨b, off, none⟩) (t2.length + 1) ca') 8 (kept_below wr) rfl (by kernel_rfl) (by kernel_rfl) (fun _ _ _ h => h) (fun _ h => h) (DoesV.reads (by rfl) fun w9 hS => by go_simp) ?_
        try simp only [List.getElem_toArray, List.getElem_cons_succ, List.getElem_cons_zero, Act.put, List.setIfInBounds_toArray, List.set_cons_succ, List.set_cons_zero]
        refine wpAnyV_take (i := 3) (v := .slice (some ⟨b, o1, none⟩) t2.length (ca' - 1)) 8 (kept_below wr) rfl (by kernel_rfl) (by kernel_rfl) (fun _ _ _ h => h) (fun _ h => h) (DoesV.reads (by rfl) fun w9 hS => by have h9 := SL1.out w9; go_simp) ?_
        try simp only [List.getElem_toArray, List.getElem_cons_succ, List.getElem_cons_zero, Act.put, List.setIfInBounds_toArray, List.set_cons_succ, List.set_cons_zero]
        refine wpAnyV_take (i := 4) (v := .pointer (some ⟨b, off, none⟩)) 8 (kept_below wr) rfl (by kernel_rfl) (by kernel_rfl) (fun _ _ _ h => h) (fun _ h => h) (DoesV.reads (by rfl) fun w9 hS => by go_simp) ?_
        try simp only [List.getElem_toArray, List.getElem_cons_succ, List.getElem_cons_zero, Act.put, List.setIfInBounds_toArray, List.set_cons_succ, List.set_cons_zero]
        refine wpAnyV_take (i := 5) (v := .slice (some ⟨b, o1, none⟩) t2.length (ca' - 1)) 8 (kept_below wr) rfl (by kernel_rfl) (by kernel_rfl) (fun _ _ _ h => h) (fun _ h => h) (DoesV.reads (by rfl) fun w9 hS => by go_simp) ?_
        try simp only [List.getElem_toArray, List.getElem_cons_succ, List.getElem_cons_zero, Act.put, List.setIfInBounds_toArray, List.set_cons_succ, List.set_cons_zero]
        refine wpAnyV_done (by kernel_rfl) (fun u1 hu => ?_) _
        have Bu1 := Lib.hid hu
        clear hu
        go_wp2_with fail
        have EQ := Lib.hid (show (done ++ [(x1, x2)]) ++ _ = mergeA t l from by rw [← HE.out, mA_row, List.append_assoc]; first | done | rfl)
        refine (apply1_row x1 x2 b off A1 c1 F w0.heap.size G u1 done (AT1.out.below Bu1.out) (BV1.out.below Bu1.out) (H.out.1.1 (x1, x2) (by simp)) (by have := HL.out.1; omega) (HO.out.below Bu1.out) (Nat.le_trans HB.out.size Bu1.out.size) HG.out).mono ?_
        rintro e w5 ⟨⟨v5, rfl⟩, ho5, hb5⟩
        have O5 := Lib.hid ho5
        have B5 := Lib.hid ((HB.out.trans (Bu1.out.mono HB.out.size)).trans hb5)
        clear ho5 hb5
        go_wp2_with fail
        go_roundw
        case rel => exact ⟨some ⟨b, o1, none⟩, B', ca' - 1, cb', t2, [], done ++ [(x1, x2)], rfl, rfl, ⟨⟨fun x hx => H.out.1.1 x (by simp [hx]), H.out.1.2⟩, TL1.out, H.out.2.2⟩, ⟨by have h1 := HL.out.1;  simp only [List.length_append, List.length_cons, List.length_nil] at h1 ⊢; omega, by have h1 := HL.out.2.1; simp only [List.length_cons, List.length_nil] at h1 ⊢; omega, by have h1 := HL.out.2.2; simp only [List.length_cons, List.length_nil] at h1 ⊢; omega⟩, EQ.out, O5.out, B5.out⟩
        case measure => simp [lens2] <;> omega
      · skip
        obtain ⟨b, off, A1, c1, rfl, hat1, hbv1⟩ := row_first H.out.2.1 HB.out
        obtain ⟨o1, hsl1, ho1⟩ := slR_1 b off (t2.length + 1) ca' (by omega) (by have := HL.out.2.1; simpa using this)
        rw [Nat.add_sub_cancel] at hsl1
        have SL1 := Lib.hid hsl1
        have TL1 := Lib.hid (rdx_tail H.out.2.1 HL.out.2.1 ho1)
        have AT1 := Lib.hid hat1
        have BV1 := Lib.hid hbv1
        clear hsl1 ho1 hat1 hbv1
        have p1 : (0 : Int) < (t2.length : Int) + 1 := by omega
        have p1' : (0 : Int) < ((t2.length + 1 : Nat) : Int) := by omega
        have n1 : ((t2.length : Int) + 1 == 0) = false := by rw [beq_eq_false_iff_ne]; omega
        have n1' : (((t2.length + 1 : Nat) : Int) == 0) = false := by rw [beq_eq_false_iff_ne]; omega
        simp only [List.length_cons] at hts
        have s1 : (t2.length : Int) + 1 ≤ 100000 := by omega
        obtain ⟨b2, off2, A3, c3, rfl, hat2, hbv2⟩ := chg_first H.out.2.2 HB.out
        obtain ⟨o2, hsl2, ho2⟩ := slC_1 b2 off2 (l2.length + 1) cb' (by omega) (by have := HL.out.2.2; simpa using this)
        rw [Nat.add_sub_cancel] at hsl2
        have SL2 := Lib.hid hsl2
        have TL2 := Lib.hid (rdx_tail H.out.2.2 HL.out.2.2 ho2)
        have AT2 := Lib.hid hat2
        have BV2 := Lib.hid hbv2
        clear hsl2 ho2 hat2 hbv2
        have p2 : (0 : Int) < (l2.length : Int) + 1 := by omega
        have p2' : (0 : Int) < ((l2.length + 1 : Nat) : Int) := by omega
        have n2 : ((l2.length : Int) + 1 == 0) = false := by rw [beq_eq_false_iff_ne]; omega
        have n2' : (((l2.length + 1 : Nat) : Int) == 0) = false := by rw [beq_eq_false_iff_ne]; omega
        simp only [List.length_cons] at hls
        have s2 : (l2.length : Int) + 1 ≤ 100000 := by omega
        have hlb := less_bytes
        go_wp2_with fail
        refine wp_region_V [] (Below wr.heap.size wr) hmix ((Below.refl _ _).drew) ?_
        change wpAnyV _ _ _ _ _ _ _ _ _
        refine wpAnyV_take (i := 0) (v := .func (.func 45) #[] #[]) 8 (kept_below wr) rfl (by kernel_rfl) (by kernel_rfl) (fun _ _ _ h => h) (fun _ h => h) (DoesV.reads (by rfl) fun w9 hS => by go_simp) ?_
        try simp only [List.getElem_toArray, List.getElem_cons_succ, List.getElem_cons_zero, Act.put, List.setIfInBounds_toArray, List.set_cons_succ, List.set_cons_zero]
        refine wpAnyV_take (i := 1) (v := .slice (some ⟨b, off, none⟩) (t2.length + 1) ca') 8 (kept_below wr) rfl (by kernel_rfl) (by kernel_rfl) (fun _ _ _ h => h) (fun _ h => h) (DoesV.reads (by rfl) fun w9 hS => by go_simp) ?_
        try simp only [List.getElem_toArray, List.getElem_cons_succ, List.getElem_cons_zero, Act.put, List.setIfInBounds_toArray, List.set_cons_succ, List.set_cons_zero]
        refine wpAnyV_take (i := 2) (v := .pointer (some ⟨b, off, none⟩)) 8 (kept_below wr) rfl (by kernel_rfl) (by kernel_rfl) (fun _ _ _ h => h) (fun _ h => h) (DoesV.reads (by rfl) fun w9 hS => by go_simp) ?_
        try simp only [List.getElem_toArray, List.getElem_cons_succ, List.getElem_cons_zero, Act.put, List.setIfInBounds_toArray, List.set_cons_succ, List.set_cons_zero]
        refine wpAnyV_take (i := 3) (v := .agg (rwCells (x1, x2) A1 c1).toArray) 8 (kept_below wr) rfl (by kernel_rfl) (by kernel_rfl) (fun _ _ _ h => h) (fun _ h => h) (DoesV.loadS (by rfl) 50 _ rfl b off rfl (rwCells (x1, x2) A1 c1) (fun w9 hS => AT1.out.below hS) _ Try.underlying50 rfl (infoRw (x1, x2) A1 c1)) ?_
        try simp only [List.getElem_toArray, List.getElem_cons_succ, List.getElem_cons_zero, Act.put, List.setIfInBounds_toArray, List.set_cons_succ, List.set_cons_zero]
        refine wpAnyV_take (i := 4) (v := .string ⟨x1.toArray⟩) 8 (kept_below wr) rfl (by kernel_rfl) (by kernel_rfl) (fun _ _ _ h => h) (fun _ h => h) (DoesV.calls 45 #[.agg (rwCells (x1, x2) A1 c1).toArray] (by rfl) (fun w9 hS => by go_simp) (fun w9 hS => keyOfRow_any (x1, x2) A1 c1 w9)) ?_
        try simp only [List.getElem_toArray, List.getElem_cons_succ, List.getElem_cons_zero, Act.put, List.setIfInBounds_toArray, List.set_cons_succ, List.set_cons_zero]
        refine wpAnyV_take (i := 5) (v := .func (.func 42) #[] #[]) 8 (kept_below wr) rfl (by kernel_rfl) (by kernel_rfl) (fun _ _ _ h => h) (fun _ h => h) (DoesV.reads (by rfl) fun w9 hS => by go_simp) ?_
        try simp only [List.getElem_toArray, List.getElem_cons_succ, List.getElem_cons_zero, Act.put, List.setIfInBounds_toArray, List.set_cons_succ, List.set_cons_zero]
        refine wpAnyV_take (i := 6) (v := .slice (some ⟨b2, off2, none⟩) (l2.length + 1) cb') 8 (kept_below wr) rfl (by kernel_rfl) (by kernel_rfl) (fun _ _ _ h => h) (fun _ h => h) (DoesV.reads (by rfl) fun w9 hS => by go_simp) ?_
        try simp only [List.getElem_toArray, List.getElem_cons_succ, List.getElem_cons_zero, Act.put, List.setIfInBounds_toArray, List.set_cons_succ, List.set_cons_zero]
        refine wpAnyV_take (i := 7) (v := .pointer (some ⟨b2, off2, none⟩)) 8 (kept_below wr) rfl (by kernel_rfl) (by kernel_rfl) (fun _ _ _ h => h) (fun _ h => h) (DoesV.reads (by rfl) fun w9 hS => by go_simp) ?_
        try simp only [List.getElem_toArray, List.getElem_cons_succ, List.getElem_cons_zero, Act.put, List.setIfInBounds_toArray, List.set_cons_succ, List.set_cons_zero]
        refine wpAnyV_take (i := 8) (v := .agg (chCells (y1, y2, z) A3 c3).toArray) 8 (kept_below wr) rfl (by kernel_rfl) (by kernel_rfl) (fun _ _ _ h => h) (fun _ h => h) (DoesV.loadS (by rfl) 52 _ rfl b2 off2 rfl (chCells (y1, y2, z) A3 c3) (fun w9 hS => AT2.out.below hS) _ Try.underlying52 rfl (infoCh (y1, y2, z) A3 c3)) ?_
        try simp only [List.getElem_toArray, List.getElem_cons_succ, List.getElem_cons_zero, Act.put, List.setIfInBounds_toArray, List.set_cons_succ, List.set_cons_zero]
        refine wpAnyV_take (i := 9) (v := .string ⟨y1.toArray⟩) 8 (kept_below wr) rfl (by kernel_rfl) (by kernel_rfl) (fun _ _ _ h => h) (fun _ h => h) (DoesV.calls 42 #[.agg (chCells (y1, y2, z) A3 c3).toArray] (by rfl) (fun w9 hS => by go_simp) (fun w9 hS => keyOfChange_any (y1, y2, z) A3 c3 w9)) ?_
        try simp only [List.getElem_toArray, List.getElem_cons_succ, List.getElem_cons_zero, Act.put, List.setIfInBounds_toArray, List.set_cons_succ, List.set_cons_zero]
        refine wpAnyV_take (i := 10) (v := .int .i64 (cmpK x1 y1)) 8 (kept_below wr) rfl (by kernel_rfl) (by kernel_rfl) (fun _ _ _ h => h) (fun _ h => h) (DoesV.calls 59 #[.string ⟨x1.toArray⟩, .string ⟨y1.toArray⟩] (by rfl) (fun w9 hS => by go_simp) (fun w9 hS => (Compare_any x1 y1 w9).mono fun e w' h => ⟨h.1, h.2 ▸ Below.refl _ _⟩)) ?_
        try simp only [List.getElem_toArray, List.getElem_cons_succ, List.getElem_cons_zero, Act.put, List.setIfInBounds_toArray, List.set_cons_succ, List.set_cons_zero]
        refine wpAnyV_take (i := 11) (v := .int .i64 (cmpK x1 y1)) 8 (kept_below wr) rfl (by kernel_rfl) (by kernel_rfl) (fun _ _ _ h => h) (fun _ h => h) (DoesV.reads (by rfl) fun w9 hS => by go_simp) ?_
        try simp only [List.getElem_toArray, List.getElem_cons_succ, List.getElem_cons_zero, Act.put, List.setIfInBounds_toArray, List.set_cons_succ, List.set_cons_zero]
        refine wpAnyV_done (by kernel_rfl) (fun u1 hu => ?_) _
        have Bu1 := Lib.hid hu
        clear hu
        cases hlt : lessK x1 y1
        · cases hgt : lessK y1 x1
          · have hc : cmpK x1 y1 = 0 := by simp [cmpK, hlt, hgt]
            rw [hc]
            have MQ := Lib.hid (mA_eq (x := (x1, x2)) (c := (y1, y2, z)) t2 l2 hlt hgt)
            clear hlt hgt hc
            go_wp2_with fail
            refine wp_region_V [] (Below wr.heap.size wr) hmix (Bu1.out.drew) ?_
            change wpAnyV _ _ _ _ _ _ _ _ _
            refine wpAnyV_take (i := 0) (v := .slice (some ⟨b, off, none⟩) (t2.length + 1) ca') 8 (kept_below wr) rfl (by kernel_rfl) (by kernel_rfl) (fun _ _ _ h => h) (fun _ h => h) (DoesV.reads (by rfl) fun w9 hS => by go_simp) ?_
            try simp only [List.getElem_toArray, List.getElem_cons_succ, List.getElem_cons_zero, Act.put, List.setIfInBounds_toArray, List.set_cons_succ, List.set_cons_zero]
            refine wpAnyV_take (i := 1) (v := .pointer (some ⟨b, off, none⟩)) 8 (kept_below wr) rfl (by kernel_rfl) (by kernel_rfl) (fun _ _ _ h => h) (fun _ h => h) (DoesV.reads (by rfl) fun w9 hS => by go_simp) ?_
            try simp only [List.getElem_toArray, List.getElem_cons_succ, List.getElem_cons_zero, Act.put, List.setIfInBounds_toArray, List.set_cons_succ, List.set_cons_zero]
            refine wpAnyV_take (i := 2) (v := .slice (some ⟨b, off, none⟩) (t2.length + 1) ca') 8 (kept_below wr) rfl (by kernel_rfl) (by kernel_rfl) (fun _ _ _ h => h) (fun _ h => h) (DoesV.reads (by rfl) fun w9 hS => by go_simp) ?_
            try simp only [List.getElem_toArray, List.getElem_cons_succ, List.getElem_cons_zero, Act.put, List.setIfInBounds_toArray, List.set_cons_succ, List.set_cons_zero]
            refine wpAnyV_take (i := 3) (v := .slice (some ⟨b, o1, none⟩) t2.length (ca' - 1)) 8 (kept_below wr) rfl (by kernel_rfl) (by kernel_rfl) (fun _ _ _ h => h) (fun _ h => h) (DoesV.reads (by rfl) fun w9 hS => by have h9 := SL1.out w9; go_simp) ?_
            try simp only [List.getElem_toArray, List.getElem_cons_succ, List.getElem_cons_zero, Act.put, List.setIfInBounds_toArray, List.set_cons_succ, List.set_cons_zero]
            refine wpAnyV_take (i := 4) (v := .pointer (some ⟨b, off, none⟩)) 8 (kept_below wr) rfl (by kernel_rfl) (by kernel_rfl) (fun _ _ _ h => h) (fun _ h => h) (DoesV.reads (by rfl) fun w9 hS => by go_simp) ?_
            try simp only [List.getElem_toArray, List.getElem_cons_succ, List.getElem_cons_zero, Act.put, List.setIfInBounds_toArray, List.set_cons_succ, List.set_cons_zero]
            refine wpAnyV_take (i := 5) (v := .slice (some ⟨b, o1, none⟩) t2.length (ca' - 1)) 8 (kept_below wr) rfl (by kernel_rfl) (by kernel_rfl) (fun _ _ _ h => h) (fun _ h => h) (DoesV.reads (by rfl) fun w9 hS => by go_simp) ?_
            try simp only [List.getElem_toArray, List.getElem_cons_succ, List.getElem_cons_zero, Act.put, List.setIfInBounds_toArray, List.set_cons_succ, List.set_cons_zero]
            refine wpAnyV_done (by kernel_rfl) (fun u2 hu => ?_) _
            have Bu2 := Lib.hid hu
            clear hu
            go_wp2_with fail
            refine wp_region_V [] (Below wr.heap.size wr) hmix (Bu2.out.drew) ?_
            change wpAnyV _ _ _ _ _ _ _ _ _
            refine wpAnyV_take (i := 0) (v := .slice (some ⟨b2, off2, none⟩) (l2.length + 1) cb') 8 (kept_below wr) rfl (by kernel_rfl) (by kernel_rfl) (fun _ _ _ h => h) (fun _ h => h) (DoesV.reads (by rfl) fun w9 hS => by go_simp) ?_
            try simp only [List.getElem_toArray, List.getElem_cons_succ, List.getElem_cons_zero, Act.put, List.setIfInBounds_toArray, List.set_cons_succ, List.set_cons_zero]
            refine wpAnyV_take (i := 1) (v := .pointer (some ⟨b2, off2, none⟩)) 8 (kept_below wr) rfl (by kernel_rfl) (by kernel_rfl) (fun _ _ _ h => h) (fun _ h => h) (DoesV.reads (by rfl) fun w9 hS => by go_simp) ?_
            try simp only [List.getElem_toArray, List.getElem_cons_succ, List.getElem_cons_zero, Act.put, List.setIfInBounds_toArray, List.set_cons_succ, List.set_cons_zero]
            refine wpAnyV_take (i := 2) (v := .slice (some ⟨b2, off2, none⟩) (l2.length + 1) cb') 8 (kept_below wr) rfl (by kernel_rfl) (by kernel_rfl) (fun _ _ _ h => h) (fun _ h => h) (DoesV.reads (by rfl) fun w9 hS => by go_simp) ?_
            try simp only [List.getElem_toArray, List.getElem_cons_succ, List.getElem_cons_zero, Act.put, List.setIfInBounds_toArray, List.set_cons_succ, List.set_cons_zero]
            refine wpAnyV_take (i := 3) (v := .slice (some ⟨b2, o2, none⟩) l2.length (cb' - 1)) 8 (kept_below wr) rfl (by kernel_rfl) (by kernel_rfl) (fun _ _ _ h => h) (fun _ h => h) (DoesV.reads (by rfl) fun w9 hS => by have h9 := SL2.out w9; go_simp) ?_
            try simp only [List.getElem_toArray, List.getElem_cons_succ, List.getElem_cons_zero, Act.put, List.setIfInBounds_toArray, List.set_cons_succ, List.set_cons_zero]
            refine wpAnyV_take (i := 4) (v := .pointer (some ⟨b2, off2, none⟩)) 8 (kept_below wr) rfl (by kernel_rfl) (by kernel_rfl) (fun _ _ _ h => h) (fun _ h => h) (DoesV.reads (by rfl) fun w9 hS => by go_simp) ?_
            try simp only [List.getElem_toArray, List.getElem_cons_succ, List.getElem_cons_zero, Act.put, List.setIfInBounds_toArray, List.set_cons_succ, List.set_cons_zero]
            refine wpAnyV_take (i := 5) (v := .slice (some ⟨b2, o2, none⟩) l2.length (cb' - 1)) 8 (kept_below wr) rfl (by kernel_rfl) (by kernel_rfl) (fun _ _ _ h => h) (fun _ h => h) (DoesV.reads (by rfl) fun w9 hS => by go_simp) ?_
            try simp only [List.getElem_toArray, List.getElem_cons_succ, List.getElem_cons_zero, Act.put, List.setIfInBounds_toArray, List.set_cons_succ, List.set_cons_zero]
            refine wpAnyV_done (by kernel_rfl) (fun u3 hu => ?_) _
            have Bu3 := Lib.hid hu
            clear hu
            go_wp2_with fail
            rcases z with _ | _
            · have EQ := Lib.hid (show (done ++ [(y1, y2)]) ++ _ = mergeA t l from by rw [← HE.out, MQ.out, List.append_assoc]; first | done | rfl)
              refine (apply1_put (.pointer (some ⟨b, off, none⟩)) y1 y2 b2 off2 A3 c3 F' w0.heap.size G u3 done (AT2.out.below Bu3.out) (BV2.out.below Bu3.out) (H.out.1.2 (y1, y2, false) (by simp)) (by have := HL.out.1; omega) (HO.out.below Bu3.out) (Nat.le_trans HB.out.size Bu3.out.size) HG.out).mono ?_
              rintro e w5 ⟨⟨v5, rfl⟩, ho5, hb5⟩
              have O5 := Lib.hid ho5
              have B5 := Lib.hid ((HB.out.trans (Bu3.out.mono HB.out.size)).trans hb5)
              clear ho5 hb5
              go_wp2_with fail
              go_roundw
              case rel => exact ⟨some ⟨b, o1, none⟩, some ⟨b2, o2, none⟩, ca' - 1, cb' - 1, t2, l2, done ++ [(y1, y2)], rfl, rfl, ⟨⟨fun x hx => H.out.1.1 x (by simp [hx]), fun x hx => H.out.1.2 x (by simp [hx])⟩, TL1.out, TL2.out⟩, ⟨by have h1 := HL.out.1;  simp only [List.length_append, List.length_cons, List.length_nil] at h1 ⊢; omega, by have h1 := HL.out.2.1; simp only [List.length_cons, List.length_nil] at h1 ⊢; omega, by have h1 := HL.out.2.2; simp only [List.length_cons, List.length_nil] at h1 ⊢; omega⟩, EQ.out, O5.out, B5.out⟩
              case measure => simp [lens2] <;> omega
            · have EQ := Lib.hid (show done ++ _ = mergeA t l from by rw [← HE.out, MQ.out]; first | done | rfl)
              refine (apply1_gone (.pointer (some ⟨b, off, none⟩)) y1 y2 b2 off2 A3 c3 w0.heap.size G u3 done (AT2.out.below Bu3.out) (by have := HL.out.1; omega) (HO.out.below Bu3.out) (Nat.le_trans HB.out.size Bu3.out.size) HG.out).mono ?_
              rintro e w5 ⟨⟨v5, rfl⟩, ho5, hb5⟩
              have O5 := Lib.hid ho5
              have B5 := Lib.hid ((HB.out.trans (Bu3.out.mono HB.out.size)).trans hb5)
              clear ho5 hb5
              go_wp2_with fail
              go_roundw
              case rel => exact ⟨some ⟨b, o1, none⟩, some ⟨b2, o2, none⟩, ca' - 1, cb' - 1, t2, l2, done, rfl, rfl, ⟨⟨fun x hx => H.out.1.1 x (by simp [hx]), fun x hx => H.out.1.2 x (by simp [hx])⟩, TL1.out, TL2.out⟩, ⟨by have h1 := HL.out.1;  simp only [List.length_append, List.length_cons, List.length_nil] at h1 ⊢; omega, by have h1 := HL.out.2.1; simp only [List.length_cons, List.length_nil] at h1 ⊢; omega, by have h1 := HL.out.2.2; simp only [List.length_cons, List.length_nil] at h1 ⊢; omega⟩, EQ.out, O5.out, B5.out⟩
              case measure => simp [lens2] <;> omega
          · have hc : cmpK x1 y1 = 1 := by simp [cmpK, hlt, hgt]
            rw [hc]
            have MQ := Lib.hid (mA_gt (x := (x1, x2)) (c := (y1, y2, z)) t2 l2 hlt hgt)
            clear hlt hgt hc
            go_wp2_with fail
            refine wp_region_V [] (Below wr.heap.size wr) hmix (Bu1.out.drew) ?_
            change wpAnyV _ _ _ _ _ _ _ _ _
            refine wpAnyV_take (i := 0) (v := .slice (some ⟨b2, off2, none⟩) (l2.length + 1) cb') 8 (kept_below wr) rfl (by kernel_rfl) (by kernel_rfl) (fun _ _ _ h => h) (fun _ h => h) (DoesV.reads (by rfl) fun w9 hS => by go_simp) ?_
            try simp only [List.getElem_toArray, List.getElem_cons_succ, List.getElem_cons_zero, Act.put, List.setIfInBounds_toArray, List.set_cons_succ, List.set_cons_zero]
            refine wpAnyV_take (i := 1) (v := .pointer (some ⟨b2, off2, none⟩)) 8 (kept_below wr) rfl (by kernel_rfl) (by kernel_rfl) (fun _ _ _ h => h) (fun _ h => h) (DoesV.reads (by rfl) fun w9 hS => by go_simp) ?_
            try simp only [List.getElem_toArray, List.getElem_cons_succ, List.getElem_cons_zero, Act.put, List.setIfInBounds_toArray, List.set_cons_succ, List.set_cons_zero]
            refine wpAnyV_take (i := 2) (v := .slice (some ⟨b2, off2, none⟩) (l2.length + 1) cb') 8 (kept_below wr) rfl (by kernel_rfl) (by kernel_rfl) (fun _ _ _ h => h) (fun _ h => h) (DoesV.reads (by rfl) fun w9 hS => by go_simp) ?_
            try simp only [List.getElem_toArray, List.getElem_cons_succ, List.getElem_cons_zero, Act.put, List.setIfInBounds_toArray, List.set_cons_succ, List.set_cons_zero]
            refine wpAnyV_take (i := 3) (v := .slice (some ⟨b2, o2, none⟩) l2.length (cb' - 1)) 8 (kept_below wr) rfl (by kernel_rfl) (by kernel_rfl) (fun _ _ _ h => h) (fun _ h => h) (DoesV.reads (by rfl) fun w9 hS => by have h9 := SL2.out w9; go_simp) ?_
            try simp only [List.getElem_toArray, List.getElem_cons_succ, List.getElem_cons_zero, Act.put, List.setIfInBounds_toArray, List.set_cons_succ, List.set_cons_zero]
            refine wpAnyV_take (i := 4) (v := .pointer (some ⟨b2, off2, none⟩)) 8 (kept_below wr) rfl (by kernel_rfl) (by kernel_rfl) (fun _ _ _ h => h) (fun _ h => h) (DoesV.reads (by rfl) fun w9 hS => by go_simp) ?_
            try simp only [List.getElem_toArray, List.getElem_cons_succ, List.getElem_cons_zero, Act.put, List.setIfInBounds_toArray, List.set_cons_succ, List.set_cons_zero]
            refine wpAnyV_take (i := 5) (v := .slice (some ⟨b2, o2, none⟩) l2.length (cb' - 1)) 8 (kept_below wr) rfl (by kernel_rfl) (by kernel_rfl) (fun _ _ _ h => h) (fun _ h => h) (DoesV.reads (by rfl) fun w9 hS => by go_simp) ?_
            try simp only [List.getElem_toArray, List.getElem_cons_succ, List.getElem_cons_zero, Act.put, List.setIfInBounds_toArray, List.set_cons_succ, List.set_cons_zero]
            refine wpAnyV_done (by kernel_rfl) (fun u2 hu => ?_) _
            have Bu2 := Lib.hid hu
            clear hu
            go_wp2_with fail
            rcases z with _ | _
            · have EQ := Lib.hid (show (done ++ [(y1, y2)]) ++ _ = mergeA t l from by rw [← HE.out, MQ.out, List.append_assoc]; first | done | rfl)
              refine (apply1_put (.pointer none) y1 y2 b2 off2 A3 c3 F' w0.heap.size G u2 done (AT2.out.below Bu2.out) (BV2.out.below Bu2.out) (H.out.1.2 (y1, y2, false) (by simp)) (by have := HL.out.1; omega) (HO.out.below Bu2.out) (Nat.le_trans HB.out.size Bu2.out.size) HG.out).mono ?_
              rintro e w5 ⟨⟨v5, rfl⟩, ho5, hb5⟩
              have O5 := Lib.hid ho5
              have B5 := Lib.hid ((HB.out.trans (Bu2.out.mono HB.out.size)).trans hb5)
              clear ho5 hb5
              go_wp2_with fail
              go_roundw
              case rel => exact ⟨some ⟨b, off, none⟩, some ⟨b2, o2, none⟩, ca', cb' - 1, (x1, x2) :: t2, l2, done ++ [(y1, y2)], rfl, rfl, ⟨⟨H.out.1.1, fun x hx => H.out.1.2 x (by simp [hx])⟩, H.out.2.1, TL2.out⟩, ⟨by have h1 := HL.out.1;  simp only [List.length_append, List.length_cons, List.length_nil] at h1 ⊢; omega, by have h1 := HL.out.2.1; simp only [List.length_cons, List.length_nil] at h1 ⊢; omega, by have h1 := HL.out.2.2; simp only [List.length_cons, List.length_nil] at h1 ⊢; omega⟩, EQ.out, O5.out, B5.out⟩
              case measure => simp [lens2] <;> omega
            · have EQ := Lib.hid (show done ++ _ = mergeA t l from by rw [← HE.out, MQ.out]; first | done | rfl)
              refine (apply1_gone (.pointer none) y1 y2 b2 off2 A3 c3 w0.heap.size G u2 done (AT2.out.below Bu2.out) (by have := HL.out.1; omega) (HO.out.below Bu2.out) (Nat.le_trans HB.out.size Bu2.out.size) HG.out).mono ?_
              rintro e w5 ⟨⟨v5, rfl⟩, ho5, hb5⟩
              have O5 := Lib.hid ho5
              have B5 := Lib.hid ((HB.out.trans (Bu2.out.mono HB.out.size)).trans hb5)
              clear ho5 hb5
              go_wp2_with fail
              go_roundw
              case rel => exact ⟨some ⟨b, off, none⟩, some ⟨b2, o2, none⟩, ca', cb' - 1, (x1, x2) :: t2, l2, done, rfl, rfl, ⟨⟨H.out.1.1, fun x hx => H.out.1.2 x (by simp [hx])⟩, H.out.2.1, TL2.out⟩, ⟨by have h1 := HL.out.1;  simp only [List.length_append, List.length_cons, List.length_nil] at h1 ⊢; omega, by have h1 := HL.out.2.1; simp only [List.length_cons, List.length_nil] at h1 ⊢; omega, by have h1 := HL.out.2.2; simp only [List.length_cons, List.length_nil] at h1 ⊢; omega⟩, EQ.out, O5.out, B5.out⟩
              case measure => simp [lens2] <;> omega
        · have hc : cmpK x1 y1 = -1 := by simp [cmpK, hlt]
          rw [hc]
          have MQ := Lib.hid (mA_lt (x := (x1, x2)) (c := (y1, y2, z)) t2 l2 hlt)
          clear hlt hc
          go_wp2_with fail
          refine wp_region_V [] (Below wr.heap.size wr) hmix (Bu1.out.drew) ?_
          change wpAnyV _ _ _ _ _ _ _ _ _
          refine wpAnyV_take (i := 0) (v := .slice (some ⟨b, off, none⟩) (t2.length + 1) ca') 8 (kept_below wr) rfl (by kernel_rfl) (by kernel_rfl) (fun _ _ _ h => h) (fun _ h => h) (DoesV.reads (by rfl) fun w9 hS => by go_simp) ?_
          try simp only [List.getElem_toArray, List.getElem_cons_succ, List.getElem_cons_zero, Act.put, List.setIfInBounds_toArray, List.set_cons_succ, List.set_cons_zero]
          refine wpAnyV_take (i := 1) (v := .pointer (some ⟨b, off, none⟩)) 8 (kept_below wr) rfl (by kernel_rfl) (by kernel_rfl) (fun _ _ _ h => h) (fun _ h => h) (DoesV.reads (by rfl) fun w9 hS => by go_simp) ?_
          try simp only [List.getElem_toArray, List.getElem_cons_succ, List.getElem_cons_zero, Act.put, List.setIfInBounds_toArray, List.set_cons_succ, List.set_cons_zero]
          refine wpAnyV_take (i := 2) (v := .slice (some ⟨b, off, none⟩) (t2.length + 1) ca') 8 (kept_below wr) rfl (by kernel_rfl) (by kernel_rfl) (fun _ _ _ h => h) (fun _ h => h) (DoesV.reads (by rfl) fun w9 hS => by go_simp) ?_
          try simp only [List.getElem_toArray, List.getElem_cons_succ, List.getElem_cons_zero, Act.put, List.setIfInBounds_toArray, List.set_cons_succ, List.set_cons_zero]
          refine wpAnyV_take (i := 3) (v := .slice (some ⟨b, o1, none⟩) t2.length (ca' - 1)) 8 (kept_below wr) rfl (by kernel_rfl) (by kernel_rfl) (fun _ _ _ h => h) (fun _ h => h) (DoesV.reads (by rfl) fun w9 hS => by have h9 := SL1.out w9; go_simp) ?_
          try simp only [List.getElem_toArray, List.getElem_cons_succ, List.getElem_cons_zero, Act.put, List.setIfInBounds_toArray, List.set_cons_succ, List.set_cons_zero]
          refine wpAnyV_take (i := 4) (v := .pointer (some ⟨b, off, none⟩)) 8 (kept_below wr) rfl (by kernel_rfl) (by kernel_rfl) (fun _ _ _ h => h) (fun _ h => h) (DoesV.reads (by rfl) fun w9 hS => by go_simp) ?_
          try simp only [List.getElem_toArray, List.getElem_cons_succ, List.getElem_cons_zero, Act.put, List.setIfInBounds_toArray, List.set_cons_succ, List.set_cons_zero]
          refine wpAnyV_take (i := 5) (v := .slice (some ⟨b, o1, none⟩) t2.length (ca' - 1)) 8 (kept_below wr) rfl (by kernel_rfl) (by kernel_rfl) (fun _ _ _ h => h) (fun _ h => h) (DoesV.reads (by rfl) fun w9 hS => by go_simp) ?_
          try simp only [List.getElem_toArray, List.getElem_cons_succ, List.getElem_cons_zero, Act.put, List.setIfInBounds_toArray, List.set_cons_succ, List.set_cons_zero]
          refine wpAnyV_done (by kernel_rfl) (fun u2 hu => ?_) _
          have Bu2 := Lib.hid hu
          clear hu
          go_wp2_with fail
          have EQ := Lib.hid (show (done ++ [(x1, x2)]) ++ _ = mergeA t l from by rw [← HE.out, MQ.out, List.append_assoc]; first | done | rfl)
          refine (apply1_row x1 x2 b off A1 c1 F w0.heap.size G u2 done (AT1.out.below Bu2.out) (BV1.out.below Bu2.out) (H.out.1.1 (x1, x2) (by simp)) (by have := HL.out.1; omega) (HO.out.below Bu2.out) (Nat.le_trans HB.out.size Bu2.out.size) HG.out).mono ?_
          rintro e w5 ⟨⟨v5, rfl⟩, ho5, hb5⟩
          have O5 := Lib.hid ho5
          have B5 := Lib.hid ((HB.out.trans (Bu2.out.mono HB.out.size)).trans hb5)
          clear ho5 hb5
          go_wp2_with fail
          go_roundw
          case rel => exact ⟨some ⟨b, o1, none⟩, some ⟨b2, off2, none⟩, ca' - 1, cb', t2, (y1, y2, z) :: l2, done ++ [(x1, x2)], rfl, rfl, ⟨⟨fun x hx => H.out.1.1 x (by simp [hx]), H.out.1.2⟩, TL1.out, H.out.2.2⟩, ⟨by have h1 := HL.out.1;  simp only [List.length_append, List.length_cons, List.length_nil] at h1 ⊢; omega, by have h1 := HL.out.2.1; simp only [List.length_cons, List.length_nil] at h1 ⊢; omega, by have h1 := HL.out.2.2; simp only [List.length_cons, List.length_nil] at h1 ⊢; omega⟩, EQ.out, O5.out, B5.out⟩
          case measure => simp [lens2] <;> omega
set_option maxHeartbeats 8000000 in
theorem side_between (t : List Rw) (l : List Rw) (A B : Option Addr) (ca cb : Nat) (F F' : Nat → Prop) (G : Nat) (w0 w : World) (ht : ∀ x ∈ t, x.2.length ≤ 8192) (hl : ∀ x ∈ l, x.2.length ≤ 8192) (hlen : t.length + l.length ≤ 100000) (hca : t.length ≤ ca) (hcb : l.length ≤ cb) (hr : RdX rowE w0 F A t) (hc : RdX rowE w0 F' B l) (hb : Below w0.heap.size w0 w) (hG : w0.heap.size ≤ G) (ho : OutX chgN w0.heap.size G w []) :
    Calls Try.prog 51 #[.slice A t.length ca, .slice B l.length cb, .func (.func 45) #[] #[], .func (.func 45) #[] #[], .func (.func 52) #[] #[.pointer (some ⟨G, 0, none⟩)]] w fun e w' => (∃ v, e = .returned v) ∧ OutX chgN w0.heap.size G w' (mergeB t l) ∧ Below w0.heap.size w0 w' := by
  have hmix : Try.prog.follows .mixedOrders = true := by kernel_rfl
  have H0 := Lib.hid (And.intro (And.intro ht hl) (And.intro hr hc))
  have HL := Lib.hid (And.intro hlen (And.intro hca hcb))
  have HB := Lib.hid hb
  have HG := Lib.hid hG
  have HO := Lib.hid ho
  clear ht hl hlen hca hcb hr hc hb hG ho
  go_enter Try.func51, Try.ntmps51
  go_wp2_with fail
  go_loopw [0, 1] (fun s0 s1 wr => ∃ (A' B' : Option Addr) (ca' cb' : Nat) (t' : List Rw) (l' : List Rw) (done : List Ch), s0 = .slice A' t'.length ca' ∧ s1 = .slice B' l'.length cb' ∧ (((∀ x ∈ t', x.2.length ≤ 8192) ∧ ∀ x ∈ l', x.2.length ≤ 8192) ∧ RdX rowE w0 F A' t' ∧ RdX rowE w0 F' B' l') ∧ (done.length + (t'.length + l'.length) ≤ 100000 ∧ t'.length ≤ ca' ∧ l'.length ≤ cb') ∧ done ++ mergeB t' l' = mergeB t l ∧ OutX chgN w0.heap.size G wr done ∧ Below w0.heap.size w0 wr) (fun s0 s1 _ => lens2 s0 s1)
  case atStart => exact ⟨A, B, ca, cb, t, l, [], rfl, rfl, H0.out, ⟨by have := HL.out.1; simpa using this, HL.out.2⟩, rfl, HO.out, HB.out⟩
  case round =>
    obtain ⟨A', B', ca', cb', t', l', done, rfl, rfl, h0, hlen, hE, ho, hb⟩ := hrel
    have H := Lib.hid h0
    have HL := Lib.hid hlen
    have HE := Lib.hid hE
    have HO := Lib.hid ho
    have HB := Lib.hid hb
    have hts : t'.length ≤ 100000 := by omega
    have hls : l'.length ≤ 100000 := by omega
    clear h0 hlen hE ho hb
    rcases t' with _ | ⟨⟨x1, x2⟩, t2⟩
    · rcases l' with _ | ⟨⟨y1, y2⟩, l2⟩
      · go_wp2_with fail
        go_end0
        have hE := HE.out
        rw [mB_nil, List.append_nil] at hE
        rw [← hE]
        exact ⟨⟨_, rfl⟩, HO.out, HB.out⟩
      · skip
        obtain ⟨b2, off2, A3, c3, rfl, hat2, hbv2⟩ := row_first H.out.2.2 HB.out
        obtain ⟨o2, hsl2, ho2⟩ := slR_1 b2 off2 (l2.length + 1) cb' (by omega) (by have := HL.out.2.2; simpa using this)
        rw [Nat.add_sub_cancel] at hsl2
        have SL2 := Lib.hid hsl2
        have TL2 := Lib.hid (rdx_tail H.out.2.2 HL.out.2.2 ho2)
        have AT2 := Lib.hid hat2
        have BV2 := Lib.hid hbv2
        clear hsl2 ho2 hat2 hbv2
        have p2 : (0 : Int) < (l2.length : Int) + 1 := by omega
        have p2' : (0 : Int) < ((l2.length + 1 : Nat) : Int) := by omega
        have n2 : ((l2.length : Int) + 1 == 0) = false := by rw [beq_eq_false_iff_ne]; omega
        have n2' : (((l2.length + 1 : Nat) : Int) == 0) = false := by rw [beq_eq_false_iff_ne]; omega
        simp only [List.length_cons] at hls
        have s2 : (l2.length : Int) + 1 ≤ 100000 := by omega
        go_wp2_with fail
        refine wp_region_V [] (Below wr.heap.size wr) hmix ((Below.refl _ _).drew) ?_
        change wpAnyV _ _ _ _ _ _ _ _ _
        refine wpAnyV_take (i := 0) (v := .slice (some ⟨b2, off2, none⟩) (l2.length + 1) cb') 8 (kept_below wr) rfl (by kernel_rfl) (by kernel_rfl) (fun _ _ _ h => h) (fun _ h => h) (DoesV.reads (by rfl) fun w9 hS => by go_simp) ?_
        try simp only [List.getElem_toArray, List.getElem_cons_succ, List.getElem_cons_zero, Act.put, List.setIfInBounds_toArray, List.set_cons_succ, List.set_cons_zero]
        refine wpAnyV_take (i := 1) (v := .pointer (some ⟨b2, off2, none⟩)) 8 (kept_below wr) rfl (by kernel_rfl) (by kernel_rfl) (fun _ _ _ h => h) (fun _ h => h) (DoesV.reads (by rfl) fun w9 hS => by go_simp) ?_
        try simp only [List.getElem_toArray, List.getElem_cons_succ, List.getElem_cons_zero, Act.put, List.setIfInBounds_toArray, List.set_cons_succ, List.set_cons_zero]
        refine wpAnyV_take (i := 2) (v := .slice (some ⟨b2, off2, none⟩) (l2.length + 1) cb') 8 (kept_below wr) rfl (by kernel_rfl) (by kernel_rfl) (fun _ _ _ h => h) (fun _ h => h) (DoesV.reads (by rfl) fun w9 hS => by go_simp) ?_
        try simp only [List.getElem_toArray, List.getElem_cons_succ, List.getElem_cons_zero, Act.put, List.setIfInBounds_toArray, List.set_cons_succ, List.set_cons_zero]
        refine wpAnyV_take (i := 3) (v := .slice (some ⟨b2, o2, none⟩) l2.length (cb' - 1)) 8 (kept_below wr) rfl (by kernel_rfl) (by kernel_rfl) (fun _ _ _ h => h) (fun _ h => h) (DoesV.reads (by rfl) fun w9 hS => by have h9 := SL2.out w9; go_simp) ?_
        try simp only [List.getElem_toArray, List.getElem_cons_succ, List.getElem_cons_zero, Act.put, List.setIfInBounds_toArray, List.set_cons_succ, List.set_cons_zero]
        refine wpAnyV_take (i := 4) (v := .pointer (some ⟨b2, off2, none⟩)) 8 (kept_below wr) rfl (by kernel_rfl) (by kernel_rfl) (fun _ _ _ h => h) (fun _ h => h) (DoesV.reads (by rfl) fun w9 hS => by go_simp) ?_
        try simp only [List.getElem_toArray, List.getElem_cons_succ, List.getElem_cons_zero, Act.put, List.setIfInBounds_toArray, List.set_cons_succ, List.set_cons_zero]
        refine wpAnyV_take (i := 5) (v := .slice (some ⟨b2, o2, none⟩) l2.length (cb' - 1)) 8 (kept_below wr) rfl (by kernel_rfl) (by kernel_rfl) (fun _ _ _ h => h) (fun _ h => h) (DoesV.reads (by rfl) fun w9 hS => by go_simp) ?_
        try simp only [List.getElem_toArray, List.getElem_cons_succ, List.getElem_cons_zero, Act.put, List.setIfInBounds_toArray, List.set_cons_succ, List.set_cons_zero]
        refine wpAnyV_done (by kernel_rfl) (fun u1 hu => ?_) _
        have Bu1 := Lib.hid hu
        clear hu
        go_wp2_with fail
        have EQ := Lib.hid (show (done ++ [(y1, y2, false)]) ++ _ = mergeB t l from by rw [← HE.out, mB_chg, List.append_assoc]; first | done | rfl)
        refine (betw1_new y1 y2 b2 off2 A3 c3 F' w0.heap.size G u1 done (AT2.out.below Bu1.out) (BV2.out.below Bu1.out) (H.out.1.2 (y1, y2) (by simp)) (by have := HL.out.1; omega) (HO.out.below Bu1.out) (Nat.le_trans HB.out.size Bu1.out.size) HG.out).mono ?_
        rintro e w5 ⟨⟨v5, rfl⟩, ho5, hb5⟩
        have O5 := Lib.hid ho5
        have B5 := Lib.hid ((HB.out.trans (Bu1.out.mono HB.out.size)).trans hb5)
        clear ho5 hb5
        go_wp2_with fail
        go_roundw
        case rel => exact ⟨A', some ⟨b2, o2, none⟩, ca', cb' - 1, [], l2, done ++ [(y1, y2, false)], rfl, rfl, ⟨⟨H.out.1.1, fun x hx => H.out.1.2 x (by simp [hx])⟩, H.out.2.1, TL2.out⟩, ⟨by have h1 := HL.out.1;  simp only [List.length_append, List.length_cons, List.length_nil] at h1 ⊢; omega, by have h1 := HL.out.2.1; simp only [List.length_cons, List.length_nil] at h1 ⊢; omega, by have h1 := HL.out.2.2; simp only [List.length_cons, List.length_nil] at h1 ⊢; omega⟩, EQ.out, O5.out, B5.out⟩
        case measure => simp [lens2] <;> omega
    · rcases l' with _ | ⟨⟨y1, y2⟩, l2⟩
      · skip
        obtain ⟨b, off, A1, c1, rfl, hat1, hbv1⟩ := row_first H.out.2.1 HB.out
        obtain ⟨o1, hsl1, ho1⟩ := slR_1 b off (t2.length + 1) ca' (by omega) (by have := HL.out.2.1; simpa using this)
        rw [Nat.add_sub_cancel] at hsl1
        have SL1 := Lib.hid hsl1
        have TL1 := Lib.hid (rdx_tail H.out.2.1 HL.out.2.1 ho1)
        have AT1 := Lib.hid hat1
        have BV1 := Lib.hid hbv1
        clear hsl1 ho1 hat1 hbv1
        have p1 : (0 : Int) < (t2.length : Int) + 1 := by omega
        have p1' : (0 : Int) < ((t2.length + 1 : Nat) : Int) := by omega
        have n1 : ((t2.length : Int) + 1 == 0) = false := by rw [beq_eq_false_iff_ne]; omega
        have n1' : (((t2.length + 1 : Nat) : Int) == 0) = false := by rw [beq_eq_false_iff_ne]; omega
        simp only [List.length_cons] at hts
        have s1 : (t2.length : Int) + 1 ≤ 100000 := by omega
        go_wp2_with fail
        refine wp_region_V [] (Below wr.heap.size wr) hmix ((Below.refl _ _).drew) ?_
        change wpAnyV _ _ _ _ _ _ _ _ _
        refine wpAnyV_take (i := 0) (v := .slice (some ⟨b, off, none⟩) (t2.length + 1) ca') 8 (kept_below wr) rfl (by kernel_rfl) (by kernel_rfl) (fun _ _ _ h => h) (fun _ h => h) (DoesV.reads (by rfl) fun w9 hS => by go_simp) ?_
        try simp only [List.getElem_toArray, List.getElem_cons_succ, List.getElem_cons_zero, Act.put, List.setIfInBounds_toArray, List.set_cons_succ, List.set_cons_zero]
        refine wpAnyV_take (i := 1) (v := .pointer (some ⟨b, off, none⟩)) 8 (kept_below wr) rfl (by kernel_rfl) (by kernel_rfl) (fun _ _ _ h => h) (fun _ h => h) (DoesV.reads (by rfl) fun w9 hS => by go_simp) ?_
        try simp only [List.getElem_toArray, List.getElem_cons_succ, List.getElem_cons_zero, Act.put, List.setIfInBounds_toArray, List.set_cons_succ, List.set_cons_zero]
        refine wpAnyV_take (i := 2) (v := .slice (some ⟨b, off, none⟩) (t2.length + 1) ca') 8 (kept_below wr) rfl (by kernel_rfl) (by kernel_rfl) (fun _ _ _ h => h) (fun _ h => h) (DoesV.reads (by rfl) fun w9 hS => by go_simp) ?_
        try simp only [List.getElem_toArray, List.getElem_cons_succ, List.getElem_cons_zero, Act.put, List.setIfInBounds_toArray, List.set_cons_succ, List.set_cons_zero]
        refine wpAnyV_take (i := 3) (v := .slice (some ⟨b, o1, none⟩) t2.length (ca' - 1)) 8 (kept_below wr) rfl (by kernel_rfl) (by kernel_rfl) (fun _ _ _ h => h) (fun _ h => h) (DoesV.reads (by rfl) fun w9 hS => by have h9 := SL1.out w9; go_simp) ?_
        try simp only [List.getElem_toArray, List.getElem_cons_succ, List.getElem_cons_zero, Act.put, List.setIfInBounds_toArray, List.set_cons_succ, List.set_cons_zero]
        refine wpAnyV_take (i := 4) (v := .pointer (some ⟨b, off, none⟩)) 8 (kept_below wr) rfl (by kernel_rfl) (by kernel_rfl) (fun _ _ _ h => h) (fun _ h => h) (DoesV.reads (by rfl) fun w9 hS => by go_simp) ?_
        try simp only [List.getElem_toArray, List.getElem_cons_succ, List.getElem_cons_zero, Act.put, List.setIfInBounds_toArray, List.set_cons_succ, List.set_cons_zero]
        refine wpAnyV_take (i := 5) (v := .slice (some ⟨b, o1, none⟩) t2.length (ca' - 1)) 8 (kept_below wr) rfl (by kernel_rfl) (by kernel_rfl) (fun _ _ _ h => h) (fun _ h => h) (DoesV.reads (by rfl) fun w9 hS => by go_simp) ?_
        try simp only [List.getElem_toArray, List.getElem_cons_succ, List.getElem_cons_zero, Act.put, List.setIfInBounds_toArray, List.set_cons_succ, List.set_cons_zero]
        refine wpAnyV_done (by kernel_rfl) (fun u1 hu => ?_) _
        have Bu1 := Lib.hid hu
        clear hu
        go_wp2_with fail
        have EQ := Lib.hid (show (done ++ [(x1, [], true)]) ++ _ = mergeB t l from by rw [← HE.out, mB_row, List.append_assoc]; first | done | rfl)
        refine (betw1_gone x1 x2 b off A1 c1 w0.heap.size G u1 done (AT1.out.below Bu1.out) (by have := HL.out.1; omega) (HO.out.below Bu1.out) (Nat.le_trans HB.out.size Bu1.out.size) HG.out).mono ?_
        rintro e w5 ⟨⟨v5, rfl⟩, ho5, hb5⟩
        have O5 := Lib.hid ho5
        have B5 := Lib.hid ((HB.out.trans (Bu1.out.mono HB.out.size)).trans hb5)
        clear ho5 hb5
        go_wp2_with fail
        go_roundw
        case rel => exact ⟨some ⟨b, o1, none⟩, B', ca' - 1, cb', t2, [], done ++ [(x1, [], true)], rfl, rfl, ⟨⟨fun x hx => H.out.1.1 x (by simp [hx]), H.out.1.2⟩, TL1.out, H.out.2.2⟩, ⟨by have h1 := HL.out.1;  simp only [List.length_append, List.length_cons, List.length_nil] at h1 ⊢; omega, by have h1 := HL.out.2.1; simp only [List.length_cons, List.length_nil] at h1 ⊢; omega, by have h1 := HL.out.2.2; simp only [List.length_cons, List.length_nil] at h1 ⊢; omega⟩, EQ.out, O5.out, B5.out⟩
        case measure => simp [lens2] <;> omega
      · skip
        obtain ⟨b, off, A1, c1, rfl, hat1, hbv1⟩ := row_first H.out.2.1 HB.out
        obtain ⟨o1, hsl1, ho1⟩ := slR_1 b off (t2.length + 1) ca' (by omega) (by have := HL.out.2.1; simpa using this)
        rw [Nat.add_sub_cancel] at hsl1
        have SL1 := Lib.hid hsl1
        have TL1 := Lib.hid (rdx_tail H.out.2.1 HL.out.2.1 ho1)
        have AT1 := Lib.hid hat1
        have BV1 := Lib.hid hbv1
        clear hsl1 ho1 hat1 hbv1
        have p1 : (0 : Int) < (t2.length : Int) + 1 := by omega
        have p1' : (0 : Int) < ((t2.length + 1 : Nat) : Int) := by omega
        have n1 : ((t2.length : Int) + 1 == 0) = false := by rw [beq_eq_false_iff_ne]; omega
        have n1' : (((t2.length + 1 : Nat) : Int) == 0) = false := by rw [beq_eq_false_iff_ne]; omega
        simp only [List.length_cons] at hts
        have s1 : (t2.length : Int) + 1 ≤ 100000 := by omega
        obtain ⟨b2, off2, A3, c3, rfl, hat2, hbv2⟩ := row_first H.out.2.2 HB.out
        obtain ⟨o2, hsl2, ho2⟩ := slR_1 b2 off2 (l2.length + 1) cb' (by omega) (by have := HL.out.2.2; simpa using this)
        rw [Nat.add_sub_cancel] at hsl2
        have SL2 := Lib.hid hsl2
        have TL2 := Lib.hid (rdx_tail H.out.2.2 HL.out.2.2 ho2)
        have AT2 := Lib.hid hat2
        have BV2 := Lib.hid hbv2
        clear hsl2 ho2 hat2 hbv2
        have p2 : (0 : Int) < (l2.length : Int) + 1 := by omega
        have p2' : (0 : Int) < ((l2.length + 1 : Nat) : Int) := by omega
        have n2 : ((l2.length : Int) + 1 == 0) = false := by rw [beq_eq_false_iff_ne]; omega
        have n2' : (((l2.length + 1 : Nat) : Int) == 0) = false := by rw [beq_eq_false_iff_ne]; omega
        simp only [List.length_cons] at hls
        have s2 : (l2.length : Int) + 1 ≤ 100000 := by omega
        have hlb := less_bytes
        go_wp2_with fail
        refine wp_region_V [] (Below wr.heap.size wr) hmix ((Below.refl _ _).drew) ?_
        change wpAnyV _ _ _ _ _ _ _ _ _
        refine wpAnyV_take (i := 0) (v := .func (.func 45) #[] #[]) 8 (kept_below wr) rfl (by kernel_rfl) (by kernel_rfl) (fun _ _ _ h => h) (fun _ h => h) (DoesV.reads (by rfl) fun w9 hS => by go_simp) ?_
        try simp only [List.getElem_toArray, List.getElem_cons_succ, List.getElem_cons_zero, Act.put, List.setIfInBounds_toArray, List.set_cons_succ, List.set_cons_zero]
        refine wpAnyV_take (i := 1) (v := .slice (some ⟨b, off, none⟩) (t2.length + 1) ca') 8 (kept_below wr) rfl (by kernel_rfl) (by kernel_rfl) (fun _ _ _ h => h) (fun _ h => h) (DoesV.reads (by rfl) fun w9 hS => by go_simp) ?_
        try simp only [List.getElem_toArray, List.getElem_cons_succ, List.getElem_cons_zero, Act.put, List.setIfInBounds_toArray, List.set_cons_succ, List.set_cons_zero]
        refine wpAnyV_take (i := 2) (v := .pointer (some ⟨b, off, none⟩)) 8 (kept_below wr) rfl (by kernel_rfl) (by kernel_rfl) (fun _ _ _ h => h) (fun _ h => h) (DoesV.reads (by rfl) fun w9 hS => by go_simp) ?_
        try simp only [List.getElem_toArray, List.getElem_cons_succ, List.getElem_cons_zero, Act.put, List.setIfInBounds_toArray, List.set_cons_succ, List.set_cons_zero]
        refine wpAnyV_take (i := 3) (v := .agg (rwCells (x1, x2) A1 c1).toArray) 8 (kept_below wr) rfl (by kernel_rfl) (by kernel_rfl) (fun _ _ _ h => h) (fun _ h => h) (DoesV.loadS (by rfl) 50 _ rfl b off rfl (rwCells (x1, x2) A1 c1) (fun w9 hS => AT1.out.below hS) _ Try.underlying50 rfl (infoRw (x1, x2) A1 c1)) ?_
        try simp only [List.getElem_toArray, List.getElem_cons_succ, List.getElem_cons_zero, Act.put, List.setIfInBounds_toArray, List.set_cons_succ, List.set_cons_zero]
        refine wpAnyV_take (i := 4) (v := .string ⟨x1.toArray⟩) 8 (kept_below wr) rfl (by kernel_rfl) (by kernel_rfl) (fun _ _ _ h => h) (fun _ h => h) (DoesV.calls 45 #[.agg (rwCells (x1, x2) A1 c1).toArray] (by rfl) (fun w9 hS => by go_simp) (fun w9 hS => keyOfRow_any (x1, x2) A1 c1 w9)) ?_
        try simp only [List.getElem_toArray, List.getElem_cons_succ, List.getElem_cons_zero, Act.put, List.setIfInBounds_toArray, List.set_cons_succ, List.set_cons_zero]
        refine wpAnyV_take (i := 5) (v := .func (.func 45) #[] #[]) 8 (kept_below wr) rfl (by kernel_rfl) (by kernel_rfl) (fun _ _ _ h => h) (fun _ h => h) (DoesV.reads (by rfl) fun w9 hS => by go_simp) ?_
        try simp only [List.getElem_toArray, List.getElem_cons_succ, List.getElem_cons_zero, Act.put, List.setIfInBounds_toArray, List.set_cons_succ, List.set_cons_zero]
        refine wpAnyV_take (i := 6) (v := .slice (some ⟨b2, off2, none⟩) (l2.length + 1) cb') 8 (kept_below wr) rfl (by kernel_rfl) (by kernel_rfl) (fun _ _ _ h => h) (fun _ h => h) (DoesV.reads (by rfl) fun w9 hS => by go_simp) ?_
        try simp only [List.getElem_toArray, List.getElem_cons_succ, List.getElem_cons_zero, Act.put, List.setIfInBounds_toArray, List.set_cons_succ, List.set_cons_zero]
        refine wpAnyV_take (i := 7) (v := .pointer (some ⟨b2, off2, none⟩)) 8 (kept_below wr) rfl (by kernel_rfl) (by kernel_rfl) (fun _ _ _ h => h) (fun _ h => h) (DoesV.reads (by rfl) fun w9 hS => by go_simp) ?_
        try simp only [List.getElem_toArray, List.getElem_cons_succ, List.getElem_cons_zero, Act.put, List.setIfInBounds_toArray, List.set_cons_succ, List.set_cons_zero]
        refine wpAnyV_take (i := 8) (v := .agg (rwCells (y1, y2) A3 c3).toArray) 8 (kept_below wr) rfl (by kernel_rfl) (by kernel_rfl) (fun _ _ _ h => h) (fun _ h => h) (DoesV.loadS (by rfl) 50 _ rfl b2 off2 rfl (rwCells (y1, y2) A3 c3) (fun w9 hS => AT2.out.below hS) _ Try.underlying50 rfl (infoRw (y1, y2) A3 c3)) ?_
        try simp only [List.getElem_toArray, List.getElem_cons_succ, List.getElem_cons_zero, Act.put, List.setIfInBounds_toArray, List.set_cons_succ, List.set_cons_zero]
        refine wpAnyV_take (i := 9) (v := .string ⟨y1.toArray⟩) 8 (kept_below wr) rfl (by kernel_rfl) (by kernel_rfl) (fun _ _ _ h => h) (fun _ h => h) (DoesV.calls 45 #[.agg (rwCells (y1, y2) A3 c3).toArray] (by rfl) (fun w9 hS => by go_simp) (fun w9 hS => keyOfRow_any (y1, y2) A3 c3 w9)) ?_
        try simp only [List.getElem_toArray, List.getElem_cons_succ, List.getElem_cons_zero, Act.put, List.setIfInBounds_toArray, List.set_cons_succ, List.set_cons_zero]
        refine wpAnyV_take (i := 10) (v := .int .i64 (cmpK x1 y1)) 8 (kept_below wr) rfl (by kernel_rfl) (by kernel_rfl) (fun _ _ _ h => h) (fun _ h => h) (DoesV.calls 59 #[.string ⟨x1.toArray⟩, .string ⟨y1.toArray⟩] (by rfl) (fun w9 hS => by go_simp) (fun w9 hS => (Compare_any x1 y1 w9).mono fun e w' h => ⟨h.1, h.2 ▸ Below.refl _ _⟩)) ?_
        try simp only [List.getElem_toArray, List.getElem_cons_succ, List.getElem_cons_zero, Act.put, List.setIfInBounds_toArray, List.set_cons_succ, List.set_cons_zero]
        refine wpAnyV_take (i := 11) (v := .int .i64 (cmpK x1 y1)) 8 (kept_below wr) rfl (by kernel_rfl) (by kernel_rfl) (fun _ _ _ h => h) (fun _ h => h) (DoesV.reads (by rfl) fun w9 hS => by go_simp) ?_
        try simp only [List.getElem_toArray, List.getElem_cons_succ, List.getElem_cons_zero, Act.put, List.setIfInBounds_toArray, List.set_cons_succ, List.set_cons_zero]
        refine wpAnyV_done (by kernel_rfl) (fun u1 hu => ?_) _
        have Bu1 := Lib.hid hu
        clear hu
        cases hlt : lessK x1 y1
        · cases hgt : lessK y1 x1
          · have hc : cmpK x1 y1 = 0 := by simp [cmpK, hlt, hgt]
            rw [hc]
            have MQ := Lib.hid (mB_eq (x := (x1, x2)) (c := (y1, y2)) t2 l2 hlt hgt)
            clear hlt hgt hc
            go_wp2_with fail
            refine wp_region_V [] (Below wr.heap.size wr) hmix (Bu1.out.drew) ?_
            change wpAnyV _ _ _ _ _ _ _ _ _
            refine wpAnyV_take (i := 0) (v := .slice (some ⟨b, off, none⟩) (t2.length + 1) ca') 8 (kept_below wr) rfl (by kernel_rfl) (by kernel_rfl) (fun _ _ _ h => h) (fun _ h => h) (DoesV.reads (by rfl) fun w9 hS => by go_simp) ?_
            try simp only [List.getElem_toArray, List.getElem_cons_succ, List.getElem_cons_zero, Act.put, List.setIfInBounds_toArray, List.set_cons_succ, List.set_cons_zero]
            refine wpAnyV_take (i := 1) (v := .pointer (some ⟨b, off, none⟩)) 8 (kept_below wr) rfl (by kernel_rfl) (by kernel_rfl) (fun _ _ _ h => h) (fun _ h => h) (DoesV.reads (by rfl) fun w9 hS => by go_simp) ?_
            try simp only [List.getElem_toArray, List.getElem_cons_succ, List.getElem_cons_zero, Act.put, List.setIfInBounds_toArray, List.set_cons_succ, List.set_cons_zero]
            refine wpAnyV_take (i := 2) (v := .slice (some ⟨b, off, none⟩) (t2.length + 1) ca') 8 (kept_below wr) rfl (by kernel_rfl) (by kernel_rfl) (fun _ _ _ h => h) (fun _ h => h) (DoesV.reads (by rfl) fun w9 hS => by go_simp) ?_
            try simp only [List.getElem_toArray, List.getElem_cons_succ, List.getElem_cons_zero, Act.put, List.setIfInBounds_toArray, List.set_cons_succ, List.set_cons_zero]
            refine wpAnyV_take (i := 3) (v := .slice (some ⟨b, o1, none⟩) t2.length (ca' - 1)) 8 (kept_below wr) rfl (by kernel_rfl) (by kernel_rfl) (fun _ _ _ h => h) (fun _ h => h) (DoesV.reads (by rfl) fun w9 hS => by have h9 := SL1.out w9; go_simp) ?_
            try simp only [List.getElem_toArray, List.getElem_cons_succ, List.getElem_cons_zero, Act.put, List.setIfInBounds_toArray, List.set_cons_succ, List.set_cons_zero]
            refine wpAnyV_take (i := 4) (v := .pointer (some ⟨b, off, none⟩)) 8 (kept_below wr) rfl (by kernel_rfl) (by kernel_rfl) (fun _ _ _ h => h) (fun _ h => h) (DoesV.reads (by rfl) fun w9 hS => by go_simp) ?_
            try simp only [List.getElem_toArray, List.getElem_cons_succ, List.getElem_cons_zero, Act.put, List.setIfInBounds_toArray, List.set_cons_succ, List.set_cons_zero]
            refine wpAnyV_take (i := 5) (v := .slice (some ⟨b, o1, none⟩) t2.length (ca' - 1)) 8 (kept_below wr) rfl (by kernel_rfl) (by kernel_rfl) (fun _ _ _ h => h) (fun _ h => h) (DoesV.reads (by rfl) fun w9 hS => by go_simp) ?_
            try simp only [List.getElem_toArray, List.getElem_cons_succ, List.getElem_cons_zero, Act.put, List.setIfInBounds_toArray, List.set_cons_succ, List.set_cons_zero]
            refine wpAnyV_done (by kernel_rfl) (fun u2 hu => ?_) _
            have Bu2 := Lib.hid hu
            clear hu
            go_wp2_with fail
            refine wp_region_V [] (Below wr.heap.size wr) hmix (Bu2.out.drew) ?_
            change wpAnyV _ _ _ _ _ _ _ _ _
            refine wpAnyV_take (i := 0) (v := .slice (some ⟨b2, off2, none⟩) (l2.length + 1) cb') 8 (kept_below wr) rfl (by kernel_rfl) (by kernel_rfl) (fun _ _ _ h => h) (fun _ h => h) (DoesV.reads (by rfl) fun w9 hS => by go_simp) ?_
            try simp only [List.getElem_toArray, List.getElem_cons_succ, List.getElem_cons_zero, Act.put, List.setIfInBounds_toArray, List.set_cons_succ, List.set_cons_zero]
            refine wpAnyV_take (i := 1) (v := .pointer (some ⟨b2, off2, none⟩)) 8 (kept_below wr) rfl (by kernel_rfl) (by kernel_rfl) (fun _ _ _ h => h) (fun _ h => h) (DoesV.reads (by rfl) fun w9 hS => by go_simp) ?_
            try simp only [List.getElem_toArray, List.getElem_cons_succ, List.getElem_cons_zero, Act.put, List.setIfInBounds_toArray, List.set_cons_succ, List.set_cons_zero]
            refine wpAnyV_take (i := 2) (v := .slice (some ⟨b2, off2, none⟩) (l2.length + 1) cb') 8 (kept_below wr) rfl (by kernel_rfl) (by kernel_rfl) (fun _ _ _ h => h) (fun _ h => h) (DoesV.reads (by rfl) fun w9 hS => by go_simp) ?_
            try simp only [List.getElem_toArray, List.getElem_cons_succ, List.getElem_cons_zero, Act.put, List.setIfInBounds_toArray, List.set_cons_succ, List.set_cons_zero]
            refine wpAnyV_take (i := 3) (v := .slice (some ⟨b2, o2, none⟩) l2.length (cb' - 1)) 8 (kept_below wr) rfl (by kernel_rfl) (by kernel_rfl) (fun _ _ _ h => h) (fun _ h => h) (DoesV.reads (by rfl) fun w9 hS => by have h9 := SL2.out w9; go_simp) ?_
            try simp only [List.getElem_toArray, List.getElem_cons_succ, List.getElem_cons_zero, Act.put, List.setIfInBounds_toArray, List.set_cons_succ, List.set_cons_zero]
            refine wpAnyV_take (i := 4) (v := .pointer (some ⟨b2, off2, none⟩)) 8 (kept_below wr) rfl (by kernel_rfl) (by kernel_rfl) (fun _ _ _ h => h) (fun _ h => h) (DoesV.reads (by rfl) fun w9 hS => by go_simp) ?_
            try simp only [List.getElem_toArray, List.getElem_cons_succ, List.getElem_cons_zero, Act.put, List.setIfInBounds_toArray, List.set_cons_succ, List.set_cons_zero]
            refine wpAnyV_take (i := 5) (v := .slice (some ⟨b2, o2, none⟩) l2.length (cb' - 1)) 8 (kept_below wr) rfl (by kernel_rfl) (by kernel_rfl) (fun _ _ _ h => h) (fun _ h => h) (DoesV.reads (by rfl) fun w9 hS => by go_simp) ?_
            try simp only [List.getElem_toArray, List.getElem_cons_succ, List.getElem_cons_zero, Act.put, List.setIfInBounds_toArray, List.set_cons_succ, List.set_cons_zero]
            refine wpAnyV_done (by kernel_rfl) (fun u3 hu => ?_) _
            have Bu3 := Lib.hid hu
            clear hu
            go_wp2_with fail
            have EQ := Lib.hid (show (done ++ putB (x1, x2) (y1, y2)) ++ _ = mergeB t l from by rw [← HE.out, MQ.out, List.append_assoc])
            refine (betw1_both y1 y2 b2 off2 A3 c3 F' x1 x2 b off A1 c1 F w0.heap.size G u3 done (AT2.out.below Bu3.out) (BV2.out.below Bu3.out) (H.out.1.2 (y1, y2) (by simp)) (AT1.out.below Bu3.out) (BV1.out.below Bu3.out) (by have := HL.out.1; omega) (HO.out.below Bu3.out) (Nat.le_trans HB.out.size Bu3.out.size) HG.out).mono ?_
            rintro e w5 ⟨⟨v5, rfl⟩, ho5, hb5⟩
            have O5 := Lib.hid ho5
            have B5 := Lib.hid ((HB.out.trans (Bu3.out.mono HB.out.size)).trans hb5)
            clear ho5 hb5
            go_wp2_with fail
            go_roundw
            case rel => exact ⟨some ⟨b, o1, none⟩, some ⟨b2, o2, none⟩, ca' - 1, cb' - 1, t2, l2, done ++ putB (x1, x2) (y1, y2), rfl, rfl, ⟨⟨fun x hx => H.out.1.1 x (by simp [hx]), fun x hx => H.out.1.2 x (by simp [hx])⟩, TL1.out, TL2.out⟩, ⟨by have h1 := HL.out.1; have h2 := putB_len (x1, x2) (y1, y2); simp only [List.length_append, List.length_cons, List.length_nil] at h1 ⊢; omega, by have h1 := HL.out.2.1; simp only [List.length_cons, List.length_nil] at h1 ⊢; omega, by have h1 := HL.out.2.2; simp only [List.length_cons, List.length_nil] at h1 ⊢; omega⟩, EQ.out, O5.out, B5.out⟩
            case measure => simp [lens2] <;> omega
          · have hc : cmpK x1 y1 = 1 := by simp [cmpK, hlt, hgt]
            rw [hc]
            have MQ := Lib.hid (mB_gt (x := (x1, x2)) (c := (y1, y2)) t2 l2 hlt hgt)
            clear hlt hgt hc
            go_wp2_with fail
            refine wp_region_V [] (Below wr.heap.size wr) hmix (Bu1.out.drew) ?_
            change wpAnyV _ _ _ _ _ _ _ _ _
            refine wpAnyV_take (i := 0) (v := .slice (some ⟨b2, off2, none⟩) (l2.length + 1) cb') 8 (kept_below wr) rfl (by kernel_rfl) (by kernel_rfl) (fun _ _ _ h => h) (fun _ h => h) (DoesV.reads (by rfl) fun w9 hS => by go_simp) ?_
            try simp only [List.getElem_toArray, List.getElem_cons_succ, List.getElem_cons_zero, Act.put, List.setIfInBounds_toArray, List.set_cons_succ, List.set_cons_zero]
            refine wpAnyV_take (i := 1) (v := .pointer (some ⟨b2, off2, none⟩)) 8 (kept_below wr) rfl (by kernel_rfl) (by kernel_rfl) (fun _ _ _ h => h) (fun _ h => h) (DoesV.reads (by rfl) fun w9 hS => by go_simp) ?_
            try simp only [List.getElem_toArray, List.getElem_cons_succ, List.getElem_cons_zero, Act.put, List.setIfInBounds_toArray, List.set_cons_succ, List.set_cons_zero]
            refine wpAnyV_take (i := 2) (v := .slice (some ⟨b2, off2, none⟩) (l2.length + 1) cb') 8 (kept_below wr) rfl (by kernel_rfl) (by kernel_rfl) (fun _ _ _ h => h) (fun _ h => h) (DoesV.reads (by rfl) fun w9 hS => by go_simp) ?_
            try simp only [List.getElem_toArray, List.getElem_cons_succ, List.getElem_cons_zero, Act.put, List.setIfInBounds_toArray, List.set_cons_succ, List.set_cons_zero]
            refine wpAnyV_take (i := 3) (v := .slice (some ⟨b2, o2, none⟩) l2.length (cb' - 1)) 8 (kept_below wr) rfl (by kernel_rfl) (by kernel_rfl) (fun _ _ _ h => h) (fun _ h => h) (DoesV.reads (by rfl) fun w9 hS => by have h9 := SL2.out w9; go_simp) ?_
            try simp only [List.getElem_toArray, List.getElem_cons_succ, List.getElem_cons_zero, Act.put, List.setIfInBounds_toArray, List.set_cons_succ, List.set_cons_zero]
            refine wpAnyV_take (i := 4) (v := .pointer (some ⟨b2, off2, none⟩)) 8 (kept_below wr) rfl (by kernel_rfl) (by kernel_rfl) (fun _ _ _ h => h) (fun _ h => h) (DoesV.reads (by rfl) fun w9 hS => by go_simp) ?_
            try simp only [List.getElem_toArray, List.getElem_cons_succ, List.getElem_cons_zero, Act.put, List.setIfInBounds_toArray, List.set_cons_succ, List.set_cons_zero]
            refine wpAnyV_take (i := 5) (v := .slice (some ⟨b2, o2, none⟩) l2.length (cb' - 1)) 8 (kept_below wr) rfl (by kernel_rfl) (by kernel_rfl) (fun _ _ _ h => h) (fun _ h => h) (DoesV.reads (by rfl) fun w9 hS => by go_simp) ?_
            try simp only [List.getElem_toArray, List.getElem_cons_succ, List.getElem_cons_zero, Act.put, List.setIfInBounds_toArray, List.set_cons_succ, List.set_cons_zero]
            refine wpAnyV_done (by kernel_rfl) (fun u2 hu => ?_) _
            have Bu2 := Lib.hid hu
            clear hu
            go_wp2_with fail
            have EQ := Lib.hid (show (done ++ [(y1, y2, false)]) ++ _ = mergeB t l from by rw [← HE.out, MQ.out, List.append_assoc]; first | done | rfl)
            refine (betw1_new y1 y2 b2 off2 A3 c3 F' w0.heap.size G u2 done (AT2.out.below Bu2.out) (BV2.out.below Bu2.out) (H.out.1.2 (y1, y2) (by simp)) (by have := HL.out.1; omega) (HO.out.below Bu2.out) (Nat.le_trans HB.out.size Bu2.out.size) HG.out).mono ?_
            rintro e w5 ⟨⟨v5, rfl⟩, ho5, hb5⟩
            have O5 := Lib.hid ho5
            have B5 := Lib.hid ((HB.out.trans (Bu2.out.mono HB.out.size)).trans hb5)
            clear ho5 hb5
            go_wp2_with fail
            go_roundw
            case rel => exact ⟨some ⟨b, off, none⟩, some ⟨b2, o2, none⟩, ca', cb' - 1, (x1, x2) :: t2, l2, done ++ [(y1, y2, false)], rfl, rfl, ⟨⟨H.out.1.1, fun x hx => H.out.1.2 x (by simp [hx])⟩, H.out.2.1, TL2.out⟩, ⟨by have h1 := HL.out.1;  simp only [List.length_append, List.length_cons, List.length_nil] at h1 ⊢; omega, by have h1 := HL.out.2.1; simp only [List.length_cons, List.length_nil] at h1 ⊢; omega, by have h1 := HL.out.2.2; simp only [List.length_cons, List.length_nil] at h1 ⊢; omega⟩, EQ.out, O5.out, B5.out⟩
            case measure => simp [lens2] <;> omega
        · have hc : cmpK x1 y1 = -1 := by simp [cmpK, hlt]
          rw [hc]
          have MQ := Lib.hid (mB_lt (x := (x1, x2)) (c := (y1, y2)) t2 l2 hlt)
          clear hlt hc
          go_wp2_with fail
          refine wp_region_V [] (Below wr.heap.size wr) hmix (Bu1.out.drew) ?_
          change wpAnyV _ _ _ _ _ _ _ _ _
          refine wpAnyV_take (i := 0) (v := .slice (some ⟨b, off, none⟩) (t2.length + 1) ca') 8 (kept_below wr) rfl (by kernel_rfl) (by kernel_rfl) (fun _ _ _ h => h) (fun _ h => h) (DoesV.reads (by rfl) fun w9 hS => by go_simp) ?_
          try simp only [List.getElem_toArray, List.getElem_cons_succ, List.getElem_cons_zero, Act.put, List.setIfInBounds_toArray, List.set_cons_succ, List.set_cons_zero]
          refine wpAnyV_take (i := 1) (v := .pointer (some ⟨b, off, none⟩)) 8 (kept_below wr) rfl (by kernel_rfl) (by kernel_rfl) (fun _ _ _ h => h) (fun _ h => h) (DoesV.reads (by rfl) fun w9 hS => by go_simp) ?_
          try simp only [List.getElem_toArray, List.getElem_cons_succ, List.getElem_cons_zero, Act.put, List.setIfInBounds_toArray, List.set_cons_succ, List.set_cons_zero]
          refine wpAnyV_take (i := 2) (v := .slice (some ⟨b, off, none⟩) (t2.length + 1) ca') 8 (kept_below wr) rfl (by kernel_rfl) (by kernel_rfl) (fun _ _ _ h => h) (fun _ h => h) (DoesV.reads (by rfl) fun w9 hS => by go_simp) ?_
          try simp only [List.getElem_toArray, List.getElem_cons_succ, List.getElem_cons_zero, Act.put, List.setIfInBounds_toArray, List.set_cons_succ, List.set_cons_zero]
          refine wpAnyV_take (i := 3) (v := .slice (some ⟨b, o1, none⟩) t2.length (ca' - 1)) 8 (kept_below wr) rfl (by kernel_rfl) (by kernel_rfl) (fun _ _ _ h => h) (fun _ h => h) (DoesV.reads (by rfl) fun w9 hS => by have h9 := SL1.out w9; go_simp) ?_
          try simp only [List.getElem_toArray, List.getElem_cons_succ, List.getElem_cons_zero, Act.put, List.setIfInBounds_toArray, List.set_cons_succ, List.set_cons_zero]
          refine wpAnyV_take (i := 4) (v := .pointer (some ⟨b, off, none⟩)) 8 (kept_below wr) rfl (by kernel_rfl) (by kernel_rfl) (fun _ _ _ h => h) (fun _ h => h) (DoesV.reads (by rfl) fun w9 hS => by go_simp) ?_
          try simp only [List.getElem_toArray, List.getElem_cons_succ, List.getElem_cons_zero, Act.put, List.setIfInBounds_toArray, List.set_cons_succ, List.set_cons_zero]
          refine wpAnyV_take (i := 5) (v := .slice (some ⟨b, o1, none⟩) t2.length (ca' - 1)) 8 (kept_below wr) rfl (by kernel_rfl) (by kernel_rfl) (fun _ _ _ h => h) (fun _ h => h) (DoesV.reads (by rfl) fun w9 hS => by go_simp) ?_
          try simp only [List.getElem_toArray, List.getElem_cons_succ, List.getElem_cons_zero, Act.put, List.setIfInBounds_toArray, List.set_cons_succ, List.set_cons_zero]
          refine wpAnyV_done (by kernel_rfl) (fun u2 hu => ?_) _
          have Bu2 := Lib.hid hu
          clear hu
          go_wp2_with fail
          have EQ := Lib.hid (show (done ++ [(x1, [], true)]) ++ _ = mergeB t l from by rw [← HE.out, MQ.out, List.append_assoc]; first | done | rfl)
          refine (betw1_gone x1 x2 b off A1 c1 w0.heap.size G u2 done (AT1.out.below Bu2.out) (by have := HL.out.1; omega) (HO.out.below Bu2.out) (Nat.le_trans HB.out.size Bu2.out.size) HG.out).mono ?_
          rintro e w5 ⟨⟨v5, rfl⟩, ho5, hb5⟩
          have O5 := Lib.hid ho5
          have B5 := Lib.hid ((HB.out.trans (Bu2.out.mono HB.out.size)).trans hb5)
          clear ho5 hb5
          go_wp2_with fail
          go_roundw
          case rel => exact ⟨some ⟨b, o1, none⟩, some ⟨b2, off2, none⟩, ca' - 1, cb', t2, (y1, y2) :: l2, done ++ [(x1, [], true)], rfl, rfl, ⟨⟨fun x hx => H.out.1.1 x (by simp [hx]), H.out.1.2⟩, TL1.out, H.out.2.2⟩, ⟨by have h1 := HL.out.1;  simp only [List.length_append, List.length_cons, List.length_nil] at h1 ⊢; omega, by have h1 := HL.out.2.1; simp only [List.length_cons, List.length_nil] at h1 ⊢; omega, by have h1 := HL.out.2.2; simp only [List.length_cons, List.length_nil] at h1 ⊢; omega⟩, EQ.out, O5.out, B5.out⟩
          case measure => simp [lens2] <;> omega

end Go.Proofs.Ytiemphfikfigdaa
