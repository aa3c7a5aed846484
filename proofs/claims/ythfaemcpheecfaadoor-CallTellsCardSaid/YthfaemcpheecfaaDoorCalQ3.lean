/- The reference: the call that bytes are. -/
import Derived.Test.YthfaemcpheecfaaDoorAnyW
import Derived.Test.YthfaemcpheecfaaDoorCal10
import Derived.Test.YthfaemcpheecfaaDoorCalQ2
namespace Go.Proofs.YthfaemcpheecfaaDoor
open Go.RowKit Go.Shelf
set_option linter.unusedVariables false
set_option maxRecDepth 100000
set_option linter.unusedSimpArgs false

theorem Turn.cellT {w w' : World} {F : Nat → Prop} (h : Turn w w' F) {p : Addr} (hp : p.block < w.heap.size) (hF : ¬ F p.block) : w'.cell? p = w.cell? p := World.cell?_of_block (w := w) (h.block p.block hp hF)
theorem numN4 (s : RS) : (numR s 4).1.toNat < 4294967296 := fdN (Nat.le_refl 4) s
theorem numN8 (s : RS) : (numR s 8).1.toNat < 18446744073709551616 := by have := numR_bd s 8 (by decide); omega
theorem NumQ {w : World} {rb : Nat} {s : RS} {F : Nat → Prop} (h : QAt w rb s F) : Calls Tryd.prog 29 #[.pointer (some ⟨rb, 0, none⟩)] w fun e w' => ToldQ rb (numR s 4).2 F (.int .u32 ((numR s 4).1.toNat : Int)) w e w' := by
  have hbd := numR_bd s 4 (by decide)
  have hnn : (numR s 4).1 = ((numR s 4).1.toNat : Int) := (Int.toNat_of_nonneg hbd.1).symm
  have := Number_q h
  rwa [hnn] at this
theorem GrtQ {w : World} {rb : Nat} {s : RS} {F : Nat → Prop} (h : QAt w rb s F) : Calls Tryd.prog 30 #[.pointer (some ⟨rb, 0, none⟩)] w fun e w' => ToldQ rb (numR s 8).2 F (.int .u64 ((numR s 8).1.toNat : Int)) w e w' := by
  have hbd := numR_bd s 8 (by decide)
  have hnn : (numR s 8).1 = ((numR s 8).1.toNat : Int) := (Int.toNat_of_nonneg hbd.1).symm
  have := Great_q h
  rwa [hnn] at this
/-- the reference's reader, and the call that it tells -/
def GetQ (qb cb : Nat) (F : Nat → Prop) (w0 : World) (s : RS) (c : CallX) (w : World) : Prop := QAt w qb s F ∧ (∃ v, Cs w cb 28 (calCells c v).toArray ∧ BsV w (w0.heap.size ≤ ·) v c.data) ∧ Turn w0 w (fun k => k = qb ∨ k = cb) ∧ (cb ≠ qb ∧ cb < w0.heap.size ∧ qb < w0.heap.size) ∧ (∀ k, F k → k ≠ cb ∧ k ≠ qb) ∧ w0.heap.size ≤ w.heap.size
theorem GetQ.below {qb cb : Nat} {F : Nat → Prop} {w0 w w' : World} {s : RS} {c : CallX} (h : GetQ qb cb F w0 s c w) (hb : Below w.heap.size w w') : GetQ qb cb F w0 s c w' := by
  obtain ⟨h1, ⟨v, h2, h3⟩, h4, h5, h6, h7⟩ := h
  exact ⟨h1.below hb, ⟨v, h2.below hb h2.lt, h3.below hb⟩, h4.trans (Turn.of_below hb fun _ => False) (fun _ _ h => h.elim), h5, h6, Nat.le_trans h7 hb.size⟩
theorem GetQ.told {qb cb : Nat} {F : Nat → Prop} {w0 w w' : World} {s s' : RS} {c : CallX} (h : GetQ qb cb F w0 s c w) (k : QAt w' qb s' F) (ht : Turn w w' (· = qb)) : GetQ qb cb F w0 s' c w' := by
  obtain ⟨h1, ⟨v, h2, h3⟩, h4, h5, h6, h7⟩ := h
  exact ⟨k, ⟨v, h2.turn ht h5.1, h3.turn ht fun q hq e => by omega⟩, h4.trans ht fun _ _ e => .inl e, h5, h6, Nat.le_trans h7 ht.size⟩
theorem GetQ.put {qb cb i : Nat} {F : Nat → Prop} {w0 w : World} {s : RS} {c c' : CallX} {v v' u : Value} (h : GetQ qb cb F w0 s c w) (hc : Cs w cb 28 (calCells c v).toArray) (e : (calCells c v).toArray.setIfInBounds i u = (calCells c' v').toArray) (hv : BsV w (w0.heap.size ≤ ·) v' c'.data) : GetQ qb cb F w0 s c' (w.setCell ⟨cb, i, none⟩ u) := by
  obtain ⟨h1, -, h4, h5, h6, h7⟩ := h
  have ht := Turn.setAt w cb i u
  refine ⟨h1.turn ht (fun e => h5.1 e.symm) (fun k hk => (h6 k hk).1), ⟨v', ?_, hv.turn ht fun q hq e => by omega⟩, h4.trans ht fun _ _ e => .inr e, h5, h6, Nat.le_trans h7 ht.size⟩
  have := hc.set i u
  rwa [e] at this
theorem getX_err {l : List UInt8} (h : ¬ 4096 < l.length) (he : (headRS ⟨l, 0, 0⟩).err ≠ 0) : getX l = (calZero, (headRS ⟨l, 0, 0⟩).err) := by
  unfold getX
  rw [if_neg h, if_pos (show (headR l).2.err ≠ 0 from he)]
  rfl
theorem getX_kind {l : List UInt8} (h : ¬ 4096 < l.length) (he : (headRS ⟨l, 0, 0⟩).err = 0) (hk : kindX (kindR l) = false) : getX l = (calZero, 5) := by
  unfold getX
  rw [if_neg h, if_neg (show ¬ (headR l).2.err ≠ 0 from fun h => h he), if_pos hk]
theorem endR_all {l : List UInt8} : endR (restR l).2 = if (restR l).2.err ≠ 0 then (restR l).2.err else if (restR l).2.pos < l.length then 5 else 0 := by
  have hall : (restR l).2.all = l := (tellL_all 4096 _ _).trans (tellL_all 4096 _ _)
  unfold endR
  rw [hall]
theorem getX_end {l : List UInt8} (h : ¬ 4096 < l.length) (he : (headRS ⟨l, 0, 0⟩).err = 0) (hk : kindX (kindR l) = true) (hn : endR (restR l).2 ≠ 0) : getX l = (calZero, endR (restR l).2) := by
  rw [endR_all] at hn ⊢
  unfold getX
  rw [if_neg h, if_neg (show ¬ (headR l).2.err ≠ 0 from fun h => h he), if_neg (by rw [hk]; decide)]
  by_cases hr : (restR l).2.err ≠ 0
  · rw [if_pos hr, if_pos hr]
  · rw [if_neg hr] at hn ⊢
    rw [if_neg hr]
    by_cases hp : (restR l).2.pos < l.length
    · rw [if_pos (.inl hp), if_pos hp]
    · rw [if_neg hp] at hn
      exact absurd rfl hn
theorem getX_rest {l : List UInt8} (h : ¬ 4096 < l.length) (he : (headRS ⟨l, 0, 0⟩).err = 0) (hk : kindX (kindR l) = true) (hn : endR (restR l).2 = 0) : getX l = if mayX (callR l) = false then (calZero, 5) else (callR l, 0) := by
  rw [endR_all] at hn
  unfold getX
  rw [if_neg h, if_neg (show ¬ (headR l).2.err ≠ 0 from fun h => h he), if_neg (by rw [hk]; decide)]
  by_cases hr : (restR l).2.err ≠ 0
  · rw [if_pos hr] at hn
    exact absurd hn hr
  · rw [if_neg hr] at hn ⊢
    by_cases hp : (restR l).2.pos < l.length
    · rw [if_pos hp] at hn
      cases hn
    · by_cases hm : mayX (callR l) = false
      · rw [if_pos (.inr hm), if_pos hm]
      · rw [if_neg (by rw [not_or]; exact ⟨hp, hm⟩), if_neg hm]
set_option maxHeartbeats 16000000 in
theorem GetR_v (l : List UInt8) (A : Option Addr) (cp : Nat) (w : World) (hl : l.length ≤ 140737488355328) (hr : Rd w A l) (hlc : l.length ≤ cp) (hcm : cp ≤ maxLen) (hA : A = none → l = [] ∧ cp = 0) :
    Calls Tryd.prog 10 #[.slice A l.length cp] w fun e w' => GetAns (getX l) w e w' := by
  by_cases h : 4096 < l.length
  · have hx : getX l = (calZero, 3) := by unfold getX; rw [if_pos h]
    rw [hx]
    have h' : 4096 < (l.length : Int) := by omega
    clear hx hr hA hl
    go_enter Tryd.func10, Tryd.ntmps10
    go_wp2_with fail
    exact cal_end (cs := calCells calZero (.slice none 0 0)) rfl rfl (Cs.new w _ _) rfl rfl ⟨_, rfl, calZ_v _ _, below_new1 w _⟩
  have h' : ¬ 4096 < (l.length : Int) := by omega
  have hz := below_new1 w (.cells (calCells calZero (.slice none 0 0)).toArray 28)
  have hsz : (w.alloc (.cells (calCells calZero (.slice none 0 0)).toArray 28)).heap.size = w.heap.size + 1 := World.size_alloc _ _
  have hq2 := below_new1 (w.alloc (.cells (calCells calZero (.slice none 0 0)).toArray 28)) (.cells #[.slice A l.length cp, .int .i64 0, .int .i64 0] 61)
  have hbb := below_chain hz hq2
  have hv0 : BsV w (· < w.heap.size) (.slice A l.length cp) l := ⟨A, cp, rfl, hr.f fun b off e hlt => hlt, hA, hlc, hcm⟩
  have hq0 : QAt ((w.alloc (.cells (calCells calZero (.slice none 0 0)).toArray 28)).alloc (.cells #[.slice A l.length cp, .int .i64 0, .int .i64 0] 61)) (w.heap.size + 1) ⟨l, 0, 0⟩ (· < w.heap.size) := ⟨_, by have := Cs.new (w.alloc (.cells (calCells calZero (.slice none 0 0)).toArray 28)) 61 #[.slice A l.length cp, .int .i64 0, .int .i64 0]; rw [hsz] at this; exact this, (hv0.below hz).below hq2, by omega, Nat.zero_le _⟩
  have hg0 := (Cs.new w 28 (calCells calZero (.slice none 0 0)).toArray).below hq2 (by rw [hsz]; omega)
  have HQ0 := Lib.hid hq0
  have HG0 := Lib.hid hg0
  have HB0 := Lib.hid hbb
  have HL := Lib.hid hl
  have HNL := Lib.hid h
  have HS0 := Lib.hid (show ((w.alloc (.cells (calCells calZero (.slice none 0 0)).toArray 28)).alloc (.cells #[.slice A l.length cp, .int .i64 0, .int .i64 0] 61)).heap.size = w.heap.size + 2 by rw [World.size_alloc, hsz])
  clear hr hlc hcm hA hl hz hsz hq2 hbb hv0 hq0 hg0
  go_enter Tryd.func10, Tryd.ntmps10
  go_wp2_with fail
  have hcall := NumQ HQ0.out
  have hbdna := numN4 ⟨l, 0, 0⟩
  generalize hnna : (numR ⟨l, 0, 0⟩ 4).1.toNat = na at hcall hbdna
  generalize hss1 : (numR ⟨l, 0, 0⟩ 4).2 = s1 at hcall
  have HNna := Lib.hid hnna
  have HEs1 := Lib.hid hss1
  have HBDna := Lib.hid hbdna
  have hlena : (na : Int) ≤ 4294967295 := by omega
  clear hnna hss1 hbdna
  refine hcall.mono ?_
  clear hcall
  rintro e w1 ⟨rfl, hq, ht⟩
  have HQ1 := Lib.hid hq
  have HT1 := Lib.hid ht
  clear hq ht
  go_wp2_with fail
  have hcall := NumQ HQ1.out
  have hbdnb := numN4 s1
  generalize hnnb : (numR s1 4).1.toNat = nb at hcall hbdnb
  generalize hss2 : (numR s1 4).2 = s2 at hcall
  have HNnb := Lib.hid hnnb
  have HEs2 := Lib.hid hss2
  have HBDnb := Lib.hid hbdnb
  have hlenb : (nb : Int) ≤ 4294967295 := by omega
  clear hnnb hss2 hbdnb
  refine hcall.mono ?_
  clear hcall
  rintro e w2 ⟨rfl, hq, ht⟩
  have HQ2 := Lib.hid hq
  have HT2 := Lib.hid (HT1.out.trans ht fun _ _ h => h)
  clear hq ht
  go_wp2_with fail
  have hcall := GrtQ HQ2.out
  have hbdnd := numN8 s2
  generalize hnnd : (numR s2 8).1.toNat = nd at hcall hbdnd
  generalize hss3 : (numR s2 8).2 = s3 at hcall
  have HNnd := Lib.hid hnnd
  have HEs3 := Lib.hid hss3
  have HBDnd := Lib.hid hbdnd
  have hlend : (nd : Int) ≤ 18446744073709551615 := by omega
  clear hnnd hss3 hbdnd
  refine hcall.mono ?_
  clear hcall
  rintro e w3 ⟨rfl, hq, ht⟩
  have HQ3 := Lib.hid hq
  have HT3 := Lib.hid (HT2.out.trans ht fun _ _ h => h)
  clear hq ht
  go_wp2_with fail
  have hw4 := below_new1 w3 (.cells #[.int .u8 ((na : Int) % 256), .int .u32 (nb : Int), .int .u64 (nd : Int), .int .u8 0, .int .u32 0, .int .u32 0, .string ⟨#[]⟩, .int .u32 0, .int .u32 0, .string ⟨#[]⟩, .int .u32 0, .int .u32 0, .slice none 0 0] 28)
  have hsz3 : w.heap.size + 2 ≤ w3.heap.size := by have := HT3.out.size; rw [HS0.out] at this; exact this
  have hsz4 : (w3.alloc (.cells #[.int .u8 ((na : Int) % 256), .int .u32 (nb : Int), .int .u64 (nd : Int), .int .u8 0, .int .u32 0, .int .u32 0, .string ⟨#[]⟩, .int .u32 0, .int .u32 0, .string ⟨#[]⟩, .int .u32 0, .int .u32 0, .slice none 0 0] 28)).heap.size = w3.heap.size + 1 := World.size_alloc _ _
  have hcb : Cs (w3.alloc (.cells #[.int .u8 ((na : Int) % 256), .int .u32 (nb : Int), .int .u64 (nd : Int), .int .u8 0, .int .u32 0, .int .u32 0, .string ⟨#[]⟩, .int .u32 0, .int .u32 0, .string ⟨#[]⟩, .int .u32 0, .int .u32 0, .slice none 0 0] 28)) w3.heap.size 28 (calCells ({ calZero with client := na % 256, inc := nb, seq := nd }) (.slice none 0 0)).toArray := Cs.new w3 28 #[.int .u8 ((na : Int) % 256), .int .u32 (nb : Int), .int .u64 (nd : Int), .int .u8 0, .int .u32 0, .int .u32 0, .string ⟨#[]⟩, .int .u32 0, .int .u32 0, .string ⟨#[]⟩, .int .u32 0, .int .u32 0, .slice none 0 0]
  have hb3 := HB0.out.trans (HT3.out.below HB0.out.size fun k e => by omega)
  have hg3 := HG0.out.turn HT3.out (fun e => by omega)
  have HGW := Lib.hid (hg3.below hw4 hg3.lt)
  have HBW := Lib.hid (below_chain hb3 hw4)
  have HSZ := Lib.hid (And.intro hsz3 hsz4)
  have hgq : GetQ (w.heap.size + 1) w3.heap.size (· < w.heap.size) (w3.alloc (.cells #[.int .u8 ((na : Int) % 256), .int .u32 (nb : Int), .int .u64 (nd : Int), .int .u8 0, .int .u32 0, .int .u32 0, .string ⟨#[]⟩, .int .u32 0, .int .u32 0, .string ⟨#[]⟩, .int .u32 0, .int .u32 0, .slice none 0 0] 28)) s3 ({ calZero with client := na % 256, inc := nb, seq := nd }) (w3.alloc (.cells #[.int .u8 ((na : Int) % 256), .int .u32 (nb : Int), .int .u64 (nd : Int), .int .u8 0, .int .u32 0, .int .u32 0, .string ⟨#[]⟩, .int .u32 0, .int .u32 0, .string ⟨#[]⟩, .int .u32 0, .int .u32 0, .slice none 0 0] 28)) := ⟨HQ3.out.below hw4, ⟨.slice none 0 0, hcb, BsV.nil _ _⟩, Turn.refl _ _, (by omega), (fun k hk => by omega), Nat.le_refl _⟩
  generalize (w3.alloc (.cells #[.int .u8 ((na : Int) % 256), .int .u32 (nb : Int), .int .u64 (nd : Int), .int .u8 0, .int .u32 0, .int .u32 0, .string ⟨#[]⟩, .int .u32 0, .int .u32 0, .string ⟨#[]⟩, .int .u32 0, .int .u32 0, .slice none 0 0] 28)) = W4 at *
  have HS4 := Lib.hid hgq
  clear hw4 hsz3 hsz4 hcb hb3 hg3 hgq HQ0 HQ1 HQ2 HQ3 HT1 HT2 HT3
  have hcall := NumQ HS4.out.1
  have hbdnk := numN4 s3
  generalize hnnk : (numR s3 4).1.toNat = nk at hcall hbdnk
  generalize hss4 : (numR s3 4).2 = s4 at hcall
  have HNnk := Lib.hid hnnk
  have HEs4 := Lib.hid hss4
  have HBDnk := Lib.hid hbdnk
  have hlenk : (nk : Int) ≤ 4294967295 := by omega
  clear hnnk hss4 hbdnk
  refine hcall.mono ?_
  clear hcall
  rintro e w5 ⟨rfl, hq, ht⟩
  have hs := HS4.out.told hq ht
  obtain ⟨v5, hc, hv⟩ := hs.2.1
  have e2 := hs.1.f2.1
  have c3 : w5.cell? ⟨w3.heap.size, 3, none⟩ = some (.int .u8 0) := hc.cell 3 rfl
  have f3 := hc.frozen 3
  have HC5 := Lib.hid hc
  have HV5 := Lib.hid hv
  have HS5 := Lib.hid hs
  have HHD := Lib.hid (show headRS ⟨l, 0, 0⟩ = s4 by unfold headRS; rw [HEs1.out, HEs2.out, HEs3.out, HEs4.out])
  have HAs4 := Lib.hid (show s4.all = l by rw [← HHD.out]; unfold headRS; simp only [numR_all])
  have HKD := Lib.hid (show kindR l = nk by rw [kindR_is, HEs1.out, HEs2.out, HEs3.out, HNnk.out])
  clear hs hc hv hq ht
  by_cases he : s4.err = 0
  case neg =>
    have hne : (s4.err != 0) = true := by simpa using he
    have heq : (s4.err == 0) = false := by simpa using he
    have hx : getX l = (calZero, s4.err) := by have := getX_err HNL.out (by rw [HHD.out]; exact he); rw [HHD.out] at this; exact this
    have HX := Lib.hid hx
    have hmix : Tryd.prog.follows .mixedOrders = true := by kernel_rfl
    generalize s4.err = er at *
    clear he hx
    go_wp2_with fail
    refine wp_region_W (fun u => u.cell? ⟨w.heap.size + 1, 2, none⟩ = some (.int .i64 er)) (Below w5.heap.size w5) hmix ((Below.refl _ _).drew) ?_
    change wpAnyW _ _ _ _ _ _ _ _ _
    refine wpAnyW_take (i := 0) (v := .agg #[.int .u8 0, .int .u32 0, .int .u64 0, .int .u8 0, .int .u32 0, .int .u32 0, .string ⟨#[]⟩, .int .u32 0, .int .u32 0, .string ⟨#[]⟩, .int .u32 0, .int .u32 0, .slice none 0 0]) (kept_below w5) (fun u hS => cell_b hS e2) rfl (by kernel_rfl) (by kernel_rfl) (fun _ _ _ h => h) (DoesV.reads (by rfl) fun w9 hS => by have q0 := hS; go_simp) ?_
    try simp only [List.getElem_toArray, List.getElem_cons_succ, List.getElem_cons_zero, Act.put, List.setIfInBounds_toArray, List.set_cons_succ, List.set_cons_zero]
    refine wpAnyW_take (i := 1) (v := .pointer (some ⟨w.heap.size + 1, 0, none⟩)) (kept_below w5) (fun u hS => cell_b hS e2) rfl (by kernel_rfl) (by kernel_rfl) (fun _ _ _ h => h) (DoesV.reads (by rfl) fun w9 hS => by have q0 := hS; go_simp) ?_
    try simp only [List.getElem_toArray, List.getElem_cons_succ, List.getElem_cons_zero, Act.put, List.setIfInBounds_toArray, List.set_cons_succ, List.set_cons_zero]
    refine wpAnyW_take (i := 2) (v := .pointer (some ⟨w.heap.size + 1, 0, none⟩)) (kept_below w5) (fun u hS => cell_b hS e2) rfl (by kernel_rfl) (by kernel_rfl) (fun _ _ _ h => h) (DoesV.reads (by rfl) fun w9 hS => by have q0 := hS; go_simp) ?_
    try simp only [List.getElem_toArray, List.getElem_cons_succ, List.getElem_cons_zero, Act.put, List.setIfInBounds_toArray, List.set_cons_succ, List.set_cons_zero]
    refine wpAnyW_take (i := 3) (v := .pointer (some ⟨w.heap.size + 1, 2, none⟩)) (kept_below w5) (fun u hS => cell_b hS e2) rfl (by kernel_rfl) (by kernel_rfl) (fun _ _ _ h => h) (DoesV.reads (by rfl) fun w9 hS => by have q0 := hS; go_simp) ?_
    try simp only [List.getElem_toArray, List.getElem_cons_succ, List.getElem_cons_zero, Act.put, List.setIfInBounds_toArray, List.set_cons_succ, List.set_cons_zero]
    refine wpAnyW_take (i := 4) (v := .int .i64 er) (kept_below w5) (fun u hS => cell_b hS e2) rfl (by kernel_rfl) (by kernel_rfl) (fun _ _ _ h => h) (DoesV.reads (by rfl) fun w9 hS => by have q0 := hS; go_simp) ?_
    try simp only [List.getElem_toArray, List.getElem_cons_succ, List.getElem_cons_zero, Act.put, List.setIfInBounds_toArray, List.set_cons_succ, List.set_cons_zero]
    refine wpAnyW_only (i := 5) rfl (by kernel_rfl) rfl (fun u hS => wp_storeW 28 _ _ rfl w.heap.size rfl (calCells calZero (.slice none 0 0)) (calCells calZero (.slice none 0 0)) rfl ((HGW.out.turn HS5.out.2.2.1 (fun hh => by have := HSZ.out; rcases hh with hh | hh <;> omega)).below hS (HGW.out.turn HS5.out.2.2.1 (fun hh => by have := HSZ.out; rcases hh with hh | hh <;> omega)).lt) rfl (cal_one rfl) infoCall fun u' hk ht => ⟨fun z => (Cs z w.heap.size 28 (calCells calZero (.slice none 0 0)).toArray ∧ Below w.heap.size w z) ∧ z.cell? ⟨w.heap.size + 1, 2, none⟩ = some (.int .i64 er), ⟨⟨hk, ((HBW.out.trans (HS5.out.2.2.1.below HBW.out.size fun k hk => by have := HSZ.out; have := HBW.out.size; rcases hk with hk | hk <;> omega)).trans (hS.mono (HBW.out.trans (HS5.out.2.2.1.below HBW.out.size fun k hk => by have := HSZ.out; have := HBW.out.size; rcases hk with hk | hk <;> omega)).size)).trans (ht.below (Nat.le_trans (HBW.out.trans (HS5.out.2.2.1.below HBW.out.size fun k hk => by have := HSZ.out; have := HBW.out.size; rcases hk with hk | hk <;> omega)).size hS.size) fun k e => Nat.le_of_eq e.symm)⟩, (ht.cellT (lt_of_cell (cell_b hS e2)) (by show ¬ w.heap.size + 1 = w.heap.size; omega)).trans (cell_b hS e2)⟩, fun a b h hb => ⟨⟨h.1.1.below hb h.1.1.lt, below_chain h.1.2 hb⟩, cell_b hb h.2⟩, fun u h => h.2, ?_⟩)
    try simp only [List.getElem_toArray, List.getElem_cons_succ, List.getElem_cons_zero, Act.put, List.setIfInBounds_toArray, List.set_cons_succ, List.set_cons_zero]
    refine wpAnyW_take (i := 6) (v := .int .i64 er) (fun a b h hb => ⟨⟨h.1.1.below hb h.1.1.lt, below_chain h.1.2 hb⟩, cell_b hb h.2⟩) (fun u h => h.2) rfl (by kernel_rfl) (by kernel_rfl) (fun _ _ _ h => h) (DoesV.reads (by rfl) fun w9 hS => by have q0 := hS; go_simp) ?_
    try simp only [List.getElem_toArray, List.getElem_cons_succ, List.getElem_cons_zero, Act.put, List.setIfInBounds_toArray, List.set_cons_succ, List.set_cons_zero]
    refine wpAnyW_done (by kernel_rfl) (fun z hz => ?_) _
    go_wp2_with fail
    exact cal_end (cs := (calCells calZero (.slice none 0 0))) rfl rfl hz.1.1 rfl rfl (by rw [HX.out]; exact ⟨_, rfl, calZ_v _ _, hz.1.2⟩)
  rw [he] at e2
  have HE0 := Lib.hid he
  clear he
  by_cases hk0 : nk = 0
  · subst hk0
    have hx := getX_kind HNL.out (by rw [HHD.out]; exact HE0.out) (by rw [HKD.out]; rfl)
    have HX := Lib.hid hx
    clear hx
    go_wp2_with (first
      | ((with_reducible show wpList _ _ _ _ _ w5); refine wpList_storeS rfl 28 _ _ rfl w.heap.size rfl (calCells calZero (.slice none 0 0)) (calCells calZero (.slice none 0 0)) rfl (HGW.out.turn HS5.out.2.2.1 (fun hh => by have := HSZ.out; rcases hh with hh | hh <;> omega)) rfl (cal_one rfl) infoCall ?_; intro w9 hk9 ht9; go_frame; have C9 := Lib.hid hk9; have B9 := Lib.hid ((HBW.out.trans (HS5.out.2.2.1.below HBW.out.size fun k hk => by have := HSZ.out; have := HBW.out.size; rcases hk with hk | hk <;> omega)).trans (ht9.below (HBW.out.trans (HS5.out.2.2.1.below HBW.out.size fun k hk => by have := HSZ.out; have := HBW.out.size; rcases hk with hk | hk <;> omega)).size fun k e => Nat.le_of_eq e.symm)); have T9 := Lib.hid ht9; clear hk9 ht9)
      | fail)
    have hx := HX.out
    exact cal_end (cs := (calCells calZero (.slice none 0 0))) rfl rfl C9.out rfl rfl (by rw [hx]; exact ⟨_, rfl, calZ_v _ _, B9.out⟩)
  by_cases hk1 : 12 < nk
  · have g1 : decide ((nk : Int) < 1) = false := decide_eq_false (by omega)
    have g2 : decide (12 < (nk : Int)) = true := decide_eq_true (by omega)
    have g3 : ¬ (nk : Int) < 1 := by omega
    have g4 : 12 < nk := hk1
    have g5 : nk ≠ 0 := hk0
    have hx := getX_kind HNL.out (by rw [HHD.out]; exact HE0.out) (by rw [HKD.out]; exact decide_eq_false (by omega))
    have HX := Lib.hid hx
    clear hx
    go_wp2_with (first
      | ((with_reducible show wpList _ _ _ _ _ w5); refine wpList_storeS rfl 28 _ _ rfl w.heap.size rfl (calCells calZero (.slice none 0 0)) (calCells calZero (.slice none 0 0)) rfl (HGW.out.turn HS5.out.2.2.1 (fun hh => by have := HSZ.out; rcases hh with hh | hh <;> omega)) rfl (cal_one rfl) infoCall ?_; intro w9 hk9 ht9; go_frame; have C9 := Lib.hid hk9; have B9 := Lib.hid ((HBW.out.trans (HS5.out.2.2.1.below HBW.out.size fun k hk => by have := HSZ.out; have := HBW.out.size; rcases hk with hk | hk <;> omega)).trans (ht9.below (HBW.out.trans (HS5.out.2.2.1.below HBW.out.size fun k hk => by have := HSZ.out; have := HBW.out.size; rcases hk with hk | hk <;> omega)).size fun k e => Nat.le_of_eq e.symm)); have T9 := Lib.hid ht9; clear hk9 ht9)
      | fail)
    have hx := HX.out
    exact cal_end (cs := (calCells calZero (.slice none 0 0))) rfl rfl C9.out rfl rfl (by rw [hx]; exact ⟨_, rfl, calZ_v _ _, B9.out⟩)
  have hkk : kindX nk = true := decide_eq_true (by omega)
  clear hk0 hk1
  rcases kind_cases nk hkk with rfl | rfl | rfl | rfl | rfl | rfl | rfl | rfl | rfl | rfl | rfl | rfl
  · clear hkk
    have hs : GetQ (w.heap.size + 1) w3.heap.size (· < w.heap.size) W4 s4 ({ calZero with client := na % 256, inc := nb, seq := nd, kind := 1 }) (w5.setCell ⟨w3.heap.size, 3, none⟩ (.int .u8 1)) := HS5.out.put (i := 3) HC5.out rfl HV5.out
    have H6 := Lib.hid hs
    clear hs
    go_wp2_with fail
    have hcall := NumQ H6.out.1
    have hbdm0 := numN4 s4
    generalize hnm0 : (numR s4 4).1.toNat = m0 at hcall hbdm0
    generalize hst0 : (numR s4 4).2 = t0 at hcall
    have HNm0 := Lib.hid hnm0
    have HEt0 := Lib.hid hst0
    have HBDm0 := Lib.hid hbdm0
    have hlem0 : (m0 : Int) ≤ 4294967295 := by omega
    clear hnm0 hst0 hbdm0
    refine hcall.mono ?_
    clear hcall
    rintro e x0 ⟨rfl, hq, ht⟩
    have HAt0 := Lib.hid (show t0.all = l by rw [← HEt0.out]; exact (numR_all _ _).trans HAs4.out)
    have hs := H6.out.told hq ht
    obtain ⟨v, hc, hv⟩ := hs.2.1
    have kp := hc.cell 4 rfl
    have kf := hc.frozen 4
    have k3 : x0.cell? ⟨w3.heap.size, 3, none⟩ = some (.int .u8 1) := hc.cell 3 rfl
    have hs2 : GetQ (w.heap.size + 1) w3.heap.size (· < w.heap.size) W4 t0 ({ calZero with client := na % 256, inc := nb, seq := nd, kind := 1, ino := m0 }) (x0.setCell ⟨w3.heap.size, 4, none⟩ (.int .u32 (m0 : Int))) := hs.put (i := 4) hc rfl hv
    have G0 := Lib.hid hs2
    clear hs hc hv hs2 hq ht
    go_wp2_with fail
    clear kp kf k3
    have hcall := NumQ G0.out.1
    have hbdm1 := numN4 t0
    generalize hnm1 : (numR t0 4).1.toNat = m1 at hcall hbdm1
    generalize hst1 : (numR t0 4).2 = t1 at hcall
    have HNm1 := Lib.hid hnm1
    have HEt1 := Lib.hid hst1
    have HBDm1 := Lib.hid hbdm1
    have hlem1 : (m1 : Int) ≤ 4294967295 := by omega
    clear hnm1 hst1 hbdm1
    refine hcall.mono ?_
    clear hcall
    rintro e x1 ⟨rfl, hq, ht⟩
    have HAt1 := Lib.hid (show t1.all = l by rw [← HEt1.out]; exact (numR_all _ _).trans HAt0.out)
    have hs := G0.out.told hq ht
    obtain ⟨v, hc, hv⟩ := hs.2.1
    have kp := hc.cell 5 rfl
    have kf := hc.frozen 5
    have k3 : x1.cell? ⟨w3.heap.size, 3, none⟩ = some (.int .u8 1) := hc.cell 3 rfl
    have hs2 : GetQ (w.heap.size + 1) w3.heap.size (· < w.heap.size) W4 t1 ({ calZero with client := na % 256, inc := nb, seq := nd, kind := 1, ino := m0, gen := m1 }) (x1.setCell ⟨w3.heap.size, 5, none⟩ (.int .u32 (m1 : Int))) := hs.put (i := 5) hc rfl hv
    have G1 := Lib.hid hs2
    clear hs hc hv hs2 hq ht
    go_wp2_with fail
    clear kp kf k3
    refine (End_q G1.out.1).mono ?_
    rintro e we ⟨rfl, hb⟩
    have GE := Lib.hid (G1.out.below hb)
    clear hb
    have HR := Lib.hid (show (restR l).2 = t1 by
      show (tellL 4096 (restS (kRow (kindR l))) (headRS ⟨l, 0, 0⟩)).2 = t1
      rw [HKD.out, HHD.out]
      obtain rfl := HEt0.out
      obtain rfl := HEt1.out
      rfl)
    have HCR := Lib.hid (fun (h4 : na < 4) => show callR l = { calZero with client := na % 256, inc := nb, seq := nd, kind := 1, ino := m0, gen := m1 } by
      show restC (kindR l) (headC calZero (headR l).1) (tellL 4096 (restS (kRow (kindR l))) (headRS ⟨l, 0, 0⟩)).1 = _
      rw [HKD.out, HHD.out, headR_is, HEs1.out, HEs2.out, HEs3.out, HNna.out, HNnb.out, HNnd.out, HNnk.out, Nat.mod_eq_of_lt (show na < 256 by omega)]
      obtain rfl := HNm0.out
      obtain rfl := HEt0.out
      obtain rfl := HNm1.out
      rfl)
    by_cases hend : endR t1 = 0
    case neg =>
      obtain ⟨en, hen⟩ : ∃ en, endR t1 = en := ⟨_, rfl⟩
      rw [hen] at hend ⊢
      have hne : (en != 0) = true := by simpa using hend
      have heq : (en == 0) = false := by simpa using hend
      have HEN := Lib.hid (And.intro hen hend)
      clear hen hend
      go_wp2_with (first
        | ((with_reducible show wpList _ _ _ _ _ we); refine wpList_storeS rfl 28 _ _ rfl w.heap.size rfl (calCells calZero (.slice none 0 0)) (calCells calZero (.slice none 0 0)) rfl (HGW.out.turn GE.out.2.2.1 (fun hh => by have := HSZ.out; rcases hh with hh | hh <;> omega)) rfl (cal_one rfl) infoCall ?_; intro w9 hk9 ht9; go_frame; have C9 := Lib.hid hk9; have B9 := Lib.hid ((HBW.out.trans (GE.out.2.2.1.below HBW.out.size fun k hk => by have := HSZ.out; have := HBW.out.size; rcases hk with hk | hk <;> omega)).trans (ht9.below (HBW.out.trans (GE.out.2.2.1.below HBW.out.size fun k hk => by have := HSZ.out; have := HBW.out.size; rcases hk with hk | hk <;> omega)).size fun k e => Nat.le_of_eq e.symm)); have T9 := Lib.hid ht9; clear hk9 ht9)
        | fail)
      have hx := (by rw [getX_end HNL.out (by rw [HHD.out]; exact HE0.out) (by rw [HKD.out]; rfl) (by rw [HR.out, HEN.out.1]; exact HEN.out.2), HR.out, HEN.out.1] : getX l = (calZero, en))
      exact cal_end (cs := (calCells calZero (.slice none 0 0))) rfl rfl C9.out rfl rfl (by rw [hx]; exact ⟨_, rfl, calZ_v _ _, B9.out⟩)
    rw [hend]
    have hrest := getX_rest HNL.out (by rw [HHD.out]; exact HE0.out) (by rw [HKD.out]; rfl) (by rw [HR.out]; exact hend)
    have HRS := Lib.hid hrest
    clear hrest hend
    by_cases h4 : na < 4
    case neg =>
      have g4 : 4 ≤ na := by omega
      have g4' : decide (4 ≤ (na : Int)) = true := decide_eq_true (by omega)
      have hmf : mayX (callR l) = false := mayX_client (by unfold callR; rw [(restC_head _ _ _).1, headR_is]; show 4 ≤ (numR ⟨l, 0, 0⟩ 4).1.toNat; rw [HNna.out]; exact g4)
      have HMF := Lib.hid hmf
      clear hmf
      go_wp2_with (first
        | ((with_reducible show wpList _ _ _ _ _ we); refine wpList_storeS rfl 28 _ _ rfl w.heap.size rfl (calCells calZero (.slice none 0 0)) (calCells calZero (.slice none 0 0)) rfl (HGW.out.turn GE.out.2.2.1 (fun hh => by have := HSZ.out; rcases hh with hh | hh <;> omega)) rfl (cal_one rfl) infoCall ?_; intro w9 hk9 ht9; go_frame; have C9 := Lib.hid hk9; have B9 := Lib.hid ((HBW.out.trans (GE.out.2.2.1.below HBW.out.size fun k hk => by have := HSZ.out; have := HBW.out.size; rcases hk with hk | hk <;> omega)).trans (ht9.below (HBW.out.trans (GE.out.2.2.1.below HBW.out.size fun k hk => by have := HSZ.out; have := HBW.out.size; rcases hk with hk | hk <;> omega)).size fun k e => Nat.le_of_eq e.symm)); have T9 := Lib.hid ht9; clear hk9 ht9)
        | fail)
      have hx := (by rw [HRS.out, HMF.out]; rfl : getX l = (calZero, 5))
      exact cal_end (cs := (calCells calZero (.slice none 0 0))) rfl rfl C9.out rfl rfl (by rw [hx]; exact ⟨_, rfl, calZ_v _ _, B9.out⟩)
    have g4' : decide (4 ≤ (na : Int)) = false := decide_eq_false (by omega)
    have hcr := HCR.out h4
    obtain ⟨v, hc, hv⟩ := GE.out.2.1
    obtain ⟨A1, cp1, rfl, -⟩ := id hv
    have hok : calOk ({ calZero with client := na % 256, inc := nb, seq := nd, kind := 1, ino := m0, gen := m1 }) := ⟨by show na % 256 < 256; omega, HBDnb.out, HBDnd.out, by show (1 : Nat) < 256; decide, HBDm0.out, HBDm1.out, by show (0 : Nat) < 4294967296; decide, by show (0 : Nat) < 4294967296; decide, by show (0 : Nat) < 4294967296; decide, by show (0 : Nat) < 4294967296; decide⟩
    have HMY := Lib.hid (MayR_v ⟨hv, hok⟩)
    have HOK := Lib.hid hok
    obtain ⟨p0, p1, p2, p3, p4, p5, p6, p7, p8, p9, p10, p11, p12⟩ := Cs.cal hc
    have HCE := Lib.hid hc
    have HVE := Lib.hid hv
    have H4 := Lib.hid h4
    have HCR2 := Lib.hid hcr
    clear hc hv hok h4 hcr
    rcases hm : mayX (callR l) with _ | _
    · have hmc : mayX ({ calZero with client := na % 256, inc := nb, seq := nd, kind := 1, ino := m0, gen := m1 }) = false := by rw [← HCR2.out]; exact hm
      rw [hmc] at HMY
      have HM := Lib.hid hm
      clear hm hmc
      go_wp2_with fail
      refine HMY.out.mono ?_
      rintro e wf ⟨rfl, hb⟩
      have GF := Lib.hid (GE.out.below hb)
      clear hb p0 p1 p2 p3 p4 p5 p6 p7 p8 p9 p10 p11 p12
      go_wp2_with (first
        | ((with_reducible show wpList _ _ _ _ _ wf); refine wpList_storeS rfl 28 _ _ rfl w.heap.size rfl (calCells calZero (.slice none 0 0)) (calCells calZero (.slice none 0 0)) rfl (HGW.out.turn GF.out.2.2.1 (fun hh => by have := HSZ.out; rcases hh with hh | hh <;> omega)) rfl (cal_one rfl) infoCall ?_; intro w9 hk9 ht9; go_frame; have C9 := Lib.hid hk9; have B9 := Lib.hid ((HBW.out.trans (GF.out.2.2.1.below HBW.out.size fun k hk => by have := HSZ.out; have := HBW.out.size; rcases hk with hk | hk <;> omega)).trans (ht9.below (HBW.out.trans (GF.out.2.2.1.below HBW.out.size fun k hk => by have := HSZ.out; have := HBW.out.size; rcases hk with hk | hk <;> omega)).size fun k e => Nat.le_of_eq e.symm)); have T9 := Lib.hid ht9; clear hk9 ht9)
        | fail)
      have hx := (by rw [HRS.out, HM.out]; rfl : getX l = (calZero, 5))
      exact cal_end (cs := (calCells calZero (.slice none 0 0))) rfl rfl C9.out rfl rfl (by rw [hx]; exact ⟨_, rfl, calZ_v _ _, B9.out⟩)
    · have hmc : mayX ({ calZero with client := na % 256, inc := nb, seq := nd, kind := 1, ino := m0, gen := m1 }) = true := by rw [← HCR2.out]; exact hm
      rw [hmc] at HMY
      have HM := Lib.hid hm
      clear hm hmc
      go_wp2_with fail
      refine HMY.out.mono ?_
      rintro e wf ⟨rfl, hb⟩
      have GF := Lib.hid (GE.out.below hb)
      have HCF := Lib.hid (HCE.out.below hb HCE.out.lt)
      have HVF := Lib.hid (HVE.out.below hb)
      clear hb p0 p1 p2 p3 p4 p5 p6 p7 p8 p9 p10 p11 p12
      go_wp2_with (first
        | ((with_reducible show wpList _ _ _ _ _ wf); refine wpList_loadS rfl 28 _ rfl w3.heap.size rfl (calCells ({ calZero with client := na % 256, inc := nb, seq := nd, kind := 1, ino := m0, gen := m1 }) (.slice A1 ({ calZero with client := na % 256, inc := nb, seq := nd, kind := 1, ino := m0, gen := m1 }).data.length cp1)) HCF.out _ Tryd.underlying28 rfl infoCall ?_; go_frame)
        | ((with_reducible show wpList _ _ _ _ _ wf); refine wpList_storeS rfl 28 _ _ rfl w.heap.size rfl (calCells ({ calZero with client := na % 256, inc := nb, seq := nd, kind := 1, ino := m0, gen := m1 }) (.slice A1 ({ calZero with client := na % 256, inc := nb, seq := nd, kind := 1, ino := m0, gen := m1 }).data.length cp1)) (calCells calZero (.slice none 0 0)) rfl (HGW.out.turn GF.out.2.2.1 (fun hh => by have := HSZ.out; rcases hh with hh | hh <;> omega)) rfl (cal_one rfl) infoCall ?_; intro w9 hk9 ht9; go_frame; have C9 := Lib.hid hk9; have B9 := Lib.hid ((HBW.out.trans (GF.out.2.2.1.below HBW.out.size fun k hk => by have := HSZ.out; have := HBW.out.size; rcases hk with hk | hk <;> omega)).trans (ht9.below (HBW.out.trans (GF.out.2.2.1.below HBW.out.size fun k hk => by have := HSZ.out; have := HBW.out.size; rcases hk with hk | hk <;> omega)).size fun k e => Nat.le_of_eq e.symm)); have T9 := Lib.hid ht9; clear hk9 ht9)
        | fail)
      have hx : getX l = ({ calZero with client := na % 256, inc := nb, seq := nd, kind := 1, ino := m0, gen := m1 }, 0) := by rw [HRS.out, HM.out, HCR2.out]; rfl
      have hv9 := HVF.out.turn T9.out (fun k hk e => by have := HBW.out.size; have := HSZ.out; omega)
      exact cal_end (cs := (calCells ({ calZero with client := na % 256, inc := nb, seq := nd, kind := 1, ino := m0, gen := m1 }) (.slice A1 ({ calZero with client := na % 256, inc := nb, seq := nd, kind := 1, ino := m0, gen := m1 }).data.length cp1))) rfl rfl C9.out rfl rfl (by rw [hx]; exact ⟨_, rfl, ⟨hv9.mono fun k _ hk => Nat.le_trans HBW.out.size hk, HOK.out⟩, B9.out⟩)
  · clear hkk
    have hs : GetQ (w.heap.size + 1) w3.heap.size (· < w.heap.size) W4 s4 ({ calZero with client := na % 256, inc := nb, seq := nd, kind := 2 }) (w5.setCell ⟨w3.heap.size, 3, none⟩ (.int .u8 2)) := HS5.out.put (i := 3) HC5.out rfl HV5.out
    have H6 := Lib.hid hs
    clear hs
    go_wp2_with fail
    have hcall := NumQ H6.out.1
    have hbdm0 := numN4 s4
    generalize hnm0 : (numR s4 4).1.toNat = m0 at hcall hbdm0
    generalize hst0 : (numR s4 4).2 = t0 at hcall
    have HNm0 := Lib.hid hnm0
    have HEt0 := Lib.hid hst0
    have HBDm0 := Lib.hid hbdm0
    have hlem0 : (m0 : Int) ≤ 4294967295 := by omega
    clear hnm0 hst0 hbdm0
    refine hcall.mono ?_
    clear hcall
    rintro e x0 ⟨rfl, hq, ht⟩
    have HAt0 := Lib.hid (show t0.all = l by rw [← HEt0.out]; exact (numR_all _ _).trans HAs4.out)
    have hs := H6.out.told hq ht
    obtain ⟨v, hc, hv⟩ := hs.2.1
    have kp := hc.cell 4 rfl
    have kf := hc.frozen 4
    have k3 : x0.cell? ⟨w3.heap.size, 3, none⟩ = some (.int .u8 2) := hc.cell 3 rfl
    have hs2 : GetQ (w.heap.size + 1) w3.heap.size (· < w.heap.size) W4 t0 ({ calZero with client := na % 256, inc := nb, seq := nd, kind := 2, ino := m0 }) (x0.setCell ⟨w3.heap.size, 4, none⟩ (.int .u32 (m0 : Int))) := hs.put (i := 4) hc rfl hv
    have G0 := Lib.hid hs2
    clear hs hc hv hs2 hq ht
    go_wp2_with fail
    clear kp kf k3
    have hcall := NumQ G0.out.1
    have hbdm1 := numN4 t0
    generalize hnm1 : (numR t0 4).1.toNat = m1 at hcall hbdm1
    generalize hst1 : (numR t0 4).2 = t1 at hcall
    have HNm1 := Lib.hid hnm1
    have HEt1 := Lib.hid hst1
    have HBDm1 := Lib.hid hbdm1
    have hlem1 : (m1 : Int) ≤ 4294967295 := by omega
    clear hnm1 hst1 hbdm1
    refine hcall.mono ?_
    clear hcall
    rintro e x1 ⟨rfl, hq, ht⟩
    have HAt1 := Lib.hid (show t1.all = l by rw [← HEt1.out]; exact (numR_all _ _).trans HAt0.out)
    have hs := G0.out.told hq ht
    obtain ⟨v, hc, hv⟩ := hs.2.1
    have kp := hc.cell 5 rfl
    have kf := hc.frozen 5
    have k3 : x1.cell? ⟨w3.heap.size, 3, none⟩ = some (.int .u8 2) := hc.cell 3 rfl
    have hs2 : GetQ (w.heap.size + 1) w3.heap.size (· < w.heap.size) W4 t1 ({ calZero with client := na % 256, inc := nb, seq := nd, kind := 2, ino := m0, gen := m1 }) (x1.setCell ⟨w3.heap.size, 5, none⟩ (.int .u32 (m1 : Int))) := hs.put (i := 5) hc rfl hv
    have G1 := Lib.hid hs2
    clear hs hc hv hs2 hq ht
    go_wp2_with fail
    clear kp kf k3
    have hcall := NumQ G1.out.1
    have hbdm2 := numN4 t1
    generalize hnm2 : (numR t1 4).1.toNat = m2 at hcall hbdm2
    generalize hst2 : (numR t1 4).2 = t2 at hcall
    have HNm2 := Lib.hid hnm2
    have HEt2 := Lib.hid hst2
    have HBDm2 := Lib.hid hbdm2
    have hlem2 : (m2 : Int) ≤ 4294967295 := by omega
    clear hnm2 hst2 hbdm2
    refine hcall.mono ?_
    clear hcall
    rintro e x2 ⟨rfl, hq, ht⟩
    have HAt2 := Lib.hid (show t2.all = l by rw [← HEt2.out]; exact (numR_all _ _).trans HAt1.out)
    have hs := G1.out.told hq ht
    obtain ⟨v, hc, hv⟩ := hs.2.1
    have kp := hc.cell 11 rfl
    have kf := hc.frozen 11
    have k3 : x2.cell? ⟨w3.heap.size, 3, none⟩ = some (.int .u8 2) := hc.cell 3 rfl
    have hs2 : GetQ (w.heap.size + 1) w3.heap.size (· < w.heap.size) W4 t2 ({ calZero with client := na % 256, inc := nb, seq := nd, kind := 2, ino := m0, gen := m1, size := m2 }) (x2.setCell ⟨w3.heap.size, 11, none⟩ (.int .u32 (m2 : Int))) := hs.put (i := 11) hc rfl hv
    have G2 := Lib.hid hs2
    clear hs hc hv hs2 hq ht
    go_wp2_with fail
    clear kp kf k3
    refine (End_q G2.out.1).mono ?_
    rintro e we ⟨rfl, hb⟩
    have GE := Lib.hid (G2.out.below hb)
    clear hb
    have HR := Lib.hid (show (restR l).2 = t2 by
      show (tellL 4096 (restS (kRow (kindR l))) (headRS ⟨l, 0, 0⟩)).2 = t2
      rw [HKD.out, HHD.out]
      obtain rfl := HEt0.out
      obtain rfl := HEt1.out
      obtain rfl := HEt2.out
      rfl)
    have HCR := Lib.hid (fun (h4 : na < 4) => show callR l = { calZero with client := na % 256, inc := nb, seq := nd, kind := 2, ino := m0, gen := m1, size := m2 } by
      show restC (kindR l) (headC calZero (headR l).1) (tellL 4096 (restS (kRow (kindR l))) (headRS ⟨l, 0, 0⟩)).1 = _
      rw [HKD.out, HHD.out, headR_is, HEs1.out, HEs2.out, HEs3.out, HNna.out, HNnb.out, HNnd.out, HNnk.out, Nat.mod_eq_of_lt (show na < 256 by omega)]
      obtain rfl := HNm0.out
      obtain rfl := HEt0.out
      obtain rfl := HNm1.out
      obtain rfl := HEt1.out
      obtain rfl := HNm2.out
      rfl)
    by_cases hend : endR t2 = 0
    case neg =>
      obtain ⟨en, hen⟩ : ∃ en, endR t2 = en := ⟨_, rfl⟩
      rw [hen] at hend ⊢
      have hne : (en != 0) = true := by simpa using hend
      have heq : (en == 0) = false := by simpa using hend
      have HEN := Lib.hid (And.intro hen hend)
      clear hen hend
      go_wp2_with (first
        | ((with_reducible show wpList _ _ _ _ _ we); refine wpList_storeS rfl 28 _ _ rfl w.heap.size rfl (calCells calZero (.slice none 0 0)) (calCells calZero (.slice none 0 0)) rfl (HGW.out.turn GE.out.2.2.1 (fun hh => by have := HSZ.out; rcases hh with hh | hh <;> omega)) rfl (cal_one rfl) infoCall ?_; intro w9 hk9 ht9; go_frame; have C9 := Lib.hid hk9; have B9 := Lib.hid ((HBW.out.trans (GE.out.2.2.1.below HBW.out.size fun k hk => by have := HSZ.out; have := HBW.out.size; rcases hk with hk | hk <;> omega)).trans (ht9.below (HBW.out.trans (GE.out.2.2.1.below HBW.out.size fun k hk => by have := HSZ.out; have := HBW.out.size; rcases hk with hk | hk <;> omega)).size fun k e => Nat.le_of_eq e.symm)); have T9 := Lib.hid ht9; clear hk9 ht9)
        | fail)
      have hx := (by rw [getX_end HNL.out (by rw [HHD.out]; exact HE0.out) (by rw [HKD.out]; rfl) (by rw [HR.out, HEN.out.1]; exact HEN.out.2), HR.out, HEN.out.1] : getX l = (calZero, en))
      exact cal_end (cs := (calCells calZero (.slice none 0 0))) rfl rfl C9.out rfl rfl (by rw [hx]; exact ⟨_, rfl, calZ_v _ _, B9.out⟩)
    rw [hend]
    have hrest := getX_rest HNL.out (by rw [HHD.out]; exact HE0.out) (by rw [HKD.out]; rfl) (by rw [HR.out]; exact hend)
    have HRS := Lib.hid hrest
    clear hrest hend
    by_cases h4 : na < 4
    case neg =>
      have g4 : 4 ≤ na := by omega
      have g4' : decide (4 ≤ (na : Int)) = true := decide_eq_true (by omega)
      have hmf : mayX (callR l) = false := mayX_client (by unfold callR; rw [(restC_head _ _ _).1, headR_is]; show 4 ≤ (numR ⟨l, 0, 0⟩ 4).1.toNat; rw [HNna.out]; exact g4)
      have HMF := Lib.hid hmf
      clear hmf
      go_wp2_with (first
        | ((with_reducible show wpList _ _ _ _ _ we); refine wpList_storeS rfl 28 _ _ rfl w.heap.size rfl (calCells calZero (.slice none 0 0)) (calCells calZero (.slice none 0 0)) rfl (HGW.out.turn GE.out.2.2.1 (fun hh => by have := HSZ.out; rcases hh with hh | hh <;> omega)) rfl (cal_one rfl) infoCall ?_; intro w9 hk9 ht9; go_frame; have C9 := Lib.hid hk9; have B9 := Lib.hid ((HBW.out.trans (GE.out.2.2.1.below HBW.out.size fun k hk => by have := HSZ.out; have := HBW.out.size; rcases hk with hk | hk <;> omega)).trans (ht9.below (HBW.out.trans (GE.out.2.2.1.below HBW.out.size fun k hk => by have := HSZ.out; have := HBW.out.size; rcases hk with hk | hk <;> omega)).size fun k e => Nat.le_of_eq e.symm)); have T9 := Lib.hid ht9; clear hk9 ht9)
        | fail)
      have hx := (by rw [HRS.out, HMF.out]; rfl : getX l = (calZero, 5))
      exact cal_end (cs := (calCells calZero (.slice none 0 0))) rfl rfl C9.out rfl rfl (by rw [hx]; exact ⟨_, rfl, calZ_v _ _, B9.out⟩)
    have g4' : decide (4 ≤ (na : Int)) = false := decide_eq_false (by omega)
    have hcr := HCR.out h4
    obtain ⟨v, hc, hv⟩ := GE.out.2.1
    obtain ⟨A1, cp1, rfl, -⟩ := id hv
    have hok : calOk ({ calZero with client := na % 256, inc := nb, seq := nd, kind := 2, ino := m0, gen := m1, size := m2 }) := ⟨by show na % 256 < 256; omega, HBDnb.out, HBDnd.out, by show (2 : Nat) < 256; decide, HBDm0.out, HBDm1.out, by show (0 : Nat) < 4294967296; decide, by show (0 : Nat) < 4294967296; decide, by show (0 : Nat) < 4294967296; decide, HBDm2.out⟩
    have HMY := Lib.hid (MayR_v ⟨hv, hok⟩)
    have HOK := Lib.hid hok
    obtain ⟨p0, p1, p2, p3, p4, p5, p6, p7, p8, p9, p10, p11, p12⟩ := Cs.cal hc
    have HCE := Lib.hid hc
    have HVE := Lib.hid hv
    have H4 := Lib.hid h4
    have HCR2 := Lib.hid hcr
    clear hc hv hok h4 hcr
    rcases hm : mayX (callR l) with _ | _
    · have hmc : mayX ({ calZero with client := na % 256, inc := nb, seq := nd, kind := 2, ino := m0, gen := m1, size := m2 }) = false := by rw [← HCR2.out]; exact hm
      rw [hmc] at HMY
      have HM := Lib.hid hm
      clear hm hmc
      go_wp2_with fail
      refine HMY.out.mono ?_
      rintro e wf ⟨rfl, hb⟩
      have GF := Lib.hid (GE.out.below hb)
      clear hb p0 p1 p2 p3 p4 p5 p6 p7 p8 p9 p10 p11 p12
      go_wp2_with (first
        | ((with_reducible show wpList _ _ _ _ _ wf); refine wpList_storeS rfl 28 _ _ rfl w.heap.size rfl (calCells calZero (.slice none 0 0)) (calCells calZero (.slice none 0 0)) rfl (HGW.out.turn GF.out.2.2.1 (fun hh => by have := HSZ.out; rcases hh with hh | hh <;> omega)) rfl (cal_one rfl) infoCall ?_; intro w9 hk9 ht9; go_frame; have C9 := Lib.hid hk9; have B9 := Lib.hid ((HBW.out.trans (GF.out.2.2.1.below HBW.out.size fun k hk => by have := HSZ.out; have := HBW.out.size; rcases hk with hk | hk <;> omega)).trans (ht9.below (HBW.out.trans (GF.out.2.2.1.below HBW.out.size fun k hk => by have := HSZ.out; have := HBW.out.size; rcases hk with hk | hk <;> omega)).size fun k e => Nat.le_of_eq e.symm)); have T9 := Lib.hid ht9; clear hk9 ht9)
        | fail)
      have hx := (by rw [HRS.out, HM.out]; rfl : getX l = (calZero, 5))
      exact cal_end (cs := (calCells calZero (.slice none 0 0))) rfl rfl C9.out rfl rfl (by rw [hx]; exact ⟨_, rfl, calZ_v _ _, B9.out⟩)
    · have hmc : mayX ({ calZero with client := na % 256, inc := nb, seq := nd, kind := 2, ino := m0, gen := m1, size := m2 }) = true := by rw [← HCR2.out]; exact hm
      rw [hmc] at HMY
      have HM := Lib.hid hm
      clear hm hmc
      go_wp2_with fail
      refine HMY.out.mono ?_
      rintro e wf ⟨rfl, hb⟩
      have GF := Lib.hid (GE.out.below hb)
      have HCF := Lib.hid (HCE.out.below hb HCE.out.lt)
      have HVF := Lib.hid (HVE.out.below hb)
      clear hb p0 p1 p2 p3 p4 p5 p6 p7 p8 p9 p10 p11 p12
      go_wp2_with (first
        | ((with_reducible show wpList _ _ _ _ _ wf); refine wpList_loadS rfl 28 _ rfl w3.heap.size rfl (calCells ({ calZero with client := na % 256, inc := nb, seq := nd, kind := 2, ino := m0, gen := m1, size := m2 }) (.slice A1 ({ calZero with client := na % 256, inc := nb, seq := nd, kind := 2, ino := m0, gen := m1, size := m2 }).data.length cp1)) HCF.out _ Tryd.underlying28 rfl infoCall ?_; go_frame)
        | ((with_reducible show wpList _ _ _ _ _ wf); refine wpList_storeS rfl 28 _ _ rfl w.heap.size rfl (calCells ({ calZero with client := na % 256, inc := nb, seq := nd, kind := 2, ino := m0, gen := m1, size := m2 }) (.slice A1 ({ calZero with client := na % 256, inc := nb, seq := nd, kind := 2, ino := m0, gen := m1, size := m2 }).data.length cp1)) (calCells calZero (.slice none 0 0)) rfl (HGW.out.turn GF.out.2.2.1 (fun hh => by have := HSZ.out; rcases hh with hh | hh <;> omega)) rfl (cal_one rfl) infoCall ?_; intro w9 hk9 ht9; go_frame; have C9 := Lib.hid hk9; have B9 := Lib.hid ((HBW.out.trans (GF.out.2.2.1.below HBW.out.size fun k hk => by have := HSZ.out; have := HBW.out.size; rcases hk with hk | hk <;> omega)).trans (ht9.below (HBW.out.trans (GF.out.2.2.1.below HBW.out.size fun k hk => by have := HSZ.out; have := HBW.out.size; rcases hk with hk | hk <;> omega)).size fun k e => Nat.le_of_eq e.symm)); have T9 := Lib.hid ht9; clear hk9 ht9)
        | fail)
      have hx : getX l = ({ calZero with client := na % 256, inc := nb, seq := nd, kind := 2, ino := m0, gen := m1, size := m2 }, 0) := by rw [HRS.out, HM.out, HCR2.out]; rfl
      have hv9 := HVF.out.turn T9.out (fun k hk e => by have := HBW.out.size; have := HSZ.out; omega)
      exact cal_end (cs := (calCells ({ calZero with client := na % 256, inc := nb, seq := nd, kind := 2, ino := m0, gen := m1, size := m2 }) (.slice A1 ({ calZero with client := na % 256, inc := nb, seq := nd, kind := 2, ino := m0, gen := m1, size := m2 }).data.length cp1))) rfl rfl C9.out rfl rfl (by rw [hx]; exact ⟨_, rfl, ⟨hv9.mono fun k _ hk => Nat.le_trans HBW.out.size hk, HOK.out⟩, B9.out⟩)
  · clear hkk
    have hs : GetQ (w.heap.size + 1) w3.heap.size (· < w.heap.size) W4 s4 ({ calZero with client := na % 256, inc := nb, seq := nd, kind := 3 }) (w5.setCell ⟨w3.heap.size, 3, none⟩ (.int .u8 3)) := HS5.out.put (i := 3) HC5.out rfl HV5.out
    have H6 := Lib.hid hs
    clear hs
    go_wp2_with fail
    have hcall := NumQ H6.out.1
    have hbdm0 := numN4 s4
    generalize hnm0 : (numR s4 4).1.toNat = m0 at hcall hbdm0
    generalize hst0 : (numR s4 4).2 = t0 at hcall
    have HNm0 := Lib.hid hnm0
    have HEt0 := Lib.hid hst0
    have HBDm0 := Lib.hid hbdm0
    have hlem0 : (m0 : Int) ≤ 4294967295 := by omega
    clear hnm0 hst0 hbdm0
    refine hcall.mono ?_
    clear hcall
    rintro e x0 ⟨rfl, hq, ht⟩
    have HAt0 := Lib.hid (show t0.all = l by rw [← HEt0.out]; exact (numR_all _ _).trans HAs4.out)
    have hs := H6.out.told hq ht
    obtain ⟨v, hc, hv⟩ := hs.2.1
    have kp := hc.cell 4 rfl
    have kf := hc.frozen 4
    have k3 : x0.cell? ⟨w3.heap.size, 3, none⟩ = some (.int .u8 3) := hc.cell 3 rfl
    have hs2 : GetQ (w.heap.size + 1) w3.heap.size (· < w.heap.size) W4 t0 ({ calZero with client := na % 256, inc := nb, seq := nd, kind := 3, ino := m0 }) (x0.setCell ⟨w3.heap.size, 4, none⟩ (.int .u32 (m0 : Int))) := hs.put (i := 4) hc rfl hv
    have G0 := Lib.hid hs2
    clear hs hc hv hs2 hq ht
    go_wp2_with fail
    clear kp kf k3
    have hcall := NumQ G0.out.1
    have hbdm1 := numN4 t0
    generalize hnm1 : (numR t0 4).1.toNat = m1 at hcall hbdm1
    generalize hst1 : (numR t0 4).2 = t1 at hcall
    have HNm1 := Lib.hid hnm1
    have HEt1 := Lib.hid hst1
    have HBDm1 := Lib.hid hbdm1
    have hlem1 : (m1 : Int) ≤ 4294967295 := by omega
    clear hnm1 hst1 hbdm1
    refine hcall.mono ?_
    clear hcall
    rintro e x1 ⟨rfl, hq, ht⟩
    have HAt1 := Lib.hid (show t1.all = l by rw [← HEt1.out]; exact (numR_all _ _).trans HAt0.out)
    have hs := G0.out.told hq ht
    obtain ⟨v, hc, hv⟩ := hs.2.1
    have kp := hc.cell 5 rfl
    have kf := hc.frozen 5
    have k3 : x1.cell? ⟨w3.heap.size, 3, none⟩ = some (.int .u8 3) := hc.cell 3 rfl
    have hs2 : GetQ (w.heap.size + 1) w3.heap.size (· < w.heap.size) W4 t1 ({ calZero with client := na % 256, inc := nb, seq := nd, kind := 3, ino := m0, gen := m1 }) (x1.setCell ⟨w3.heap.size, 5, none⟩ (.int .u32 (m1 : Int))) := hs.put (i := 5) hc rfl hv
    have G1 := Lib.hid hs2
    clear hs hc hv hs2 hq ht
    go_wp2_with fail
    clear kp kf k3
    have hcall := Bytes_q 4096 (by decide) (by decide) (by rw [HAt1.out]; exact HL.out) G1.out.1
    generalize hnl2 : (bytesR t1 4096).1 = l2 at hcall
    generalize hst2 : (bytesR t1 4096).2 = t2 at hcall
    have HNl2 := Lib.hid hnl2
    have HEt2 := Lib.hid hst2
    clear hnl2 hst2
    refine hcall.mono ?_
    clear hcall
    rintro e x2 ⟨vb, rfl, hvb, hq, ht⟩
    obtain ⟨Ab, cb, rfl, hrb, hAb⟩ : ∃ A c, vb = .slice A l2.length c ∧ Rd x2 A l2 ∧ BsV x2 (W4.heap.size ≤ ·) (.slice A l2.length c) l2 := by
      obtain ⟨A, c, e, hr, -⟩ := id hvb
      subst e
      exact ⟨A, c, rfl, hr.rd, hvb.mono fun k _ hk => Nat.le_trans G1.out.2.2.2.2.2 hk⟩
    have hcv := conv_rd hrb cb
    have HAt2 := Lib.hid (show t2.all = l by rw [← HEt2.out]; exact (bytesR_all10 _).trans HAt1.out)
    have hs := G1.out.told hq ht
    obtain ⟨v, hc, hv⟩ := hs.2.1
    have kp := hc.cell 6 rfl
    have kf := hc.frozen 6
    have k3 : x2.cell? ⟨w3.heap.size, 3, none⟩ = some (.int .u8 3) := hc.cell 3 rfl
    have hs2 : GetQ (w.heap.size + 1) w3.heap.size (· < w.heap.size) W4 t2 ({ calZero with client := na % 256, inc := nb, seq := nd, kind := 3, ino := m0, gen := m1, name := ⟨l2.toArray⟩ }) (x2.setCell ⟨w3.heap.size, 6, none⟩ (.string ⟨l2.toArray⟩)) := hs.put (i := 6) hc rfl hv
    have G2 := Lib.hid hs2
    clear hs hc hv hs2 hq ht hrb hAb hvb
    go_wp2_with fail
    clear kp kf k3 hcv
    refine (End_q G2.out.1).mono ?_
    rintro e we ⟨rfl, hb⟩
    have GE := Lib.hid (G2.out.below hb)
    clear hb
    have HR := Lib.hid (show (restR l).2 = t2 by
      show (tellL 4096 (restS (kRow (kindR l))) (headRS ⟨l, 0, 0⟩)).2 = t2
      rw [HKD.out, HHD.out]
      obtain rfl := HEt0.out
      obtain rfl := HEt1.out
      obtain rfl := HEt2.out
      rfl)
    have HCR := Lib.hid (fun (h4 : na < 4) => show callR l = { calZero with client := na % 256, inc := nb, seq := nd, kind := 3, ino := m0, gen := m1, name := ⟨l2.toArray⟩ } by
      show restC (kindR l) (headC calZero (headR l).1) (tellL 4096 (restS (kRow (kindR l))) (headRS ⟨l, 0, 0⟩)).1 = _
      rw [HKD.out, HHD.out, headR_is, HEs1.out, HEs2.out, HEs3.out, HNna.out, HNnb.out, HNnd.out, HNnk.out, Nat.mod_eq_of_lt (show na < 256 by omega)]
      obtain rfl := HNm0.out
      obtain rfl := HEt0.out
      obtain rfl := HNm1.out
      obtain rfl := HEt1.out
      obtain rfl := HNl2.out
      rfl)
    by_cases hend : endR t2 = 0
    case neg =>
      obtain ⟨en, hen⟩ : ∃ en, endR t2 = en := ⟨_, rfl⟩
      rw [hen] at hend ⊢
      have hne : (en != 0) = true := by simpa using hend
      have heq : (en == 0) = false := by simpa using hend
      have HEN := Lib.hid (And.intro hen hend)
      clear hen hend
      go_wp2_with (first
        | ((with_reducible show wpList _ _ _ _ _ we); refine wpList_storeS rfl 28 _ _ rfl w.heap.size rfl (calCells calZero (.slice none 0 0)) (calCells calZero (.slice none 0 0)) rfl (HGW.out.turn GE.out.2.2.1 (fun hh => by have := HSZ.out; rcases hh with hh | hh <;> omega)) rfl (cal_one rfl) infoCall ?_; intro w9 hk9 ht9; go_frame; have C9 := Lib.hid hk9; have B9 := Lib.hid ((HBW.out.trans (GE.out.2.2.1.below HBW.out.size fun k hk => by have := HSZ.out; have := HBW.out.size; rcases hk with hk | hk <;> omega)).trans (ht9.below (HBW.out.trans (GE.out.2.2.1.below HBW.out.size fun k hk => by have := HSZ.out; have := HBW.out.size; rcases hk with hk | hk <;> omega)).size fun k e => Nat.le_of_eq e.symm)); have T9 := Lib.hid ht9; clear hk9 ht9)
        | fail)
      have hx := (by rw [getX_end HNL.out (by rw [HHD.out]; exact HE0.out) (by rw [HKD.out]; rfl) (by rw [HR.out, HEN.out.1]; exact HEN.out.2), HR.out, HEN.out.1] : getX l = (calZero, en))
      exact cal_end (cs := (calCells calZero (.slice none 0 0))) rfl rfl C9.out rfl rfl (by rw [hx]; exact ⟨_, rfl, calZ_v _ _, B9.out⟩)
    rw [hend]
    have hrest := getX_rest HNL.out (by rw [HHD.out]; exact HE0.out) (by rw [HKD.out]; rfl) (by rw [HR.out]; exact hend)
    have HRS := Lib.hid hrest
    clear hrest hend
    by_cases h4 : na < 4
    case neg =>
      have g4 : 4 ≤ na := by omega
      have g4' : decide (4 ≤ (na : Int)) = true := decide_eq_true (by omega)
      have hmf : mayX (callR l) = false := mayX_client (by unfold callR; rw [(restC_head _ _ _).1, headR_is]; show 4 ≤ (numR ⟨l, 0, 0⟩ 4).1.toNat; rw [HNna.out]; exact g4)
      have HMF := Lib.hid hmf
      clear hmf
      go_wp2_with (first
        | ((with_reducible show wpList _ _ _ _ _ we); refine wpList_storeS rfl 28 _ _ rfl w.heap.size rfl (calCells calZero (.slice none 0 0)) (calCells calZero (.slice none 0 0)) rfl (HGW.out.turn GE.out.2.2.1 (fun hh => by have := HSZ.out; rcases hh with hh | hh <;> omega)) rfl (cal_one rfl) infoCall ?_; intro w9 hk9 ht9; go_frame; have C9 := Lib.hid hk9; have B9 := Lib.hid ((HBW.out.trans (GE.out.2.2.1.below HBW.out.size fun k hk => by have := HSZ.out; have := HBW.out.size; rcases hk with hk | hk <;> omega)).trans (ht9.below (HBW.out.trans (GE.out.2.2.1.below HBW.out.size fun k hk => by have := HSZ.out; have := HBW.out.size; rcases hk with hk | hk <;> omega)).size fun k e => Nat.le_of_eq e.symm)); have T9 := Lib.hid ht9; clear hk9 ht9)
        | fail)
      have hx := (by rw [HRS.out, HMF.out]; rfl : getX l = (calZero, 5))
      exact cal_end (cs := (calCells calZero (.slice none 0 0))) rfl rfl C9.out rfl rfl (by rw [hx]; exact ⟨_, rfl, calZ_v _ _, B9.out⟩)
    have g4' : decide (4 ≤ (na : Int)) = false := decide_eq_false (by omega)
    have hcr := HCR.out h4
    obtain ⟨v, hc, hv⟩ := GE.out.2.1
    obtain ⟨A1, cp1, rfl, -⟩ := id hv
    have hok : calOk ({ calZero with client := na % 256, inc := nb, seq := nd, kind := 3, ino := m0, gen := m1, name := ⟨l2.toArray⟩ }) := ⟨by show na % 256 < 256; omega, HBDnb.out, HBDnd.out, by show (3 : Nat) < 256; decide, HBDm0.out, HBDm1.out, by show (0 : Nat) < 4294967296; decide, by show (0 : Nat) < 4294967296; decide, by show (0 : Nat) < 4294967296; decide, by show (0 : Nat) < 4294967296; decide⟩
    have HMY := Lib.hid (MayR_v ⟨hv, hok⟩)
    have HOK := Lib.hid hok
    obtain ⟨p0, p1, p2, p3, p4, p5, p6, p7, p8, p9, p10, p11, p12⟩ := Cs.cal hc
    have HCE := Lib.hid hc
    have HVE := Lib.hid hv
    have H4 := Lib.hid h4
    have HCR2 := Lib.hid hcr
    clear hc hv hok h4 hcr
    rcases hm : mayX (callR l) with _ | _
    · have hmc : mayX ({ calZero with client := na % 256, inc := nb, seq := nd, kind := 3, ino := m0, gen := m1, name := ⟨l2.toArray⟩ }) = false := by rw [← HCR2.out]; exact hm
      rw [hmc] at HMY
      have HM := Lib.hid hm
      clear hm hmc
      go_wp2_with fail
      refine HMY.out.mono ?_
      rintro e wf ⟨rfl, hb⟩
      have GF := Lib.hid (GE.out.below hb)
      clear hb p0 p1 p2 p3 p4 p5 p6 p7 p8 p9 p10 p11 p12
      go_wp2_with (first
        | ((with_reducible show wpList _ _ _ _ _ wf); refine wpList_storeS rfl 28 _ _ rfl w.heap.size rfl (calCells calZero (.slice none 0 0)) (calCells calZero (.slice none 0 0)) rfl (HGW.out.turn GF.out.2.2.1 (fun hh => by have := HSZ.out; rcases hh with hh | hh <;> omega)) rfl (cal_one rfl) infoCall ?_; intro w9 hk9 ht9; go_frame; have C9 := Lib.hid hk9; have B9 := Lib.hid ((HBW.out.trans (GF.out.2.2.1.below HBW.out.size fun k hk => by have := HSZ.out; have := HBW.out.size; rcases hk with hk | hk <;> omega)).trans (ht9.below (HBW.out.trans (GF.out.2.2.1.below HBW.out.size fun k hk => by have := HSZ.out; have := HBW.out.size; rcases hk with hk | hk <;> omega)).size fun k e => Nat.le_of_eq e.symm)); have T9 := Lib.hid ht9; clear hk9 ht9)
        | fail)
      have hx := (by rw [HRS.out, HM.out]; rfl : getX l = (calZero, 5))
      exact cal_end (cs := (calCells calZero (.slice none 0 0))) rfl rfl C9.out rfl rfl (by rw [hx]; exact ⟨_, rfl, calZ_v _ _, B9.out⟩)
    · have hmc : mayX ({ calZero with client := na % 256, inc := nb, seq := nd, kind := 3, ino := m0, gen := m1, name := ⟨l2.toArray⟩ }) = true := by rw [← HCR2.out]; exact hm
      rw [hmc] at HMY
      have HM := Lib.hid hm
      clear hm hmc
      go_wp2_with fail
      refine HMY.out.mono ?_
      rintro e wf ⟨rfl, hb⟩
      have GF := Lib.hid (GE.out.below hb)
      have HCF := Lib.hid (HCE.out.below hb HCE.out.lt)
      have HVF := Lib.hid (HVE.out.below hb)
      clear hb p0 p1 p2 p3 p4 p5 p6 p7 p8 p9 p10 p11 p12
      go_wp2_with (first
        | ((with_reducible show wpList _ _ _ _ _ wf); refine wpList_loadS rfl 28 _ rfl w3.heap.size rfl (calCells ({ calZero with client := na % 256, inc := nb, seq := nd, kind := 3, ino := m0, gen := m1, name := ⟨l2.toArray⟩ }) (.slice A1 ({ calZero with client := na % 256, inc := nb, seq := nd, kind := 3, ino := m0, gen := m1, name := ⟨l2.toArray⟩ }).data.length cp1)) HCF.out _ Tryd.underlying28 rfl infoCall ?_; go_frame)
        | ((with_reducible show wpList _ _ _ _ _ wf); refine wpList_storeS rfl 28 _ _ rfl w.heap.size rfl (calCells ({ calZero with client := na % 256, inc := nb, seq := nd, kind := 3, ino := m0, gen := m1, name := ⟨l2.toArray⟩ }) (.slice A1 ({ calZero with client := na % 256, inc := nb, seq := nd, kind := 3, ino := m0, gen := m1, name := ⟨l2.toArray⟩ }).data.length cp1)) (calCells calZero (.slice none 0 0)) rfl (HGW.out.turn GF.out.2.2.1 (fun hh => by have := HSZ.out; rcases hh with hh | hh <;> omega)) rfl (cal_one rfl) infoCall ?_; intro w9 hk9 ht9; go_frame; have C9 := Lib.hid hk9; have B9 := Lib.hid ((HBW.out.trans (GF.out.2.2.1.below HBW.out.size fun k hk => by have := HSZ.out; have := HBW.out.size; rcases hk with hk | hk <;> omega)).trans (ht9.below (HBW.out.trans (GF.out.2.2.1.below HBW.out.size fun k hk => by have := HSZ.out; have := HBW.out.size; rcases hk with hk | hk <;> omega)).size fun k e => Nat.le_of_eq e.symm)); have T9 := Lib.hid ht9; clear hk9 ht9)
        | fail)
      have hx : getX l = ({ calZero with client := na % 256, inc := nb, seq := nd, kind := 3, ino := m0, gen := m1, name := ⟨l2.toArray⟩ }, 0) := by rw [HRS.out, HM.out, HCR2.out]; rfl
      have hv9 := HVF.out.turn T9.out (fun k hk e => by have := HBW.out.size; have := HSZ.out; omega)
      exact cal_end (cs := (calCells ({ calZero with client := na % 256, inc := nb, seq := nd, kind := 3, ino := m0, gen := m1, name := ⟨l2.toArray⟩ }) (.slice A1 ({ calZero with client := na % 256, inc := nb, seq := nd, kind := 3, ino := m0, gen := m1, name := ⟨l2.toArray⟩ }).data.length cp1))) rfl rfl C9.out rfl rfl (by rw [hx]; exact ⟨_, rfl, ⟨hv9.mono fun k _ hk => Nat.le_trans HBW.out.size hk, HOK.out⟩, B9.out⟩)
  · clear hkk
    have hs : GetQ (w.heap.size + 1) w3.heap.size (· < w.heap.size) W4 s4 ({ calZero with client := na % 256, inc := nb, seq := nd, kind := 4 }) (w5.setCell ⟨w3.heap.size, 3, none⟩ (.int .u8 4)) := HS5.out.put (i := 3) HC5.out rfl HV5.out
    have H6 := Lib.hid hs
    clear hs
    go_wp2_with fail
    have hcall := NumQ H6.out.1
    have hbdm0 := numN4 s4
    generalize hnm0 : (numR s4 4).1.toNat = m0 at hcall hbdm0
    generalize hst0 : (numR s4 4).2 = t0 at hcall
    have HNm0 := Lib.hid hnm0
    have HEt0 := Lib.hid hst0
    have HBDm0 := Lib.hid hbdm0
    have hlem0 : (m0 : Int) ≤ 4294967295 := by omega
    clear hnm0 hst0 hbdm0
    refine hcall.mono ?_
    clear hcall
    rintro e x0 ⟨rfl, hq, ht⟩
    have HAt0 := Lib.hid (show t0.all = l by rw [← HEt0.out]; exact (numR_all _ _).trans HAs4.out)
    have hs := H6.out.told hq ht
    obtain ⟨v, hc, hv⟩ := hs.2.1
    have kp := hc.cell 4 rfl
    have kf := hc.frozen 4
    have k3 : x0.cell? ⟨w3.heap.size, 3, none⟩ = some (.int .u8 4) := hc.cell 3 rfl
    have hs2 : GetQ (w.heap.size + 1) w3.heap.size (· < w.heap.size) W4 t0 ({ calZero with client := na % 256, inc := nb, seq := nd, kind := 4, ino := m0 }) (x0.setCell ⟨w3.heap.size, 4, none⟩ (.int .u32 (m0 : Int))) := hs.put (i := 4) hc rfl hv
    have G0 := Lib.hid hs2
    clear hs hc hv hs2 hq ht
    go_wp2_with fail
    clear kp kf k3
    have hcall := NumQ G0.out.1
    have hbdm1 := numN4 t0
    generalize hnm1 : (numR t0 4).1.toNat = m1 at hcall hbdm1
    generalize hst1 : (numR t0 4).2 = t1 at hcall
    have HNm1 := Lib.hid hnm1
    have HEt1 := Lib.hid hst1
    have HBDm1 := Lib.hid hbdm1
    have hlem1 : (m1 : Int) ≤ 4294967295 := by omega
    clear hnm1 hst1 hbdm1
    refine hcall.mono ?_
    clear hcall
    rintro e x1 ⟨rfl, hq, ht⟩
    have HAt1 := Lib.hid (show t1.all = l by rw [← HEt1.out]; exact (numR_all _ _).trans HAt0.out)
    have hs := G0.out.told hq ht
    obtain ⟨v, hc, hv⟩ := hs.2.1
    have kp := hc.cell 5 rfl
    have kf := hc.frozen 5
    have k3 : x1.cell? ⟨w3.heap.size, 3, none⟩ = some (.int .u8 4) := hc.cell 3 rfl
    have hs2 : GetQ (w.heap.size + 1) w3.heap.size (· < w.heap.size) W4 t1 ({ calZero with client := na % 256, inc := nb, seq := nd, kind := 4, ino := m0, gen := m1 }) (x1.setCell ⟨w3.heap.size, 5, none⟩ (.int .u32 (m1 : Int))) := hs.put (i := 5) hc rfl hv
    have G1 := Lib.hid hs2
    clear hs hc hv hs2 hq ht
    go_wp2_with fail
    clear kp kf k3
    have hcall := NumQ G1.out.1
    have hbdm2 := numN4 t1
    generalize hnm2 : (numR t1 4).1.toNat = m2 at hcall hbdm2
    generalize hst2 : (numR t1 4).2 = t2 at hcall
    have HNm2 := Lib.hid hnm2
    have HEt2 := Lib.hid hst2
    have HBDm2 := Lib.hid hbdm2
    have hlem2 : (m2 : Int) ≤ 4294967295 := by omega
    clear hnm2 hst2 hbdm2
    refine hcall.mono ?_
    clear hcall
    rintro e x2 ⟨rfl, hq, ht⟩
    have HAt2 := Lib.hid (show t2.all = l by rw [← HEt2.out]; exact (numR_all _ _).trans HAt1.out)
    have hs := G1.out.told hq ht
    obtain ⟨v, hc, hv⟩ := hs.2.1
    have kp := hc.cell 10 rfl
    have kf := hc.frozen 10
    have k3 : x2.cell? ⟨w3.heap.size, 3, none⟩ = some (.int .u8 4) := hc.cell 3 rfl
    have hs2 : GetQ (w.heap.size + 1) w3.heap.size (· < w.heap.size) W4 t2 ({ calZero with client := na % 256, inc := nb, seq := nd, kind := 4, ino := m0, gen := m1, off := m2 }) (x2.setCell ⟨w3.heap.size, 10, none⟩ (.int .u32 (m2 : Int))) := hs.put (i := 10) hc rfl hv
    have G2 := Lib.hid hs2
    clear hs hc hv hs2 hq ht
    go_wp2_with fail
    clear kp kf k3
    have hcall := NumQ G2.out.1
    have hbdm3 := numN4 t2
    generalize hnm3 : (numR t2 4).1.toNat = m3 at hcall hbdm3
    generalize hst3 : (numR t2 4).2 = t3 at hcall
    have HNm3 := Lib.hid hnm3
    have HEt3 := Lib.hid hst3
    have HBDm3 := Lib.hid hbdm3
    have hlem3 : (m3 : Int) ≤ 4294967295 := by omega
    clear hnm3 hst3 hbdm3
    refine hcall.mono ?_
    clear hcall
    rintro e x3 ⟨rfl, hq, ht⟩
    have HAt3 := Lib.hid (show t3.all = l by rw [← HEt3.out]; exact (numR_all _ _).trans HAt2.out)
    have hs := G2.out.told hq ht
    obtain ⟨v, hc, hv⟩ := hs.2.1
    have kp := hc.cell 11 rfl
    have kf := hc.frozen 11
    have k3 : x3.cell? ⟨w3.heap.size, 3, none⟩ = some (.int .u8 4) := hc.cell 3 rfl
    have hs2 : GetQ (w.heap.size + 1) w3.heap.size (· < w.heap.size) W4 t3 ({ calZero with client := na % 256, inc := nb, seq := nd, kind := 4, ino := m0, gen := m1, off := m2, size := m3 }) (x3.setCell ⟨w3.heap.size, 11, none⟩ (.int .u32 (m3 : Int))) := hs.put (i := 11) hc rfl hv
    have G3 := Lib.hid hs2
    clear hs hc hv hs2 hq ht
    go_wp2_with fail
    clear kp kf k3
    refine (End_q G3.out.1).mono ?_
    rintro e we ⟨rfl, hb⟩
    have GE := Lib.hid (G3.out.below hb)
    clear hb
    have HR := Lib.hid (show (restR l).2 = t3 by
      show (tellL 4096 (restS (kRow (kindR l))) (headRS ⟨l, 0, 0⟩)).2 = t3
      rw [HKD.out, HHD.out]
      obtain rfl := HEt0.out
      obtain rfl := HEt1.out
      obtain rfl := HEt2.out
      obtain rfl := HEt3.out
      rfl)
    have HCR := Lib.hid (fun (h4 : na < 4) => show callR l = { calZero with client := na % 256, inc := nb, seq := nd, kind := 4, ino := m0, gen := m1, off := m2, size := m3 } by
      show restC (kindR l) (headC calZero (headR l).1) (tellL 4096 (restS (kRow (kindR l))) (headRS ⟨l, 0, 0⟩)).1 = _
      rw [HKD.out, HHD.out, headR_is, HEs1.out, HEs2.out, HEs3.out, HNna.out, HNnb.out, HNnd.out, HNnk.out, Nat.mod_eq_of_lt (show na < 256 by omega)]
      obtain rfl := HNm0.out
      obtain rfl := HEt0.out
      obtain rfl := HNm1.out
      obtain rfl := HEt1.out
      obtain rfl := HNm2.out
      obtain rfl := HEt2.out
      obtain rfl := HNm3.out
      rfl)
    by_cases hend : endR t3 = 0
    case neg =>
      obtain ⟨en, hen⟩ : ∃ en, endR t3 = en := ⟨_, rfl⟩
      rw [hen] at hend ⊢
      have hne : (en != 0) = true := by simpa using hend
      have heq : (en == 0) = false := by simpa using hend
      have HEN := Lib.hid (And.intro hen hend)
      clear hen hend
      go_wp2_with (first
        | ((with_reducible show wpList _ _ _ _ _ we); refine wpList_storeS rfl 28 _ _ rfl w.heap.size rfl (calCells calZero (.slice none 0 0)) (calCells calZero (.slice none 0 0)) rfl (HGW.out.turn GE.out.2.2.1 (fun hh => by have := HSZ.out; rcases hh with hh | hh <;> omega)) rfl (cal_one rfl) infoCall ?_; intro w9 hk9 ht9; go_frame; have C9 := Lib.hid hk9; have B9 := Lib.hid ((HBW.out.trans (GE.out.2.2.1.below HBW.out.size fun k hk => by have := HSZ.out; have := HBW.out.size; rcases hk with hk | hk <;> omega)).trans (ht9.below (HBW.out.trans (GE.out.2.2.1.below HBW.out.size fun k hk => by have := HSZ.out; have := HBW.out.size; rcases hk with hk | hk <;> omega)).size fun k e => Nat.le_of_eq e.symm)); have T9 := Lib.hid ht9; clear hk9 ht9)
        | fail)
      have hx := (by rw [getX_end HNL.out (by rw [HHD.out]; exact HE0.out) (by rw [HKD.out]; rfl) (by rw [HR.out, HEN.out.1]; exact HEN.out.2), HR.out, HEN.out.1] : getX l = (calZero, en))
      exact cal_end (cs := (calCells calZero (.slice none 0 0))) rfl rfl C9.out rfl rfl (by rw [hx]; exact ⟨_, rfl, calZ_v _ _, B9.out⟩)
    rw [hend]
    have hrest := getX_rest HNL.out (by rw [HHD.out]; exact HE0.out) (by rw [HKD.out]; rfl) (by rw [HR.out]; exact hend)
    have HRS := Lib.hid hrest
    clear hrest hend
    by_cases h4 : na < 4
    case neg =>
      have g4 : 4 ≤ na := by omega
      have g4' : decide (4 ≤ (na : Int)) = true := decide_eq_true (by omega)
      have hmf : mayX (callR l) = false := mayX_client (by unfold callR; rw [(restC_head _ _ _).1, headR_is]; show 4 ≤ (numR ⟨l, 0, 0⟩ 4).1.toNat; rw [HNna.out]; exact g4)
      have HMF := Lib.hid hmf
      clear hmf
      go_wp2_with (first
        | ((with_reducible show wpList _ _ _ _ _ we); refine wpList_storeS rfl 28 _ _ rfl w.heap.size rfl (calCells calZero (.slice none 0 0)) (calCells calZero (.slice none 0 0)) rfl (HGW.out.turn GE.out.2.2.1 (fun hh => by have := HSZ.out; rcases hh with hh | hh <;> omega)) rfl (cal_one rfl) infoCall ?_; intro w9 hk9 ht9; go_frame; have C9 := Lib.hid hk9; have B9 := Lib.hid ((HBW.out.trans (GE.out.2.2.1.below HBW.out.size fun k hk => by have := HSZ.out; have := HBW.out.size; rcases hk with hk | hk <;> omega)).trans (ht9.below (HBW.out.trans (GE.out.2.2.1.below HBW.out.size fun k hk => by have := HSZ.out; have := HBW.out.size; rcases hk with hk | hk <;> omega)).size fun k e => Nat.le_of_eq e.symm)); have T9 := Lib.hid ht9; clear hk9 ht9)
        | fail)
      have hx := (by rw [HRS.out, HMF.out]; rfl : getX l = (calZero, 5))
      exact cal_end (cs := (calCells calZero (.slice none 0 0))) rfl rfl C9.out rfl rfl (by rw [hx]; exact ⟨_, rfl, calZ_v _ _, B9.out⟩)
    have g4' : decide (4 ≤ (na : Int)) = false := decide_eq_false (by omega)
    have hcr := HCR.out h4
    obtain ⟨v, hc, hv⟩ := GE.out.2.1
    obtain ⟨A1, cp1, rfl, -⟩ := id hv
    have hok : calOk ({ calZero with client := na % 256, inc := nb, seq := nd, kind := 4, ino := m0, gen := m1, off := m2, size := m3 }) := ⟨by show na % 256 < 256; omega, HBDnb.out, HBDnd.out, by show (4 : Nat) < 256; decide, HBDm0.out, HBDm1.out, by show (0 : Nat) < 4294967296; decide, by show (0 : Nat) < 4294967296; decide, HBDm2.out, HBDm3.out⟩
    have HMY := Lib.hid (MayR_v ⟨hv, hok⟩)
    have HOK := Lib.hid hok
    obtain ⟨p0, p1, p2, p3, p4, p5, p6, p7, p8, p9, p10, p11, p12⟩ := Cs.cal hc
    have HCE := Lib.hid hc
    have HVE := Lib.hid hv
    have H4 := Lib.hid h4
    have HCR2 := Lib.hid hcr
    clear hc hv hok h4 hcr
    rcases hm : mayX (callR l) with _ | _
    · have hmc : mayX ({ calZero with client := na % 256, inc := nb, seq := nd, kind := 4, ino := m0, gen := m1, off := m2, size := m3 }) = false := by rw [← HCR2.out]; exact hm
      rw [hmc] at HMY
      have HM := Lib.hid hm
      clear hm hmc
      go_wp2_with fail
      refine HMY.out.mono ?_
      rintro e wf ⟨rfl, hb⟩
      have GF := Lib.hid (GE.out.below hb)
      clear hb p0 p1 p2 p3 p4 p5 p6 p7 p8 p9 p10 p11 p12
      go_wp2_with (first
        | ((with_reducible show wpList _ _ _ _ _ wf); refine wpList_storeS rfl 28 _ _ rfl w.heap.size rfl (calCells calZero (.slice none 0 0)) (calCells calZero (.slice none 0 0)) rfl (HGW.out.turn GF.out.2.2.1 (fun hh => by have := HSZ.out; rcases hh with hh | hh <;> omega)) rfl (cal_one rfl) infoCall ?_; intro w9 hk9 ht9; go_frame; have C9 := Lib.hid hk9; have B9 := Lib.hid ((HBW.out.trans (GF.out.2.2.1.below HBW.out.size fun k hk => by have := HSZ.out; have := HBW.out.size; rcases hk with hk | hk <;> omega)).trans (ht9.below (HBW.out.trans (GF.out.2.2.1.below HBW.out.size fun k hk => by have := HSZ.out; have := HBW.out.size; rcases hk with hk | hk <;> omega)).size fun k e => Nat.le_of_eq e.symm)); have T9 := Lib.hid ht9; clear hk9 ht9)
        | fail)
      have hx := (by rw [HRS.out, HM.out]; rfl : getX l = (calZero, 5))
      exact cal_end (cs := (calCells calZero (.slice none 0 0))) rfl rfl C9.out rfl rfl (by rw [hx]; exact ⟨_, rfl, calZ_v _ _, B9.out⟩)
    · have hmc : mayX ({ calZero with client := na % 256, inc := nb, seq := nd, kind := 4, ino := m0, gen := m1, off := m2, size := m3 }) = true := by rw [← HCR2.out]; exact hm
      rw [hmc] at HMY
      have HM := Lib.hid hm
      clear hm hmc
      go_wp2_with fail
      refine HMY.out.mono ?_
      rintro e wf ⟨rfl, hb⟩
      have GF := Lib.hid (GE.out.below hb)
      have HCF := Lib.hid (HCE.out.below hb HCE.out.lt)
      have HVF := Lib.hid (HVE.out.below hb)
      clear hb p0 p1 p2 p3 p4 p5 p6 p7 p8 p9 p10 p11 p12
      go_wp2_with (first
        | ((with_reducible show wpList _ _ _ _ _ wf); refine wpList_loadS rfl 28 _ rfl w3.heap.size rfl (calCells ({ calZero with client := na % 256, inc := nb, seq := nd, kind := 4, ino := m0, gen := m1, off := m2, size := m3 }) (.slice A1 ({ calZero with client := na % 256, inc := nb, seq := nd, kind := 4, ino := m0, gen := m1, off := m2, size := m3 }).data.length cp1)) HCF.out _ Tryd.underlying28 rfl infoCall ?_; go_frame)
        | ((with_reducible show wpList _ _ _ _ _ wf); refine wpList_storeS rfl 28 _ _ rfl w.heap.size rfl (calCells ({ calZero with client := na % 256, inc := nb, seq := nd, kind := 4, ino := m0, gen := m1, off := m2, size := m3 }) (.slice A1 ({ calZero with client := na % 256, inc := nb, seq := nd, kind := 4, ino := m0, gen := m1, off := m2, size := m3 }).data.length cp1)) (calCells calZero (.slice none 0 0)) rfl (HGW.out.turn GF.out.2.2.1 (fun hh => by have := HSZ.out; rcases hh with hh | hh <;> omega)) rfl (cal_one rfl) infoCall ?_; intro w9 hk9 ht9; go_frame; have C9 := Lib.hid hk9; have B9 := Lib.hid ((HBW.out.trans (GF.out.2.2.1.below HBW.out.size fun k hk => by have := HSZ.out; have := HBW.out.size; rcases hk with hk | hk <;> omega)).trans (ht9.below (HBW.out.trans (GF.out.2.2.1.below HBW.out.size fun k hk => by have := HSZ.out; have := HBW.out.size; rcases hk with hk | hk <;> omega)).size fun k e => Nat.le_of_eq e.symm)); have T9 := Lib.hid ht9; clear hk9 ht9)
        | fail)
      have hx : getX l = ({ calZero with client := na % 256, inc := nb, seq := nd, kind := 4, ino := m0, gen := m1, off := m2, size := m3 }, 0) := by rw [HRS.out, HM.out, HCR2.out]; rfl
      have hv9 := HVF.out.turn T9.out (fun k hk e => by have := HBW.out.size; have := HSZ.out; omega)
      exact cal_end (cs := (calCells ({ calZero with client := na % 256, inc := nb, seq := nd, kind := 4, ino := m0, gen := m1, off := m2, size := m3 }) (.slice A1 ({ calZero with client := na % 256, inc := nb, seq := nd, kind := 4, ino := m0, gen := m1, off := m2, size := m3 }).data.length cp1))) rfl rfl C9.out rfl rfl (by rw [hx]; exact ⟨_, rfl, ⟨hv9.mono fun k _ hk => Nat.le_trans HBW.out.size hk, HOK.out⟩, B9.out⟩)
  · clear hkk
    have hs : GetQ (w.heap.size + 1) w3.heap.size (· < w.heap.size) W4 s4 ({ calZero with client := na % 256, inc := nb, seq := nd, kind := 5 }) (w5.setCell ⟨w3.heap.size, 3, none⟩ (.int .u8 5)) := HS5.out.put (i := 3) HC5.out rfl HV5.out
    have H6 := Lib.hid hs
    clear hs
    go_wp2_with fail
    have hcall := NumQ H6.out.1
    have hbdm0 := numN4 s4
    generalize hnm0 : (numR s4 4).1.toNat = m0 at hcall hbdm0
    generalize hst0 : (numR s4 4).2 = t0 at hcall
    have HNm0 := Lib.hid hnm0
    have HEt0 := Lib.hid hst0
    have HBDm0 := Lib.hid hbdm0
    have hlem0 : (m0 : Int) ≤ 4294967295 := by omega
    clear hnm0 hst0 hbdm0
    refine hcall.mono ?_
    clear hcall
    rintro e x0 ⟨rfl, hq, ht⟩
    have HAt0 := Lib.hid (show t0.all = l by rw [← HEt0.out]; exact (numR_all _ _).trans HAs4.out)
    have hs := H6.out.told hq ht
    obtain ⟨v, hc, hv⟩ := hs.2.1
    have kp := hc.cell 4 rfl
    have kf := hc.frozen 4
    have k3 : x0.cell? ⟨w3.heap.size, 3, none⟩ = some (.int .u8 5) := hc.cell 3 rfl
    have hs2 : GetQ (w.heap.size + 1) w3.heap.size (· < w.heap.size) W4 t0 ({ calZero with client := na % 256, inc := nb, seq := nd, kind := 5, ino := m0 }) (x0.setCell ⟨w3.heap.size, 4, none⟩ (.int .u32 (m0 : Int))) := hs.put (i := 4) hc rfl hv
    have G0 := Lib.hid hs2
    clear hs hc hv hs2 hq ht
    go_wp2_with fail
    clear kp kf k3
    have hcall := NumQ G0.out.1
    have hbdm1 := numN4 t0
    generalize hnm1 : (numR t0 4).1.toNat = m1 at hcall hbdm1
    generalize hst1 : (numR t0 4).2 = t1 at hcall
    have HNm1 := Lib.hid hnm1
    have HEt1 := Lib.hid hst1
    have HBDm1 := Lib.hid hbdm1
    have hlem1 : (m1 : Int) ≤ 4294967295 := by omega
    clear hnm1 hst1 hbdm1
    refine hcall.mono ?_
    clear hcall
    rintro e x1 ⟨rfl, hq, ht⟩
    have HAt1 := Lib.hid (show t1.all = l by rw [← HEt1.out]; exact (numR_all _ _).trans HAt0.out)
    have hs := G0.out.told hq ht
    obtain ⟨v, hc, hv⟩ := hs.2.1
    have kp := hc.cell 5 rfl
    have kf := hc.frozen 5
    have k3 : x1.cell? ⟨w3.heap.size, 3, none⟩ = some (.int .u8 5) := hc.cell 3 rfl
    have hs2 : GetQ (w.heap.size + 1) w3.heap.size (· < w.heap.size) W4 t1 ({ calZero with client := na % 256, inc := nb, seq := nd, kind := 5, ino := m0, gen := m1 }) (x1.setCell ⟨w3.heap.size, 5, none⟩ (.int .u32 (m1 : Int))) := hs.put (i := 5) hc rfl hv
    have G1 := Lib.hid hs2
    clear hs hc hv hs2 hq ht
    go_wp2_with fail
    clear kp kf k3
    have hcall := NumQ G1.out.1
    have hbdm2 := numN4 t1
    generalize hnm2 : (numR t1 4).1.toNat = m2 at hcall hbdm2
    generalize hst2 : (numR t1 4).2 = t2 at hcall
    have HNm2 := Lib.hid hnm2
    have HEt2 := Lib.hid hst2
    have HBDm2 := Lib.hid hbdm2
    have hlem2 : (m2 : Int) ≤ 4294967295 := by omega
    clear hnm2 hst2 hbdm2
    refine hcall.mono ?_
    clear hcall
    rintro e x2 ⟨rfl, hq, ht⟩
    have HAt2 := Lib.hid (show t2.all = l by rw [← HEt2.out]; exact (numR_all _ _).trans HAt1.out)
    have hs := G1.out.told hq ht
    obtain ⟨v, hc, hv⟩ := hs.2.1
    have kp := hc.cell 10 rfl
    have kf := hc.frozen 10
    have k3 : x2.cell? ⟨w3.heap.size, 3, none⟩ = some (.int .u8 5) := hc.cell 3 rfl
    have hs2 : GetQ (w.heap.size + 1) w3.heap.size (· < w.heap.size) W4 t2 ({ calZero with client := na % 256, inc := nb, seq := nd, kind := 5, ino := m0, gen := m1, off := m2 }) (x2.setCell ⟨w3.heap.size, 10, none⟩ (.int .u32 (m2 : Int))) := hs.put (i := 10) hc rfl hv
    have G2 := Lib.hid hs2
    clear hs hc hv hs2 hq ht
    go_wp2_with fail
    clear kp kf k3
    have hcall := Bytes_q 4096 (by decide) (by decide) (by rw [HAt2.out]; exact HL.out) G2.out.1
    generalize hnl3 : (bytesR t2 4096).1 = l3 at hcall
    generalize hst3 : (bytesR t2 4096).2 = t3 at hcall
    have HNl3 := Lib.hid hnl3
    have HEt3 := Lib.hid hst3
    clear hnl3 hst3
    refine hcall.mono ?_
    clear hcall
    rintro e x3 ⟨vb, rfl, hvb, hq, ht⟩
    obtain ⟨Ab, cb, rfl, hrb, hAb⟩ : ∃ A c, vb = .slice A l3.length c ∧ Rd x3 A l3 ∧ BsV x3 (W4.heap.size ≤ ·) (.slice A l3.length c) l3 := by
      obtain ⟨A, c, e, hr, -⟩ := id hvb
      subst e
      exact ⟨A, c, rfl, hr.rd, hvb.mono fun k _ hk => Nat.le_trans G2.out.2.2.2.2.2 hk⟩
    have HAt3 := Lib.hid (show t3.all = l by rw [← HEt3.out]; exact (bytesR_all10 _).trans HAt2.out)
    have hs := G2.out.told hq ht
    obtain ⟨v, hc, hv⟩ := hs.2.1
    have kp := hc.cell 12 rfl
    have kf := hc.frozen 12
    have k3 : x3.cell? ⟨w3.heap.size, 3, none⟩ = some (.int .u8 5) := hc.cell 3 rfl
    have hs2 : GetQ (w.heap.size + 1) w3.heap.size (· < w.heap.size) W4 t3 ({ calZero with client := na % 256, inc := nb, seq := nd, kind := 5, ino := m0, gen := m1, off := m2, data := l3 }) (x3.setCell ⟨w3.heap.size, 12, none⟩ (.slice Ab l3.length cb)) := hs.put (i := 12) hc rfl hAb
    have G3 := Lib.hid hs2
    clear hs hc hv hs2 hq ht hrb hAb hvb
    go_wp2_with fail
    clear kp kf k3
    refine (End_q G3.out.1).mono ?_
    rintro e we ⟨rfl, hb⟩
    have GE := Lib.hid (G3.out.below hb)
    clear hb
    have HR := Lib.hid (show (restR l).2 = t3 by
      show (tellL 4096 (restS (kRow (kindR l))) (headRS ⟨l, 0, 0⟩)).2 = t3
      rw [HKD.out, HHD.out]
      obtain rfl := HEt0.out
      obtain rfl := HEt1.out
      obtain rfl := HEt2.out
      obtain rfl := HEt3.out
      rfl)
    have HCR := Lib.hid (fun (h4 : na < 4) => show callR l = { calZero with client := na % 256, inc := nb, seq := nd, kind := 5, ino := m0, gen := m1, off := m2, data := l3 } by
      show restC (kindR l) (headC calZero (headR l).1) (tellL 4096 (restS (kRow (kindR l))) (headRS ⟨l, 0, 0⟩)).1 = _
      rw [HKD.out, HHD.out, headR_is, HEs1.out, HEs2.out, HEs3.out, HNna.out, HNnb.out, HNnd.out, HNnk.out, Nat.mod_eq_of_lt (show na < 256 by omega)]
      obtain rfl := HNm0.out
      obtain rfl := HEt0.out
      obtain rfl := HNm1.out
      obtain rfl := HEt1.out
      obtain rfl := HNm2.out
      obtain rfl := HEt2.out
      obtain rfl := HNl3.out
      rfl)
    by_cases hend : endR t3 = 0
    case neg =>
      obtain ⟨en, hen⟩ : ∃ en, endR t3 = en := ⟨_, rfl⟩
      rw [hen] at hend ⊢
      have hne : (en != 0) = true := by simpa using hend
      have heq : (en == 0) = false := by simpa using hend
      have HEN := Lib.hid (And.intro hen hend)
      clear hen hend
      go_wp2_with (first
        | ((with_reducible show wpList _ _ _ _ _ we); refine wpList_storeS rfl 28 _ _ rfl w.heap.size rfl (calCells calZero (.slice none 0 0)) (calCells calZero (.slice none 0 0)) rfl (HGW.out.turn GE.out.2.2.1 (fun hh => by have := HSZ.out; rcases hh with hh | hh <;> omega)) rfl (cal_one rfl) infoCall ?_; intro w9 hk9 ht9; go_frame; have C9 := Lib.hid hk9; have B9 := Lib.hid ((HBW.out.trans (GE.out.2.2.1.below HBW.out.size fun k hk => by have := HSZ.out; have := HBW.out.size; rcases hk with hk | hk <;> omega)).trans (ht9.below (HBW.out.trans (GE.out.2.2.1.below HBW.out.size fun k hk => by have := HSZ.out; have := HBW.out.size; rcases hk with hk | hk <;> omega)).size fun k e => Nat.le_of_eq e.symm)); have T9 := Lib.hid ht9; clear hk9 ht9)
        | fail)
      have hx := (by rw [getX_end HNL.out (by rw [HHD.out]; exact HE0.out) (by rw [HKD.out]; rfl) (by rw [HR.out, HEN.out.1]; exact HEN.out.2), HR.out, HEN.out.1] : getX l = (calZero, en))
      exact cal_end (cs := (calCells calZero (.slice none 0 0))) rfl rfl C9.out rfl rfl (by rw [hx]; exact ⟨_, rfl, calZ_v _ _, B9.out⟩)
    rw [hend]
    have hrest := getX_rest HNL.out (by rw [HHD.out]; exact HE0.out) (by rw [HKD.out]; rfl) (by rw [HR.out]; exact hend)
    have HRS := Lib.hid hrest
    clear hrest hend
    by_cases h4 : na < 4
    case neg =>
      have g4 : 4 ≤ na := by omega
      have g4' : decide (4 ≤ (na : Int)) = true := decide_eq_true (by omega)
      have hmf : mayX (callR l) = false := mayX_client (by unfold callR; rw [(restC_head _ _ _).1, headR_is]; show 4 ≤ (numR ⟨l, 0, 0⟩ 4).1.toNat; rw [HNna.out]; exact g4)
      have HMF := Lib.hid hmf
      clear hmf
      go_wp2_with (first
        | ((with_reducible show wpList _ _ _ _ _ we); refine wpList_storeS rfl 28 _ _ rfl w.heap.size rfl (calCells calZero (.slice none 0 0)) (calCells calZero (.slice none 0 0)) rfl (HGW.out.turn GE.out.2.2.1 (fun hh => by have := HSZ.out; rcases hh with hh | hh <;> omega)) rfl (cal_one rfl) infoCall ?_; intro w9 hk9 ht9; go_frame; have C9 := Lib.hid hk9; have B9 := Lib.hid ((HBW.out.trans (GE.out.2.2.1.below HBW.out.size fun k hk => by have := HSZ.out; have := HBW.out.size; rcases hk with hk | hk <;> omega)).trans (ht9.below (HBW.out.trans (GE.out.2.2.1.below HBW.out.size fun k hk => by have := HSZ.out; have := HBW.out.size; rcases hk with hk | hk <;> omega)).size fun k e => Nat.le_of_eq e.symm)); have T9 := Lib.hid ht9; clear hk9 ht9)
        | fail)
      have hx := (by rw [HRS.out, HMF.out]; rfl : getX l = (calZero, 5))
      exact cal_end (cs := (calCells calZero (.slice none 0 0))) rfl rfl C9.out rfl rfl (by rw [hx]; exact ⟨_, rfl, calZ_v _ _, B9.out⟩)
    have g4' : decide (4 ≤ (na : Int)) = false := decide_eq_false (by omega)
    have hcr := HCR.out h4
    obtain ⟨v, hc, hv⟩ := GE.out.2.1
    obtain ⟨A1, cp1, rfl, -⟩ := id hv
    have hok : calOk ({ calZero with client := na % 256, inc := nb, seq := nd, kind := 5, ino := m0, gen := m1, off := m2, data := l3 }) := ⟨by show na % 256 < 256; omega, HBDnb.out, HBDnd.out, by show (5 : Nat) < 256; decide, HBDm0.out, HBDm1.out, by show (0 : Nat) < 4294967296; decide, by show (0 : Nat) < 4294967296; decide, HBDm2.out, by show (0 : Nat) < 4294967296; decide⟩
    have HMY := Lib.hid (MayR_v ⟨hv, hok⟩)
    have HOK := Lib.hid hok
    obtain ⟨p0, p1, p2, p3, p4, p5, p6, p7, p8, p9, p10, p11, p12⟩ := Cs.cal hc
    have HCE := Lib.hid hc
    have HVE := Lib.hid hv
    have H4 := Lib.hid h4
    have HCR2 := Lib.hid hcr
    clear hc hv hok h4 hcr
    rcases hm : mayX (callR l) with _ | _
    · have hmc : mayX ({ calZero with client := na % 256, inc := nb, seq := nd, kind := 5, ino := m0, gen := m1, off := m2, data := l3 }) = false := by rw [← HCR2.out]; exact hm
      rw [hmc] at HMY
      have HM := Lib.hid hm
      clear hm hmc
      go_wp2_with fail
      refine HMY.out.mono ?_
      rintro e wf ⟨rfl, hb⟩
      have GF := Lib.hid (GE.out.below hb)
      clear hb p0 p1 p2 p3 p4 p5 p6 p7 p8 p9 p10 p11 p12
      go_wp2_with (first
        | ((with_reducible show wpList _ _ _ _ _ wf); refine wpList_storeS rfl 28 _ _ rfl w.heap.size rfl (calCells calZero (.slice none 0 0)) (calCells calZero (.slice none 0 0)) rfl (HGW.out.turn GF.out.2.2.1 (fun hh => by have := HSZ.out; rcases hh with hh | hh <;> omega)) rfl (cal_one rfl) infoCall ?_; intro w9 hk9 ht9; go_frame; have C9 := Lib.hid hk9; have B9 := Lib.hid ((HBW.out.trans (GF.out.2.2.1.below HBW.out.size fun k hk => by have := HSZ.out; have := HBW.out.size; rcases hk with hk | hk <;> omega)).trans (ht9.below (HBW.out.trans (GF.out.2.2.1.below HBW.out.size fun k hk => by have := HSZ.out; have := HBW.out.size; rcases hk with hk | hk <;> omega)).size fun k e => Nat.le_of_eq e.symm)); have T9 := Lib.hid ht9; clear hk9 ht9)
        | fail)
      have hx := (by rw [HRS.out, HM.out]; rfl : getX l = (calZero, 5))
      exact cal_end (cs := (calCells calZero (.slice none 0 0))) rfl rfl C9.out rfl rfl (by rw [hx]; exact ⟨_, rfl, calZ_v _ _, B9.out⟩)
    · have hmc : mayX ({ calZero with client := na % 256, inc := nb, seq := nd, kind := 5, ino := m0, gen := m1, off := m2, data := l3 }) = true := by rw [← HCR2.out]; exact hm
      rw [hmc] at HMY
      have HM := Lib.hid hm
      clear hm hmc
      go_wp2_with fail
      refine HMY.out.mono ?_
      rintro e wf ⟨rfl, hb⟩
      have GF := Lib.hid (GE.out.below hb)
      have HCF := Lib.hid (HCE.out.below hb HCE.out.lt)
      have HVF := Lib.hid (HVE.out.below hb)
      clear hb p0 p1 p2 p3 p4 p5 p6 p7 p8 p9 p10 p11 p12
      go_wp2_with (first
        | ((with_reducible show wpList _ _ _ _ _ wf); refine wpList_loadS rfl 28 _ rfl w3.heap.size rfl (calCells ({ calZero with client := na % 256, inc := nb, seq := nd, kind := 5, ino := m0, gen := m1, off := m2, data := l3 }) (.slice A1 ({ calZero with client := na % 256, inc := nb, seq := nd, kind := 5, ino := m0, gen := m1, off := m2, data := l3 }).data.length cp1)) HCF.out _ Tryd.underlying28 rfl infoCall ?_; go_frame)
        | ((with_reducible show wpList _ _ _ _ _ wf); refine wpList_storeS rfl 28 _ _ rfl w.heap.size rfl (calCells ({ calZero with client := na % 256, inc := nb, seq := nd, kind := 5, ino := m0, gen := m1, off := m2, data := l3 }) (.slice A1 ({ calZero with client := na % 256, inc := nb, seq := nd, kind := 5, ino := m0, gen := m1, off := m2, data := l3 }).data.length cp1)) (calCells calZero (.slice none 0 0)) rfl (HGW.out.turn GF.out.2.2.1 (fun hh => by have := HSZ.out; rcases hh with hh | hh <;> omega)) rfl (cal_one rfl) infoCall ?_; intro w9 hk9 ht9; go_frame; have C9 := Lib.hid hk9; have B9 := Lib.hid ((HBW.out.trans (GF.out.2.2.1.below HBW.out.size fun k hk => by have := HSZ.out; have := HBW.out.size; rcases hk with hk | hk <;> omega)).trans (ht9.below (HBW.out.trans (GF.out.2.2.1.below HBW.out.size fun k hk => by have := HSZ.out; have := HBW.out.size; rcases hk with hk | hk <;> omega)).size fun k e => Nat.le_of_eq e.symm)); have T9 := Lib.hid ht9; clear hk9 ht9)
        | fail)
      have hx : getX l = ({ calZero with client := na % 256, inc := nb, seq := nd, kind := 5, ino := m0, gen := m1, off := m2, data := l3 }, 0) := by rw [HRS.out, HM.out, HCR2.out]; rfl
      have hv9 := HVF.out.turn T9.out (fun k hk e => by have := HBW.out.size; have := HSZ.out; omega)
      exact cal_end (cs := (calCells ({ calZero with client := na % 256, inc := nb, seq := nd, kind := 5, ino := m0, gen := m1, off := m2, data := l3 }) (.slice A1 ({ calZero with client := na % 256, inc := nb, seq := nd, kind := 5, ino := m0, gen := m1, off := m2, data := l3 }).data.length cp1))) rfl rfl C9.out rfl rfl (by rw [hx]; exact ⟨_, rfl, ⟨hv9.mono fun k _ hk => Nat.le_trans HBW.out.size hk, HOK.out⟩, B9.out⟩)
  · clear hkk
    have hs : GetQ (w.heap.size + 1) w3.heap.size (· < w.heap.size) W4 s4 ({ calZero with client := na % 256, inc := nb, seq := nd, kind := 6 }) (w5.setCell ⟨w3.heap.size, 3, none⟩ (.int .u8 6)) := HS5.out.put (i := 3) HC5.out rfl HV5.out
    have H6 := Lib.hid hs
    clear hs
    go_wp2_with fail
    have hcall := NumQ H6.out.1
    have hbdm0 := numN4 s4
    generalize hnm0 : (numR s4 4).1.toNat = m0 at hcall hbdm0
    generalize hst0 : (numR s4 4).2 = t0 at hcall
    have HNm0 := Lib.hid hnm0
    have HEt0 := Lib.hid hst0
    have HBDm0 := Lib.hid hbdm0
    have hlem0 : (m0 : Int) ≤ 4294967295 := by omega
    clear hnm0 hst0 hbdm0
    refine hcall.mono ?_
    clear hcall
    rintro e x0 ⟨rfl, hq, ht⟩
    have HAt0 := Lib.hid (show t0.all = l by rw [← HEt0.out]; exact (numR_all _ _).trans HAs4.out)
    have hs := H6.out.told hq ht
    obtain ⟨v, hc, hv⟩ := hs.2.1
    have kp := hc.cell 4 rfl
    have kf := hc.frozen 4
    have k3 : x0.cell? ⟨w3.heap.size, 3, none⟩ = some (.int .u8 6) := hc.cell 3 rfl
    have hs2 : GetQ (w.heap.size + 1) w3.heap.size (· < w.heap.size) W4 t0 ({ calZero with client := na % 256, inc := nb, seq := nd, kind := 6, ino := m0 }) (x0.setCell ⟨w3.heap.size, 4, none⟩ (.int .u32 (m0 : Int))) := hs.put (i := 4) hc rfl hv
    have G0 := Lib.hid hs2
    clear hs hc hv hs2 hq ht
    go_wp2_with fail
    clear kp kf k3
    have hcall := NumQ G0.out.1
    have hbdm1 := numN4 t0
    generalize hnm1 : (numR t0 4).1.toNat = m1 at hcall hbdm1
    generalize hst1 : (numR t0 4).2 = t1 at hcall
    have HNm1 := Lib.hid hnm1
    have HEt1 := Lib.hid hst1
    have HBDm1 := Lib.hid hbdm1
    have hlem1 : (m1 : Int) ≤ 4294967295 := by omega
    clear hnm1 hst1 hbdm1
    refine hcall.mono ?_
    clear hcall
    rintro e x1 ⟨rfl, hq, ht⟩
    have HAt1 := Lib.hid (show t1.all = l by rw [← HEt1.out]; exact (numR_all _ _).trans HAt0.out)
    have hs := G0.out.told hq ht
    obtain ⟨v, hc, hv⟩ := hs.2.1
    have kp := hc.cell 5 rfl
    have kf := hc.frozen 5
    have k3 : x1.cell? ⟨w3.heap.size, 3, none⟩ = some (.int .u8 6) := hc.cell 3 rfl
    have hs2 : GetQ (w.heap.size + 1) w3.heap.size (· < w.heap.size) W4 t1 ({ calZero with client := na % 256, inc := nb, seq := nd, kind := 6, ino := m0, gen := m1 }) (x1.setCell ⟨w3.heap.size, 5, none⟩ (.int .u32 (m1 : Int))) := hs.put (i := 5) hc rfl hv
    have G1 := Lib.hid hs2
    clear hs hc hv hs2 hq ht
    go_wp2_with fail
    clear kp kf k3
    refine (End_q G1.out.1).mono ?_
    rintro e we ⟨rfl, hb⟩
    have GE := Lib.hid (G1.out.below hb)
    clear hb
    have HR := Lib.hid (show (restR l).2 = t1 by
      show (tellL 4096 (restS (kRow (kindR l))) (headRS ⟨l, 0, 0⟩)).2 = t1
      rw [HKD.out, HHD.out]
      obtain rfl := HEt0.out
      obtain rfl := HEt1.out
      rfl)
    have HCR := Lib.hid (fun (h4 : na < 4) => show callR l = { calZero with client := na % 256, inc := nb, seq := nd, kind := 6, ino := m0, gen := m1 } by
      show restC (kindR l) (headC calZero (headR l).1) (tellL 4096 (restS (kRow (kindR l))) (headRS ⟨l, 0, 0⟩)).1 = _
      rw [HKD.out, HHD.out, headR_is, HEs1.out, HEs2.out, HEs3.out, HNna.out, HNnb.out, HNnd.out, HNnk.out, Nat.mod_eq_of_lt (show na < 256 by omega)]
      obtain rfl := HNm0.out
      obtain rfl := HEt0.out
      obtain rfl := HNm1.out
      rfl)
    by_cases hend : endR t1 = 0
    case neg =>
      obtain ⟨en, hen⟩ : ∃ en, endR t1 = en := ⟨_, rfl⟩
      rw [hen] at hend ⊢
      have hne : (en != 0) = true := by simpa using hend
      have heq : (en == 0) = false := by simpa using hend
      have HEN := Lib.hid (And.intro hen hend)
      clear hen hend
      go_wp2_with (first
        | ((with_reducible show wpList _ _ _ _ _ we); refine wpList_storeS rfl 28 _ _ rfl w.heap.size rfl (calCells calZero (.slice none 0 0)) (calCells calZero (.slice none 0 0)) rfl (HGW.out.turn GE.out.2.2.1 (fun hh => by have := HSZ.out; rcases hh with hh | hh <;> omega)) rfl (cal_one rfl) infoCall ?_; intro w9 hk9 ht9; go_frame; have C9 := Lib.hid hk9; have B9 := Lib.hid ((HBW.out.trans (GE.out.2.2.1.below HBW.out.size fun k hk => by have := HSZ.out; have := HBW.out.size; rcases hk with hk | hk <;> omega)).trans (ht9.below (HBW.out.trans (GE.out.2.2.1.below HBW.out.size fun k hk => by have := HSZ.out; have := HBW.out.size; rcases hk with hk | hk <;> omega)).size fun k e => Nat.le_of_eq e.symm)); have T9 := Lib.hid ht9; clear hk9 ht9)
        | fail)
      have hx := (by rw [getX_end HNL.out (by rw [HHD.out]; exact HE0.out) (by rw [HKD.out]; rfl) (by rw [HR.out, HEN.out.1]; exact HEN.out.2), HR.out, HEN.out.1] : getX l = (calZero, en))
      exact cal_end (cs := (calCells calZero (.slice none 0 0))) rfl rfl C9.out rfl rfl (by rw [hx]; exact ⟨_, rfl, calZ_v _ _, B9.out⟩)
    rw [hend]
    have hrest := getX_rest HNL.out (by rw [HHD.out]; exact HE0.out) (by rw [HKD.out]; rfl) (by rw [HR.out]; exact hend)
    have HRS := Lib.hid hrest
    clear hrest hend
    by_cases h4 : na < 4
    case neg =>
      have g4 : 4 ≤ na := by omega
      have g4' : decide (4 ≤ (na : Int)) = true := decide_eq_true (by omega)
      have hmf : mayX (callR l) = false := mayX_client (by unfold callR; rw [(restC_head _ _ _).1, headR_is]; show 4 ≤ (numR ⟨l, 0, 0⟩ 4).1.toNat; rw [HNna.out]; exact g4)
      have HMF := Lib.hid hmf
      clear hmf
      go_wp2_with (first
        | ((with_reducible show wpList _ _ _ _ _ we); refine wpList_storeS rfl 28 _ _ rfl w.heap.size rfl (calCells calZero (.slice none 0 0)) (calCells calZero (.slice none 0 0)) rfl (HGW.out.turn GE.out.2.2.1 (fun hh => by have := HSZ.out; rcases hh with hh | hh <;> omega)) rfl (cal_one rfl) infoCall ?_; intro w9 hk9 ht9; go_frame; have C9 := Lib.hid hk9; have B9 := Lib.hid ((HBW.out.trans (GE.out.2.2.1.below HBW.out.size fun k hk => by have := HSZ.out; have := HBW.out.size; rcases hk with hk | hk <;> omega)).trans (ht9.below (HBW.out.trans (GE.out.2.2.1.below HBW.out.size fun k hk => by have := HSZ.out; have := HBW.out.size; rcases hk with hk | hk <;> omega)).size fun k e => Nat.le_of_eq e.symm)); have T9 := Lib.hid ht9; clear hk9 ht9)
        | fail)
      have hx := (by rw [HRS.out, HMF.out]; rfl : getX l = (calZero, 5))
      exact cal_end (cs := (calCells calZero (.slice none 0 0))) rfl rfl C9.out rfl rfl (by rw [hx]; exact ⟨_, rfl, calZ_v _ _, B9.out⟩)
    have g4' : decide (4 ≤ (na : Int)) = false := decide_eq_false (by omega)
    have hcr := HCR.out h4
    obtain ⟨v, hc, hv⟩ := GE.out.2.1
    obtain ⟨A1, cp1, rfl, -⟩ := id hv
    have hok : calOk ({ calZero with client := na % 256, inc := nb, seq := nd, kind := 6, ino := m0, gen := m1 }) := ⟨by show na % 256 < 256; omega, HBDnb.out, HBDnd.out, by show (6 : Nat) < 256; decide, HBDm0.out, HBDm1.out, by show (0 : Nat) < 4294967296; decide, by show (0 : Nat) < 4294967296; decide, by show (0 : Nat) < 4294967296; decide, by show (0 : Nat) < 4294967296; decide⟩
    have HMY := Lib.hid (MayR_v ⟨hv, hok⟩)
    have HOK := Lib.hid hok
    obtain ⟨p0, p1, p2, p3, p4, p5, p6, p7, p8, p9, p10, p11, p12⟩ := Cs.cal hc
    have HCE := Lib.hid hc
    have HVE := Lib.hid hv
    have H4 := Lib.hid h4
    have HCR2 := Lib.hid hcr
    clear hc hv hok h4 hcr
    rcases hm : mayX (callR l) with _ | _
    · have hmc : mayX ({ calZero with client := na % 256, inc := nb, seq := nd, kind := 6, ino := m0, gen := m1 }) = false := by rw [← HCR2.out]; exact hm
      rw [hmc] at HMY
      have HM := Lib.hid hm
      clear hm hmc
      go_wp2_with fail
      refine HMY.out.mono ?_
      rintro e wf ⟨rfl, hb⟩
      have GF := Lib.hid (GE.out.below hb)
      clear hb p0 p1 p2 p3 p4 p5 p6 p7 p8 p9 p10 p11 p12
      go_wp2_with (first
        | ((with_reducible show wpList _ _ _ _ _ wf); refine wpList_storeS rfl 28 _ _ rfl w.heap.size rfl (calCells calZero (.slice none 0 0)) (calCells calZero (.slice none 0 0)) rfl (HGW.out.turn GF.out.2.2.1 (fun hh => by have := HSZ.out; rcases hh with hh | hh <;> omega)) rfl (cal_one rfl) infoCall ?_; intro w9 hk9 ht9; go_frame; have C9 := Lib.hid hk9; have B9 := Lib.hid ((HBW.out.trans (GF.out.2.2.1.below HBW.out.size fun k hk => by have := HSZ.out; have := HBW.out.size; rcases hk with hk | hk <;> omega)).trans (ht9.below (HBW.out.trans (GF.out.2.2.1.below HBW.out.size fun k hk => by have := HSZ.out; have := HBW.out.size; rcases hk with hk | hk <;> omega)).size fun k e => Nat.le_of_eq e.symm)); have T9 := Lib.hid ht9; clear hk9 ht9)
        | fail)
      have hx := (by rw [HRS.out, HM.out]; rfl : getX l = (calZero, 5))
      exact cal_end (cs := (calCells calZero (.slice none 0 0))) rfl rfl C9.out rfl rfl (by rw [hx]; exact ⟨_, rfl, calZ_v _ _, B9.out⟩)
    · have hmc : mayX ({ calZero with client := na % 256, inc := nb, seq := nd, kind := 6, ino := m0, gen := m1 }) = true := by rw [← HCR2.out]; exact hm
      rw [hmc] at HMY
      have HM := Lib.hid hm
      clear hm hmc
      go_wp2_with fail
      refine HMY.out.mono ?_
      rintro e wf ⟨rfl, hb⟩
      have GF := Lib.hid (GE.out.below hb)
      have HCF := Lib.hid (HCE.out.below hb HCE.out.lt)
      have HVF := Lib.hid (HVE.out.below hb)
      clear hb p0 p1 p2 p3 p4 p5 p6 p7 p8 p9 p10 p11 p12
      go_wp2_with (first
        | ((with_reducible show wpList _ _ _ _ _ wf); refine wpList_loadS rfl 28 _ rfl w3.heap.size rfl (calCells ({ calZero with client := na % 256, inc := nb, seq := nd, kind := 6, ino := m0, gen := m1 }) (.slice A1 ({ calZero with client := na % 256, inc := nb, seq := nd, kind := 6, ino := m0, gen := m1 }).data.length cp1)) HCF.out _ Tryd.underlying28 rfl infoCall ?_; go_frame)
        | ((with_reducible show wpList _ _ _ _ _ wf); refine wpList_storeS rfl 28 _ _ rfl w.heap.size rfl (calCells ({ calZero with client := na % 256, inc := nb, seq := nd, kind := 6, ino := m0, gen := m1 }) (.slice A1 ({ calZero with client := na % 256, inc := nb, seq := nd, kind := 6, ino := m0, gen := m1 }).data.length cp1)) (calCells calZero (.slice none 0 0)) rfl (HGW.out.turn GF.out.2.2.1 (fun hh => by have := HSZ.out; rcases hh with hh | hh <;> omega)) rfl (cal_one rfl) infoCall ?_; intro w9 hk9 ht9; go_frame; have C9 := Lib.hid hk9; have B9 := Lib.hid ((HBW.out.trans (GF.out.2.2.1.below HBW.out.size fun k hk => by have := HSZ.out; have := HBW.out.size; rcases hk with hk | hk <;> omega)).trans (ht9.below (HBW.out.trans (GF.out.2.2.1.below HBW.out.size fun k hk => by have := HSZ.out; have := HBW.out.size; rcases hk with hk | hk <;> omega)).size fun k e => Nat.le_of_eq e.symm)); have T9 := Lib.hid ht9; clear hk9 ht9)
        | fail)
      have hx : getX l = ({ calZero with client := na % 256, inc := nb, seq := nd, kind := 6, ino := m0, gen := m1 }, 0) := by rw [HRS.out, HM.out, HCR2.out]; rfl
      have hv9 := HVF.out.turn T9.out (fun k hk e => by have := HBW.out.size; have := HSZ.out; omega)
      exact cal_end (cs := (calCells ({ calZero with client := na % 256, inc := nb, seq := nd, kind := 6, ino := m0, gen := m1 }) (.slice A1 ({ calZero with client := na % 256, inc := nb, seq := nd, kind := 6, ino := m0, gen := m1 }).data.length cp1))) rfl rfl C9.out rfl rfl (by rw [hx]; exact ⟨_, rfl, ⟨hv9.mono fun k _ hk => Nat.le_trans HBW.out.size hk, HOK.out⟩, B9.out⟩)
  · clear hkk
    have hs : GetQ (w.heap.size + 1) w3.heap.size (· < w.heap.size) W4 s4 ({ calZero with client := na % 256, inc := nb, seq := nd, kind := 7 }) (w5.setCell ⟨w3.heap.size, 3, none⟩ (.int .u8 7)) := HS5.out.put (i := 3) HC5.out rfl HV5.out
    have H6 := Lib.hid hs
    clear hs
    go_wp2_with fail
    have hcall := NumQ H6.out.1
    have hbdm0 := numN4 s4
    generalize hnm0 : (numR s4 4).1.toNat = m0 at hcall hbdm0
    generalize hst0 : (numR s4 4).2 = t0 at hcall
    have HNm0 := Lib.hid hnm0
    have HEt0 := Lib.hid hst0
    have HBDm0 := Lib.hid hbdm0
    have hlem0 : (m0 : Int) ≤ 4294967295 := by omega
    clear hnm0 hst0 hbdm0
    refine hcall.mono ?_
    clear hcall
    rintro e x0 ⟨rfl, hq, ht⟩
    have HAt0 := Lib.hid (show t0.all = l by rw [← HEt0.out]; exact (numR_all _ _).trans HAs4.out)
    have hs := H6.out.told hq ht
    obtain ⟨v, hc, hv⟩ := hs.2.1
    have kp := hc.cell 4 rfl
    have kf := hc.frozen 4
    have k3 : x0.cell? ⟨w3.heap.size, 3, none⟩ = some (.int .u8 7) := hc.cell 3 rfl
    have hs2 : GetQ (w.heap.size + 1) w3.heap.size (· < w.heap.size) W4 t0 ({ calZero with client := na % 256, inc := nb, seq := nd, kind := 7, ino := m0 }) (x0.setCell ⟨w3.heap.size, 4, none⟩ (.int .u32 (m0 : Int))) := hs.put (i := 4) hc rfl hv
    have G0 := Lib.hid hs2
    clear hs hc hv hs2 hq ht
    go_wp2_with fail
    clear kp kf k3
    have hcall := NumQ G0.out.1
    have hbdm1 := numN4 t0
    generalize hnm1 : (numR t0 4).1.toNat = m1 at hcall hbdm1
    generalize hst1 : (numR t0 4).2 = t1 at hcall
    have HNm1 := Lib.hid hnm1
    have HEt1 := Lib.hid hst1
    have HBDm1 := Lib.hid hbdm1
    have hlem1 : (m1 : Int) ≤ 4294967295 := by omega
    clear hnm1 hst1 hbdm1
    refine hcall.mono ?_
    clear hcall
    rintro e x1 ⟨rfl, hq, ht⟩
    have HAt1 := Lib.hid (show t1.all = l by rw [← HEt1.out]; exact (numR_all _ _).trans HAt0.out)
    have hs := G0.out.told hq ht
    obtain ⟨v, hc, hv⟩ := hs.2.1
    have kp := hc.cell 5 rfl
    have kf := hc.frozen 5
    have k3 : x1.cell? ⟨w3.heap.size, 3, none⟩ = some (.int .u8 7) := hc.cell 3 rfl
    have hs2 : GetQ (w.heap.size + 1) w3.heap.size (· < w.heap.size) W4 t1 ({ calZero with client := na % 256, inc := nb, seq := nd, kind := 7, ino := m0, gen := m1 }) (x1.setCell ⟨w3.heap.size, 5, none⟩ (.int .u32 (m1 : Int))) := hs.put (i := 5) hc rfl hv
    have G1 := Lib.hid hs2
    clear hs hc hv hs2 hq ht
    go_wp2_with fail
    clear kp kf k3
    have hcall := Bytes_q 4096 (by decide) (by decide) (by rw [HAt1.out]; exact HL.out) G1.out.1
    generalize hnl2 : (bytesR t1 4096).1 = l2 at hcall
    generalize hst2 : (bytesR t1 4096).2 = t2 at hcall
    have HNl2 := Lib.hid hnl2
    have HEt2 := Lib.hid hst2
    clear hnl2 hst2
    refine hcall.mono ?_
    clear hcall
    rintro e x2 ⟨vb, rfl, hvb, hq, ht⟩
    obtain ⟨Ab, cb, rfl, hrb, hAb⟩ : ∃ A c, vb = .slice A l2.length c ∧ Rd x2 A l2 ∧ BsV x2 (W4.heap.size ≤ ·) (.slice A l2.length c) l2 := by
      obtain ⟨A, c, e, hr, -⟩ := id hvb
      subst e
      exact ⟨A, c, rfl, hr.rd, hvb.mono fun k _ hk => Nat.le_trans G1.out.2.2.2.2.2 hk⟩
    have hcv := conv_rd hrb cb
    have HAt2 := Lib.hid (show t2.all = l by rw [← HEt2.out]; exact (bytesR_all10 _).trans HAt1.out)
    have hs := G1.out.told hq ht
    obtain ⟨v, hc, hv⟩ := hs.2.1
    have kp := hc.cell 6 rfl
    have kf := hc.frozen 6
    have k3 : x2.cell? ⟨w3.heap.size, 3, none⟩ = some (.int .u8 7) := hc.cell 3 rfl
    have hs2 : GetQ (w.heap.size + 1) w3.heap.size (· < w.heap.size) W4 t2 ({ calZero with client := na % 256, inc := nb, seq := nd, kind := 7, ino := m0, gen := m1, name := ⟨l2.toArray⟩ }) (x2.setCell ⟨w3.heap.size, 6, none⟩ (.string ⟨l2.toArray⟩)) := hs.put (i := 6) hc rfl hv
    have G2 := Lib.hid hs2
    clear hs hc hv hs2 hq ht hrb hAb hvb
    go_wp2_with fail
    clear kp kf k3 hcv
    refine (End_q G2.out.1).mono ?_
    rintro e we ⟨rfl, hb⟩
    have GE := Lib.hid (G2.out.below hb)
    clear hb
    have HR := Lib.hid (show (restR l).2 = t2 by
      show (tellL 4096 (restS (kRow (kindR l))) (headRS ⟨l, 0, 0⟩)).2 = t2
      rw [HKD.out, HHD.out]
      obtain rfl := HEt0.out
      obtain rfl := HEt1.out
      obtain rfl := HEt2.out
      rfl)
    have HCR := Lib.hid (fun (h4 : na < 4) => show callR l = { calZero with client := na % 256, inc := nb, seq := nd, kind := 7, ino := m0, gen := m1, name := ⟨l2.toArray⟩ } by
      show restC (kindR l) (headC calZero (headR l).1) (tellL 4096 (restS (kRow (kindR l))) (headRS ⟨l, 0, 0⟩)).1 = _
      rw [HKD.out, HHD.out, headR_is, HEs1.out, HEs2.out, HEs3.out, HNna.out, HNnb.out, HNnd.out, HNnk.out, Nat.mod_eq_of_lt (show na < 256 by omega)]
      obtain rfl := HNm0.out
      obtain rfl := HEt0.out
      obtain rfl := HNm1.out
      obtain rfl := HEt1.out
      obtain rfl := HNl2.out
      rfl)
    by_cases hend : endR t2 = 0
    case neg =>
      obtain ⟨en, hen⟩ : ∃ en, endR t2 = en := ⟨_, rfl⟩
      rw [hen] at hend ⊢
      have hne : (en != 0) = true := by simpa using hend
      have heq : (en == 0) = false := by simpa using hend
      have HEN := Lib.hid (And.intro hen hend)
      clear hen hend
      go_wp2_with (first
        | ((with_reducible show wpList _ _ _ _ _ we); refine wpList_storeS rfl 28 _ _ rfl w.heap.size rfl (calCells calZero (.slice none 0 0)) (calCells calZero (.slice none 0 0)) rfl (HGW.out.turn GE.out.2.2.1 (fun hh => by have := HSZ.out; rcases hh with hh | hh <;> omega)) rfl (cal_one rfl) infoCall ?_; intro w9 hk9 ht9; go_frame; have C9 := Lib.hid hk9; have B9 := Lib.hid ((HBW.out.trans (GE.out.2.2.1.below HBW.out.size fun k hk => by have := HSZ.out; have := HBW.out.size; rcases hk with hk | hk <;> omega)).trans (ht9.below (HBW.out.trans (GE.out.2.2.1.below HBW.out.size fun k hk => by have := HSZ.out; have := HBW.out.size; rcases hk with hk | hk <;> omega)).size fun k e => Nat.le_of_eq e.symm)); have T9 := Lib.hid ht9; clear hk9 ht9)
        | fail)
      have hx := (by rw [getX_end HNL.out (by rw [HHD.out]; exact HE0.out) (by rw [HKD.out]; rfl) (by rw [HR.out, HEN.out.1]; exact HEN.out.2), HR.out, HEN.out.1] : getX l = (calZero, en))
      exact cal_end (cs := (calCells calZero (.slice none 0 0))) rfl rfl C9.out rfl rfl (by rw [hx]; exact ⟨_, rfl, calZ_v _ _, B9.out⟩)
    rw [hend]
    have hrest := getX_rest HNL.out (by rw [HHD.out]; exact HE0.out) (by rw [HKD.out]; rfl) (by rw [HR.out]; exact hend)
    have HRS := Lib.hid hrest
    clear hrest hend
    by_cases h4 : na < 4
    case neg =>
      have g4 : 4 ≤ na := by omega
      have g4' : decide (4 ≤ (na : Int)) = true := decide_eq_true (by omega)
      have hmf : mayX (callR l) = false := mayX_client (by unfold callR; rw [(restC_head _ _ _).1, headR_is]; show 4 ≤ (numR ⟨l, 0, 0⟩ 4).1.toNat; rw [HNna.out]; exact g4)
      have HMF := Lib.hid hmf
      clear hmf
      go_wp2_with (first
        | ((with_reducible show wpList _ _ _ _ _ we); refine wpList_storeS rfl 28 _ _ rfl w.heap.size rfl (calCells calZero (.slice none 0 0)) (calCells calZero (.slice none 0 0)) rfl (HGW.out.turn GE.out.2.2.1 (fun hh => by have := HSZ.out; rcases hh with hh | hh <;> omega)) rfl (cal_one rfl) infoCall ?_; intro w9 hk9 ht9; go_frame; have C9 := Lib.hid hk9; have B9 := Lib.hid ((HBW.out.trans (GE.out.2.2.1.below HBW.out.size fun k hk => by have := HSZ.out; have := HBW.out.size; rcases hk with hk | hk <;> omega)).trans (ht9.below (HBW.out.trans (GE.out.2.2.1.below HBW.out.size fun k hk => by have := HSZ.out; have := HBW.out.size; rcases hk with hk | hk <;> omega)).size fun k e => Nat.le_of_eq e.symm)); have T9 := Lib.hid ht9; clear hk9 ht9)
        | fail)
      have hx := (by rw [HRS.out, HMF.out]; rfl : getX l = (calZero, 5))
      exact cal_end (cs := (calCells calZero (.slice none 0 0))) rfl rfl C9.out rfl rfl (by rw [hx]; exact ⟨_, rfl, calZ_v _ _, B9.out⟩)
    have g4' : decide (4 ≤ (na : Int)) = false := decide_eq_false (by omega)
    have hcr := HCR.out h4
    obtain ⟨v, hc, hv⟩ := GE.out.2.1
    obtain ⟨A1, cp1, rfl, -⟩ := id hv
    have hok : calOk ({ calZero with client := na % 256, inc := nb, seq := nd, kind := 7, ino := m0, gen := m1, name := ⟨l2.toArray⟩ }) := ⟨by show na % 256 < 256; omega, HBDnb.out, HBDnd.out, by show (7 : Nat) < 256; decide, HBDm0.out, HBDm1.out, by show (0 : Nat) < 4294967296; decide, by show (0 : Nat) < 4294967296; decide, by show (0 : Nat) < 4294967296; decide, by show (0 : Nat) < 4294967296; decide⟩
    have HMY := Lib.hid (MayR_v ⟨hv, hok⟩)
    have HOK := Lib.hid hok
    obtain ⟨p0, p1, p2, p3, p4, p5, p6, p7, p8, p9, p10, p11, p12⟩ := Cs.cal hc
    have HCE := Lib.hid hc
    have HVE := Lib.hid hv
    have H4 := Lib.hid h4
    have HCR2 := Lib.hid hcr
    clear hc hv hok h4 hcr
    rcases hm : mayX (callR l) with _ | _
    · have hmc : mayX ({ calZero with client := na % 256, inc := nb, seq := nd, kind := 7, ino := m0, gen := m1, name := ⟨l2.toArray⟩ }) = false := by rw [← HCR2.out]; exact hm
      rw [hmc] at HMY
      have HM := Lib.hid hm
      clear hm hmc
      go_wp2_with fail
      refine HMY.out.mono ?_
      rintro e wf ⟨rfl, hb⟩
      have GF := Lib.hid (GE.out.below hb)
      clear hb p0 p1 p2 p3 p4 p5 p6 p7 p8 p9 p10 p11 p12
      go_wp2_with (first
        | ((with_reducible show wpList _ _ _ _ _ wf); refine wpList_storeS rfl 28 _ _ rfl w.heap.size rfl (calCells calZero (.slice none 0 0)) (calCells calZero (.slice none 0 0)) rfl (HGW.out.turn GF.out.2.2.1 (fun hh => by have := HSZ.out; rcases hh with hh | hh <;> omega)) rfl (cal_one rfl) infoCall ?_; intro w9 hk9 ht9; go_frame; have C9 := Lib.hid hk9; have B9 := Lib.hid ((HBW.out.trans (GF.out.2.2.1.below HBW.out.size fun k hk => by have := HSZ.out; have := HBW.out.size; rcases hk with hk | hk <;> omega)).trans (ht9.below (HBW.out.trans (GF.out.2.2.1.below HBW.out.size fun k hk => by have := HSZ.out; have := HBW.out.size; rcases hk with hk | hk <;> omega)).size fun k e => Nat.le_of_eq e.symm)); have T9 := Lib.hid ht9; clear hk9 ht9)
        | fail)
      have hx := (by rw [HRS.out, HM.out]; rfl : getX l = (calZero, 5))
      exact cal_end (cs := (calCells calZero (.slice none 0 0))) rfl rfl C9.out rfl rfl (by rw [hx]; exact ⟨_, rfl, calZ_v _ _, B9.out⟩)
    · have hmc : mayX ({ calZero with client := na % 256, inc := nb, seq := nd, kind := 7, ino := m0, gen := m1, name := ⟨l2.toArray⟩ }) = true := by rw [← HCR2.out]; exact hm
      rw [hmc] at HMY
      have HM := Lib.hid hm
      clear hm hmc
      go_wp2_with fail
      refine HMY.out.mono ?_
      rintro e wf ⟨rfl, hb⟩
      have GF := Lib.hid (GE.out.below hb)
      have HCF := Lib.hid (HCE.out.below hb HCE.out.lt)
      have HVF := Lib.hid (HVE.out.below hb)
      clear hb p0 p1 p2 p3 p4 p5 p6 p7 p8 p9 p10 p11 p12
      go_wp2_with (first
        | ((with_reducible show wpList _ _ _ _ _ wf); refine wpList_loadS rfl 28 _ rfl w3.heap.size rfl (calCells ({ calZero with client := na % 256, inc := nb, seq := nd, kind := 7, ino := m0, gen := m1, name := ⟨l2.toArray⟩ }) (.slice A1 ({ calZero with client := na % 256, inc := nb, seq := nd, kind := 7, ino := m0, gen := m1, name := ⟨l2.toArray⟩ }).data.length cp1)) HCF.out _ Tryd.underlying28 rfl infoCall ?_; go_frame)
        | ((with_reducible show wpList _ _ _ _ _ wf); refine wpList_storeS rfl 28 _ _ rfl w.heap.size rfl (calCells ({ calZero with client := na % 256, inc := nb, seq := nd, kind := 7, ino := m0, gen := m1, name := ⟨l2.toArray⟩ }) (.slice A1 ({ calZero with client := na % 256, inc := nb, seq := nd, kind := 7, ino := m0, gen := m1, name := ⟨l2.toArray⟩ }).data.length cp1)) (calCells calZero (.slice none 0 0)) rfl (HGW.out.turn GF.out.2.2.1 (fun hh => by have := HSZ.out; rcases hh with hh | hh <;> omega)) rfl (cal_one rfl) infoCall ?_; intro w9 hk9 ht9; go_frame; have C9 := Lib.hid hk9; have B9 := Lib.hid ((HBW.out.trans (GF.out.2.2.1.below HBW.out.size fun k hk => by have := HSZ.out; have := HBW.out.size; rcases hk with hk | hk <;> omega)).trans (ht9.below (HBW.out.trans (GF.out.2.2.1.below HBW.out.size fun k hk => by have := HSZ.out; have := HBW.out.size; rcases hk with hk | hk <;> omega)).size fun k e => Nat.le_of_eq e.symm)); have T9 := Lib.hid ht9; clear hk9 ht9)
        | fail)
      have hx : getX l = ({ calZero with client := na % 256, inc := nb, seq := nd, kind := 7, ino := m0, gen := m1, name := ⟨l2.toArray⟩ }, 0) := by rw [HRS.out, HM.out, HCR2.out]; rfl
      have hv9 := HVF.out.turn T9.out (fun k hk e => by have := HBW.out.size; have := HSZ.out; omega)
      exact cal_end (cs := (calCells ({ calZero with client := na % 256, inc := nb, seq := nd, kind := 7, ino := m0, gen := m1, name := ⟨l2.toArray⟩ }) (.slice A1 ({ calZero with client := na % 256, inc := nb, seq := nd, kind := 7, ino := m0, gen := m1, name := ⟨l2.toArray⟩ }).data.length cp1))) rfl rfl C9.out rfl rfl (by rw [hx]; exact ⟨_, rfl, ⟨hv9.mono fun k _ hk => Nat.le_trans HBW.out.size hk, HOK.out⟩, B9.out⟩)
  · clear hkk
    have hs : GetQ (w.heap.size + 1) w3.heap.size (· < w.heap.size) W4 s4 ({ calZero with client := na % 256, inc := nb, seq := nd, kind := 8 }) (w5.setCell ⟨w3.heap.size, 3, none⟩ (.int .u8 8)) := HS5.out.put (i := 3) HC5.out rfl HV5.out
    have H6 := Lib.hid hs
    clear hs
    go_wp2_with fail
    have hcall := NumQ H6.out.1
    have hbdm0 := numN4 s4
    generalize hnm0 : (numR s4 4).1.toNat = m0 at hcall hbdm0
    generalize hst0 : (numR s4 4).2 = t0 at hcall
    have HNm0 := Lib.hid hnm0
    have HEt0 := Lib.hid hst0
    have HBDm0 := Lib.hid hbdm0
    have hlem0 : (m0 : Int) ≤ 4294967295 := by omega
    clear hnm0 hst0 hbdm0
    refine hcall.mono ?_
    clear hcall
    rintro e x0 ⟨rfl, hq, ht⟩
    have HAt0 := Lib.hid (show t0.all = l by rw [← HEt0.out]; exact (numR_all _ _).trans HAs4.out)
    have hs := H6.out.told hq ht
    obtain ⟨v, hc, hv⟩ := hs.2.1
    have kp := hc.cell 4 rfl
    have kf := hc.frozen 4
    have k3 : x0.cell? ⟨w3.heap.size, 3, none⟩ = some (.int .u8 8) := hc.cell 3 rfl
    have hs2 : GetQ (w.heap.size + 1) w3.heap.size (· < w.heap.size) W4 t0 ({ calZero with client := na % 256, inc := nb, seq := nd, kind := 8, ino := m0 }) (x0.setCell ⟨w3.heap.size, 4, none⟩ (.int .u32 (m0 : Int))) := hs.put (i := 4) hc rfl hv
    have G0 := Lib.hid hs2
    clear hs hc hv hs2 hq ht
    go_wp2_with fail
    clear kp kf k3
    have hcall := NumQ G0.out.1
    have hbdm1 := numN4 t0
    generalize hnm1 : (numR t0 4).1.toNat = m1 at hcall hbdm1
    generalize hst1 : (numR t0 4).2 = t1 at hcall
    have HNm1 := Lib.hid hnm1
    have HEt1 := Lib.hid hst1
    have HBDm1 := Lib.hid hbdm1
    have hlem1 : (m1 : Int) ≤ 4294967295 := by omega
    clear hnm1 hst1 hbdm1
    refine hcall.mono ?_
    clear hcall
    rintro e x1 ⟨rfl, hq, ht⟩
    have HAt1 := Lib.hid (show t1.all = l by rw [← HEt1.out]; exact (numR_all _ _).trans HAt0.out)
    have hs := G0.out.told hq ht
    obtain ⟨v, hc, hv⟩ := hs.2.1
    have kp := hc.cell 5 rfl
    have kf := hc.frozen 5
    have k3 : x1.cell? ⟨w3.heap.size, 3, none⟩ = some (.int .u8 8) := hc.cell 3 rfl
    have hs2 : GetQ (w.heap.size + 1) w3.heap.size (· < w.heap.size) W4 t1 ({ calZero with client := na % 256, inc := nb, seq := nd, kind := 8, ino := m0, gen := m1 }) (x1.setCell ⟨w3.heap.size, 5, none⟩ (.int .u32 (m1 : Int))) := hs.put (i := 5) hc rfl hv
    have G1 := Lib.hid hs2
    clear hs hc hv hs2 hq ht
    go_wp2_with fail
    clear kp kf k3
    have hcall := Bytes_q 4096 (by decide) (by decide) (by rw [HAt1.out]; exact HL.out) G1.out.1
    generalize hnl2 : (bytesR t1 4096).1 = l2 at hcall
    generalize hst2 : (bytesR t1 4096).2 = t2 at hcall
    have HNl2 := Lib.hid hnl2
    have HEt2 := Lib.hid hst2
    clear hnl2 hst2
    refine hcall.mono ?_
    clear hcall
    rintro e x2 ⟨vb, rfl, hvb, hq, ht⟩
    obtain ⟨Ab, cb, rfl, hrb, hAb⟩ : ∃ A c, vb = .slice A l2.length c ∧ Rd x2 A l2 ∧ BsV x2 (W4.heap.size ≤ ·) (.slice A l2.length c) l2 := by
      obtain ⟨A, c, e, hr, -⟩ := id hvb
      subst e
      exact ⟨A, c, rfl, hr.rd, hvb.mono fun k _ hk => Nat.le_trans G1.out.2.2.2.2.2 hk⟩
    have hcv := conv_rd hrb cb
    have HAt2 := Lib.hid (show t2.all = l by rw [← HEt2.out]; exact (bytesR_all10 _).trans HAt1.out)
    have hs := G1.out.told hq ht
    obtain ⟨v, hc, hv⟩ := hs.2.1
    have kp := hc.cell 6 rfl
    have kf := hc.frozen 6
    have k3 : x2.cell? ⟨w3.heap.size, 3, none⟩ = some (.int .u8 8) := hc.cell 3 rfl
    have hs2 : GetQ (w.heap.size + 1) w3.heap.size (· < w.heap.size) W4 t2 ({ calZero with client := na % 256, inc := nb, seq := nd, kind := 8, ino := m0, gen := m1, name := ⟨l2.toArray⟩ }) (x2.setCell ⟨w3.heap.size, 6, none⟩ (.string ⟨l2.toArray⟩)) := hs.put (i := 6) hc rfl hv
    have G2 := Lib.hid hs2
    clear hs hc hv hs2 hq ht hrb hAb hvb
    go_wp2_with fail
    clear kp kf k3 hcv
    refine (End_q G2.out.1).mono ?_
    rintro e we ⟨rfl, hb⟩
    have GE := Lib.hid (G2.out.below hb)
    clear hb
    have HR := Lib.hid (show (restR l).2 = t2 by
      show (tellL 4096 (restS (kRow (kindR l))) (headRS ⟨l, 0, 0⟩)).2 = t2
      rw [HKD.out, HHD.out]
      obtain rfl := HEt0.out
      obtain rfl := HEt1.out
      obtain rfl := HEt2.out
      rfl)
    have HCR := Lib.hid (fun (h4 : na < 4) => show callR l = { calZero with client := na % 256, inc := nb, seq := nd, kind := 8, ino := m0, gen := m1, name := ⟨l2.toArray⟩ } by
      show restC (kindR l) (headC calZero (headR l).1) (tellL 4096 (restS (kRow (kindR l))) (headRS ⟨l, 0, 0⟩)).1 = _
      rw [HKD.out, HHD.out, headR_is, HEs1.out, HEs2.out, HEs3.out, HNna.out, HNnb.out, HNnd.out, HNnk.out, Nat.mod_eq_of_lt (show na < 256 by omega)]
      obtain rfl := HNm0.out
      obtain rfl := HEt0.out
      obtain rfl := HNm1.out
      obtain rfl := HEt1.out
      obtain rfl := HNl2.out
      rfl)
    by_cases hend : endR t2 = 0
    case neg =>
      obtain ⟨en, hen⟩ : ∃ en, endR t2 = en := ⟨_, rfl⟩
      rw [hen] at hend ⊢
      have hne : (en != 0) = true := by simpa using hend
      have heq : (en == 0) = false := by simpa using hend
      have HEN := Lib.hid (And.intro hen hend)
      clear hen hend
      go_wp2_with (first
        | ((with_reducible show wpList _ _ _ _ _ we); refine wpList_storeS rfl 28 _ _ rfl w.heap.size rfl (calCells calZero (.slice none 0 0)) (calCells calZero (.slice none 0 0)) rfl (HGW.out.turn GE.out.2.2.1 (fun hh => by have := HSZ.out; rcases hh with hh | hh <;> omega)) rfl (cal_one rfl) infoCall ?_; intro w9 hk9 ht9; go_frame; have C9 := Lib.hid hk9; have B9 := Lib.hid ((HBW.out.trans (GE.out.2.2.1.below HBW.out.size fun k hk => by have := HSZ.out; have := HBW.out.size; rcases hk with hk | hk <;> omega)).trans (ht9.below (HBW.out.trans (GE.out.2.2.1.below HBW.out.size fun k hk => by have := HSZ.out; have := HBW.out.size; rcases hk with hk | hk <;> omega)).size fun k e => Nat.le_of_eq e.symm)); have T9 := Lib.hid ht9; clear hk9 ht9)
        | fail)
      have hx := (by rw [getX_end HNL.out (by rw [HHD.out]; exact HE0.out) (by rw [HKD.out]; rfl) (by rw [HR.out, HEN.out.1]; exact HEN.out.2), HR.out, HEN.out.1] : getX l = (calZero, en))
      exact cal_end (cs := (calCells calZero (.slice none 0 0))) rfl rfl C9.out rfl rfl (by rw [hx]; exact ⟨_, rfl, calZ_v _ _, B9.out⟩)
    rw [hend]
    have hrest := getX_rest HNL.out (by rw [HHD.out]; exact HE0.out) (by rw [HKD.out]; rfl) (by rw [HR.out]; exact hend)
    have HRS := Lib.hid hrest
    clear hrest hend
    by_cases h4 : na < 4
    case neg =>
      have g4 : 4 ≤ na := by omega
      have g4' : decide (4 ≤ (na : Int)) = true := decide_eq_true (by omega)
      have hmf : mayX (callR l) = false := mayX_client (by unfold callR; rw [(restC_head _ _ _).1, headR_is]; show 4 ≤ (numR ⟨l, 0, 0⟩ 4).1.toNat; rw [HNna.out]; exact g4)
      have HMF := Lib.hid hmf
      clear hmf
      go_wp2_with (first
        | ((with_reducible show wpList _ _ _ _ _ we); refine wpList_storeS rfl 28 _ _ rfl w.heap.size rfl (calCells calZero (.slice none 0 0)) (calCells calZero (.slice none 0 0)) rfl (HGW.out.turn GE.out.2.2.1 (fun hh => by have := HSZ.out; rcases hh with hh | hh <;> omega)) rfl (cal_one rfl) infoCall ?_; intro w9 hk9 ht9; go_frame; have C9 := Lib.hid hk9; have B9 := Lib.hid ((HBW.out.trans (GE.out.2.2.1.below HBW.out.size fun k hk => by have := HSZ.out; have := HBW.out.size; rcases hk with hk | hk <;> omega)).trans (ht9.below (HBW.out.trans (GE.out.2.2.1.below HBW.out.size fun k hk => by have := HSZ.out; have := HBW.out.size; rcases hk with hk | hk <;> omega)).size fun k e => Nat.le_of_eq e.symm)); have T9 := Lib.hid ht9; clear hk9 ht9)
        | fail)
      have hx := (by rw [HRS.out, HMF.out]; rfl : getX l = (calZero, 5))
      exact cal_end (cs := (calCells calZero (.slice none 0 0))) rfl rfl C9.out rfl rfl (by rw [hx]; exact ⟨_, rfl, calZ_v _ _, B9.out⟩)
    have g4' : decide (4 ≤ (na : Int)) = false := decide_eq_false (by omega)
    have hcr := HCR.out h4
    obtain ⟨v, hc, hv⟩ := GE.out.2.1
    obtain ⟨A1, cp1, rfl, -⟩ := id hv
    have hok : calOk ({ calZero with client := na % 256, inc := nb, seq := nd, kind := 8, ino := m0, gen := m1, name := ⟨l2.toArray⟩ }) := ⟨by show na % 256 < 256; omega, HBDnb.out, HBDnd.out, by show (8 : Nat) < 256; decide, HBDm0.out, HBDm1.out, by show (0 : Nat) < 4294967296; decide, by show (0 : Nat) < 4294967296; decide, by show (0 : Nat) < 4294967296; decide, by show (0 : Nat) < 4294967296; decide⟩
    have HMY := Lib.hid (MayR_v ⟨hv, hok⟩)
    have HOK := Lib.hid hok
    obtain ⟨p0, p1, p2, p3, p4, p5, p6, p7, p8, p9, p10, p11, p12⟩ := Cs.cal hc
    have HCE := Lib.hid hc
    have HVE := Lib.hid hv
    have H4 := Lib.hid h4
    have HCR2 := Lib.hid hcr
    clear hc hv hok h4 hcr
    rcases hm : mayX (callR l) with _ | _
    · have hmc : mayX ({ calZero with client := na % 256, inc := nb, seq := nd, kind := 8, ino := m0, gen := m1, name := ⟨l2.toArray⟩ }) = false := by rw [← HCR2.out]; exact hm
      rw [hmc] at HMY
      have HM := Lib.hid hm
      clear hm hmc
      go_wp2_with fail
      refine HMY.out.mono ?_
      rintro e wf ⟨rfl, hb⟩
      have GF := Lib.hid (GE.out.below hb)
      clear hb p0 p1 p2 p3 p4 p5 p6 p7 p8 p9 p10 p11 p12
      go_wp2_with (first
        | ((with_reducible show wpList _ _ _ _ _ wf); refine wpList_storeS rfl 28 _ _ rfl w.heap.size rfl (calCells calZero (.slice none 0 0)) (calCells calZero (.slice none 0 0)) rfl (HGW.out.turn GF.out.2.2.1 (fun hh => by have := HSZ.out; rcases hh with hh | hh <;> omega)) rfl (cal_one rfl) infoCall ?_; intro w9 hk9 ht9; go_frame; have C9 := Lib.hid hk9; have B9 := Lib.hid ((HBW.out.trans (GF.out.2.2.1.below HBW.out.size fun k hk => by have := HSZ.out; have := HBW.out.size; rcases hk with hk | hk <;> omega)).trans (ht9.below (HBW.out.trans (GF.out.2.2.1.below HBW.out.size fun k hk => by have := HSZ.out; have := HBW.out.size; rcases hk with hk | hk <;> omega)).size fun k e => Nat.le_of_eq e.symm)); have T9 := Lib.hid ht9; clear hk9 ht9)
        | fail)
      have hx := (by rw [HRS.out, HM.out]; rfl : getX l = (calZero, 5))
      exact cal_end (cs := (calCells calZero (.slice none 0 0))) rfl rfl C9.out rfl rfl (by rw [hx]; exact ⟨_, rfl, calZ_v _ _, B9.out⟩)
    · have hmc : mayX ({ calZero with client := na % 256, inc := nb, seq := nd, kind := 8, ino := m0, gen := m1, name := ⟨l2.toArray⟩ }) = true := by rw [← HCR2.out]; exact hm
      rw [hmc] at HMY
      have HM := Lib.hid hm
      clear hm hmc
      go_wp2_with fail
      refine HMY.out.mono ?_
      rintro e wf ⟨rfl, hb⟩
      have GF := Lib.hid (GE.out.below hb)
      have HCF := Lib.hid (HCE.out.below hb HCE.out.lt)
      have HVF := Lib.hid (HVE.out.below hb)
      clear hb p0 p1 p2 p3 p4 p5 p6 p7 p8 p9 p10 p11 p12
      go_wp2_with (first
        | ((with_reducible show wpList _ _ _ _ _ wf); refine wpList_loadS rfl 28 _ rfl w3.heap.size rfl (calCells ({ calZero with client := na % 256, inc := nb, seq := nd, kind := 8, ino := m0, gen := m1, name := ⟨l2.toArray⟩ }) (.slice A1 ({ calZero with client := na % 256, inc := nb, seq := nd, kind := 8, ino := m0, gen := m1, name := ⟨l2.toArray⟩ }).data.length cp1)) HCF.out _ Tryd.underlying28 rfl infoCall ?_; go_frame)
        | ((with_reducible show wpList _ _ _ _ _ wf); refine wpList_storeS rfl 28 _ _ rfl w.heap.size rfl (calCells ({ calZero with client := na % 256, inc := nb, seq := nd, kind := 8, ino := m0, gen := m1, name := ⟨l2.toArray⟩ }) (.slice A1 ({ calZero with client := na % 256, inc := nb, seq := nd, kind := 8, ino := m0, gen := m1, name := ⟨l2.toArray⟩ }).data.length cp1)) (calCells calZero (.slice none 0 0)) rfl (HGW.out.turn GF.out.2.2.1 (fun hh => by have := HSZ.out; rcases hh with hh | hh <;> omega)) rfl (cal_one rfl) infoCall ?_; intro w9 hk9 ht9; go_frame; have C9 := Lib.hid hk9; have B9 := Lib.hid ((HBW.out.trans (GF.out.2.2.1.below HBW.out.size fun k hk => by have := HSZ.out; have := HBW.out.size; rcases hk with hk | hk <;> omega)).trans (ht9.below (HBW.out.trans (GF.out.2.2.1.below HBW.out.size fun k hk => by have := HSZ.out; have := HBW.out.size; rcases hk with hk | hk <;> omega)).size fun k e => Nat.le_of_eq e.symm)); have T9 := Lib.hid ht9; clear hk9 ht9)
        | fail)
      have hx : getX l = ({ calZero with client := na % 256, inc := nb, seq := nd, kind := 8, ino := m0, gen := m1, name := ⟨l2.toArray⟩ }, 0) := by rw [HRS.out, HM.out, HCR2.out]; rfl
      have hv9 := HVF.out.turn T9.out (fun k hk e => by have := HBW.out.size; have := HSZ.out; omega)
      exact cal_end (cs := (calCells ({ calZero with client := na % 256, inc := nb, seq := nd, kind := 8, ino := m0, gen := m1, name := ⟨l2.toArray⟩ }) (.slice A1 ({ calZero with client := na % 256, inc := nb, seq := nd, kind := 8, ino := m0, gen := m1, name := ⟨l2.toArray⟩ }).data.length cp1))) rfl rfl C9.out rfl rfl (by rw [hx]; exact ⟨_, rfl, ⟨hv9.mono fun k _ hk => Nat.le_trans HBW.out.size hk, HOK.out⟩, B9.out⟩)
  · clear hkk
    have hs : GetQ (w.heap.size + 1) w3.heap.size (· < w.heap.size) W4 s4 ({ calZero with client := na % 256, inc := nb, seq := nd, kind := 9 }) (w5.setCell ⟨w3.heap.size, 3, none⟩ (.int .u8 9)) := HS5.out.put (i := 3) HC5.out rfl HV5.out
    have H6 := Lib.hid hs
    clear hs
    go_wp2_with fail
    have hcall := NumQ H6.out.1
    have hbdm0 := numN4 s4
    generalize hnm0 : (numR s4 4).1.toNat = m0 at hcall hbdm0
    generalize hst0 : (numR s4 4).2 = t0 at hcall
    have HNm0 := Lib.hid hnm0
    have HEt0 := Lib.hid hst0
    have HBDm0 := Lib.hid hbdm0
    have hlem0 : (m0 : Int) ≤ 4294967295 := by omega
    clear hnm0 hst0 hbdm0
    refine hcall.mono ?_
    clear hcall
    rintro e x0 ⟨rfl, hq, ht⟩
    have HAt0 := Lib.hid (show t0.all = l by rw [← HEt0.out]; exact (numR_all _ _).trans HAs4.out)
    have hs := H6.out.told hq ht
    obtain ⟨v, hc, hv⟩ := hs.2.1
    have kp := hc.cell 4 rfl
    have kf := hc.frozen 4
    have k3 : x0.cell? ⟨w3.heap.size, 3, none⟩ = some (.int .u8 9) := hc.cell 3 rfl
    have hs2 : GetQ (w.heap.size + 1) w3.heap.size (· < w.heap.size) W4 t0 ({ calZero with client := na % 256, inc := nb, seq := nd, kind := 9, ino := m0 }) (x0.setCell ⟨w3.heap.size, 4, none⟩ (.int .u32 (m0 : Int))) := hs.put (i := 4) hc rfl hv
    have G0 := Lib.hid hs2
    clear hs hc hv hs2 hq ht
    go_wp2_with fail
    clear kp kf k3
    have hcall := NumQ G0.out.1
    have hbdm1 := numN4 t0
    generalize hnm1 : (numR t0 4).1.toNat = m1 at hcall hbdm1
    generalize hst1 : (numR t0 4).2 = t1 at hcall
    have HNm1 := Lib.hid hnm1
    have HEt1 := Lib.hid hst1
    have HBDm1 := Lib.hid hbdm1
    have hlem1 : (m1 : Int) ≤ 4294967295 := by omega
    clear hnm1 hst1 hbdm1
    refine hcall.mono ?_
    clear hcall
    rintro e x1 ⟨rfl, hq, ht⟩
    have HAt1 := Lib.hid (show t1.all = l by rw [← HEt1.out]; exact (numR_all _ _).trans HAt0.out)
    have hs := G0.out.told hq ht
    obtain ⟨v, hc, hv⟩ := hs.2.1
    have kp := hc.cell 5 rfl
    have kf := hc.frozen 5
    have k3 : x1.cell? ⟨w3.heap.size, 3, none⟩ = some (.int .u8 9) := hc.cell 3 rfl
    have hs2 : GetQ (w.heap.size + 1) w3.heap.size (· < w.heap.size) W4 t1 ({ calZero with client := na % 256, inc := nb, seq := nd, kind := 9, ino := m0, gen := m1 }) (x1.setCell ⟨w3.heap.size, 5, none⟩ (.int .u32 (m1 : Int))) := hs.put (i := 5) hc rfl hv
    have G1 := Lib.hid hs2
    clear hs hc hv hs2 hq ht
    go_wp2_with fail
    clear kp kf k3
    have hcall := Bytes_q 4096 (by decide) (by decide) (by rw [HAt1.out]; exact HL.out) G1.out.1
    generalize hnl2 : (bytesR t1 4096).1 = l2 at hcall
    generalize hst2 : (bytesR t1 4096).2 = t2 at hcall
    have HNl2 := Lib.hid hnl2
    have HEt2 := Lib.hid hst2
    clear hnl2 hst2
    refine hcall.mono ?_
    clear hcall
    rintro e x2 ⟨vb, rfl, hvb, hq, ht⟩
    obtain ⟨Ab, cb, rfl, hrb, hAb⟩ : ∃ A c, vb = .slice A l2.length c ∧ Rd x2 A l2 ∧ BsV x2 (W4.heap.size ≤ ·) (.slice A l2.length c) l2 := by
      obtain ⟨A, c, e, hr, -⟩ := id hvb
      subst e
      exact ⟨A, c, rfl, hr.rd, hvb.mono fun k _ hk => Nat.le_trans G1.out.2.2.2.2.2 hk⟩
    have hcv := conv_rd hrb cb
    have HAt2 := Lib.hid (show t2.all = l by rw [← HEt2.out]; exact (bytesR_all10 _).trans HAt1.out)
    have hs := G1.out.told hq ht
    obtain ⟨v, hc, hv⟩ := hs.2.1
    have kp := hc.cell 6 rfl
    have kf := hc.frozen 6
    have k3 : x2.cell? ⟨w3.heap.size, 3, none⟩ = some (.int .u8 9) := hc.cell 3 rfl
    have hs2 : GetQ (w.heap.size + 1) w3.heap.size (· < w.heap.size) W4 t2 ({ calZero with client := na % 256, inc := nb, seq := nd, kind := 9, ino := m0, gen := m1, name := ⟨l2.toArray⟩ }) (x2.setCell ⟨w3.heap.size, 6, none⟩ (.string ⟨l2.toArray⟩)) := hs.put (i := 6) hc rfl hv
    have G2 := Lib.hid hs2
    clear hs hc hv hs2 hq ht hrb hAb hvb
    go_wp2_with fail
    clear kp kf k3 hcv
    refine (End_q G2.out.1).mono ?_
    rintro e we ⟨rfl, hb⟩
    have GE := Lib.hid (G2.out.below hb)
    clear hb
    have HR := Lib.hid (show (restR l).2 = t2 by
      show (tellL 4096 (restS (kRow (kindR l))) (headRS ⟨l, 0, 0⟩)).2 = t2
      rw [HKD.out, HHD.out]
      obtain rfl := HEt0.out
      obtain rfl := HEt1.out
      obtain rfl := HEt2.out
      rfl)
    have HCR := Lib.hid (fun (h4 : na < 4) => show callR l = { calZero with client := na % 256, inc := nb, seq := nd, kind := 9, ino := m0, gen := m1, name := ⟨l2.toArray⟩ } by
      show restC (kindR l) (headC calZero (headR l).1) (tellL 4096 (restS (kRow (kindR l))) (headRS ⟨l, 0, 0⟩)).1 = _
      rw [HKD.out, HHD.out, headR_is, HEs1.out, HEs2.out, HEs3.out, HNna.out, HNnb.out, HNnd.out, HNnk.out, Nat.mod_eq_of_lt (show na < 256 by omega)]
      obtain rfl := HNm0.out
      obtain rfl := HEt0.out
      obtain rfl := HNm1.out
      obtain rfl := HEt1.out
      obtain rfl := HNl2.out
      rfl)
    by_cases hend : endR t2 = 0
    case neg =>
      obtain ⟨en, hen⟩ : ∃ en, endR t2 = en := ⟨_, rfl⟩
      rw [hen] at hend ⊢
      have hne : (en != 0) = true := by simpa using hend
      have heq : (en == 0) = false := by simpa using hend
      have HEN := Lib.hid (And.intro hen hend)
      clear hen hend
      go_wp2_with (first
        | ((with_reducible show wpList _ _ _ _ _ we); refine wpList_storeS rfl 28 _ _ rfl w.heap.size rfl (calCells calZero (.slice none 0 0)) (calCells calZero (.slice none 0 0)) rfl (HGW.out.turn GE.out.2.2.1 (fun hh => by have := HSZ.out; rcases hh with hh | hh <;> omega)) rfl (cal_one rfl) infoCall ?_; intro w9 hk9 ht9; go_frame; have C9 := Lib.hid hk9; have B9 := Lib.hid ((HBW.out.trans (GE.out.2.2.1.below HBW.out.size fun k hk => by have := HSZ.out; have := HBW.out.size; rcases hk with hk | hk <;> omega)).trans (ht9.below (HBW.out.trans (GE.out.2.2.1.below HBW.out.size fun k hk => by have := HSZ.out; have := HBW.out.size; rcases hk with hk | hk <;> omega)).size fun k e => Nat.le_of_eq e.symm)); have T9 := Lib.hid ht9; clear hk9 ht9)
        | fail)
      have hx := (by rw [getX_end HNL.out (by rw [HHD.out]; exact HE0.out) (by rw [HKD.out]; rfl) (by rw [HR.out, HEN.out.1]; exact HEN.out.2), HR.out, HEN.out.1] : getX l = (calZero, en))
      exact cal_end (cs := (calCells calZero (.slice none 0 0))) rfl rfl C9.out rfl rfl (by rw [hx]; exact ⟨_, rfl, calZ_v _ _, B9.out⟩)
    rw [hend]
    have hrest := getX_rest HNL.out (by rw [HHD.out]; exact HE0.out) (by rw [HKD.out]; rfl) (by rw [HR.out]; exact hend)
    have HRS := Lib.hid hrest
    clear hrest hend
    by_cases h4 : na < 4
    case neg =>
      have g4 : 4 ≤ na := by omega
      have g4' : decide (4 ≤ (na : Int)) = true := decide_eq_true (by omega)
      have hmf : mayX (callR l) = false := mayX_client (by unfold callR; rw [(restC_head _ _ _).1, headR_is]; show 4 ≤ (numR ⟨l, 0, 0⟩ 4).1.toNat; rw [HNna.out]; exact g4)
      have HMF := Lib.hid hmf
      clear hmf
      go_wp2_with (first
        | ((with_reducible show wpList _ _ _ _ _ we); refine wpList_storeS rfl 28 _ _ rfl w.heap.size rfl (calCells calZero (.slice none 0 0)) (calCells calZero (.slice none 0 0)) rfl (HGW.out.turn GE.out.2.2.1 (fun hh => by have := HSZ.out; rcases hh with hh | hh <;> omega)) rfl (cal_one rfl) infoCall ?_; intro w9 hk9 ht9; go_frame; have C9 := Lib.hid hk9; have B9 := Lib.hid ((HBW.out.trans (GE.out.2.2.1.below HBW.out.size fun k hk => by have := HSZ.out; have := HBW.out.size; rcases hk with hk | hk <;> omega)).trans (ht9.below (HBW.out.trans (GE.out.2.2.1.below HBW.out.size fun k hk => by have := HSZ.out; have := HBW.out.size; rcases hk with hk | hk <;> omega)).size fun k e => Nat.le_of_eq e.symm)); have T9 := Lib.hid ht9; clear hk9 ht9)
        | fail)
      have hx := (by rw [HRS.out, HMF.out]; rfl : getX l = (calZero, 5))
      exact cal_end (cs := (calCells calZero (.slice none 0 0))) rfl rfl C9.out rfl rfl (by rw [hx]; exact ⟨_, rfl, calZ_v _ _, B9.out⟩)
    have g4' : decide (4 ≤ (na : Int)) = false := decide_eq_false (by omega)
    have hcr := HCR.out h4
    obtain ⟨v, hc, hv⟩ := GE.out.2.1
    obtain ⟨A1, cp1, rfl, -⟩ := id hv
    have hok : calOk ({ calZero with client := na % 256, inc := nb, seq := nd, kind := 9, ino := m0, gen := m1, name := ⟨l2.toArray⟩ }) := ⟨by show na % 256 < 256; omega, HBDnb.out, HBDnd.out, by show (9 : Nat) < 256; decide, HBDm0.out, HBDm1.out, by show (0 : Nat) < 4294967296; decide, by show (0 : Nat) < 4294967296; decide, by show (0 : Nat) < 4294967296; decide, by show (0 : Nat) < 4294967296; decide⟩
    have HMY := Lib.hid (MayR_v ⟨hv, hok⟩)
    have HOK := Lib.hid hok
    obtain ⟨p0, p1, p2, p3, p4, p5, p6, p7, p8, p9, p10, p11, p12⟩ := Cs.cal hc
    have HCE := Lib.hid hc
    have HVE := Lib.hid hv
    have H4 := Lib.hid h4
    have HCR2 := Lib.hid hcr
    clear hc hv hok h4 hcr
    rcases hm : mayX (callR l) with _ | _
    · have hmc : mayX ({ calZero with client := na % 256, inc := nb, seq := nd, kind := 9, ino := m0, gen := m1, name := ⟨l2.toArray⟩ }) = false := by rw [← HCR2.out]; exact hm
      rw [hmc] at HMY
      have HM := Lib.hid hm
      clear hm hmc
      go_wp2_with fail
      refine HMY.out.mono ?_
      rintro e wf ⟨rfl, hb⟩
      have GF := Lib.hid (GE.out.below hb)
      clear hb p0 p1 p2 p3 p4 p5 p6 p7 p8 p9 p10 p11 p12
      go_wp2_with (first
        | ((with_reducible show wpList _ _ _ _ _ wf); refine wpList_storeS rfl 28 _ _ rfl w.heap.size rfl (calCells calZero (.slice none 0 0)) (calCells calZero (.slice none 0 0)) rfl (HGW.out.turn GF.out.2.2.1 (fun hh => by have := HSZ.out; rcases hh with hh | hh <;> omega)) rfl (cal_one rfl) infoCall ?_; intro w9 hk9 ht9; go_frame; have C9 := Lib.hid hk9; have B9 := Lib.hid ((HBW.out.trans (GF.out.2.2.1.below HBW.out.size fun k hk => by have := HSZ.out; have := HBW.out.size; rcases hk with hk | hk <;> omega)).trans (ht9.below (HBW.out.trans (GF.out.2.2.1.below HBW.out.size fun k hk => by have := HSZ.out; have := HBW.out.size; rcases hk with hk | hk <;> omega)).size fun k e => Nat.le_of_eq e.symm)); have T9 := Lib.hid ht9; clear hk9 ht9)
        | fail)
      have hx := (by rw [HRS.out, HM.out]; rfl : getX l = (calZero, 5))
      exact cal_end (cs := (calCells calZero (.slice none 0 0))) rfl rfl C9.out rfl rfl (by rw [hx]; exact ⟨_, rfl, calZ_v _ _, B9.out⟩)
    · have hmc : mayX ({ calZero with client := na % 256, inc := nb, seq := nd, kind := 9, ino := m0, gen := m1, name := ⟨l2.toArray⟩ }) = true := by rw [← HCR2.out]; exact hm
      rw [hmc] at HMY
      have HM := Lib.hid hm
      clear hm hmc
      go_wp2_with fail
      refine HMY.out.mono ?_
      rintro e wf ⟨rfl, hb⟩
      have GF := Lib.hid (GE.out.below hb)
      have HCF := Lib.hid (HCE.out.below hb HCE.out.lt)
      have HVF := Lib.hid (HVE.out.below hb)
      clear hb p0 p1 p2 p3 p4 p5 p6 p7 p8 p9 p10 p11 p12
      go_wp2_with (first
        | ((with_reducible show wpList _ _ _ _ _ wf); refine wpList_loadS rfl 28 _ rfl w3.heap.size rfl (calCells ({ calZero with client := na % 256, inc := nb, seq := nd, kind := 9, ino := m0, gen := m1, name := ⟨l2.toArray⟩ }) (.slice A1 ({ calZero with client := na % 256, inc := nb, seq := nd, kind := 9, ino := m0, gen := m1, name := ⟨l2.toArray⟩ }).data.length cp1)) HCF.out _ Tryd.underlying28 rfl infoCall ?_; go_frame)
        | ((with_reducible show wpList _ _ _ _ _ wf); refine wpList_storeS rfl 28 _ _ rfl w.heap.size rfl (calCells ({ calZero with client := na % 256, inc := nb, seq := nd, kind := 9, ino := m0, gen := m1, name := ⟨l2.toArray⟩ }) (.slice A1 ({ calZero with client := na % 256, inc := nb, seq := nd, kind := 9, ino := m0, gen := m1, name := ⟨l2.toArray⟩ }).data.length cp1)) (calCells calZero (.slice none 0 0)) rfl (HGW.out.turn GF.out.2.2.1 (fun hh => by have := HSZ.out; rcases hh with hh | hh <;> omega)) rfl (cal_one rfl) infoCall ?_; intro w9 hk9 ht9; go_frame; have C9 := Lib.hid hk9; have B9 := Lib.hid ((HBW.out.trans (GF.out.2.2.1.below HBW.out.size fun k hk => by have := HSZ.out; have := HBW.out.size; rcases hk with hk | hk <;> omega)).trans (ht9.below (HBW.out.trans (GF.out.2.2.1.below HBW.out.size fun k hk => by have := HSZ.out; have := HBW.out.size; rcases hk with hk | hk <;> omega)).size fun k e => Nat.le_of_eq e.symm)); have T9 := Lib.hid ht9; clear hk9 ht9)
        | fail)
      have hx : getX l = ({ calZero with client := na % 256, inc := nb, seq := nd, kind := 9, ino := m0, gen := m1, name := ⟨l2.toArray⟩ }, 0) := by rw [HRS.out, HM.out, HCR2.out]; rfl
      have hv9 := HVF.out.turn T9.out (fun k hk e => by have := HBW.out.size; have := HSZ.out; omega)
      exact cal_end (cs := (calCells ({ calZero with client := na % 256, inc := nb, seq := nd, kind := 9, ino := m0, gen := m1, name := ⟨l2.toArray⟩ }) (.slice A1 ({ calZero with client := na % 256, inc := nb, seq := nd, kind := 9, ino := m0, gen := m1, name := ⟨l2.toArray⟩ }).data.length cp1))) rfl rfl C9.out rfl rfl (by rw [hx]; exact ⟨_, rfl, ⟨hv9.mono fun k _ hk => Nat.le_trans HBW.out.size hk, HOK.out⟩, B9.out⟩)
  · clear hkk
    have hs : GetQ (w.heap.size + 1) w3.heap.size (· < w.heap.size) W4 s4 ({ calZero with client := na % 256, inc := nb, seq := nd, kind := 10 }) (w5.setCell ⟨w3.heap.size, 3, none⟩ (.int .u8 10)) := HS5.out.put (i := 3) HC5.out rfl HV5.out
    have H6 := Lib.hid hs
    clear hs
    go_wp2_with fail
    have hcall := NumQ H6.out.1
    have hbdm0 := numN4 s4
    generalize hnm0 : (numR s4 4).1.toNat = m0 at hcall hbdm0
    generalize hst0 : (numR s4 4).2 = t0 at hcall
    have HNm0 := Lib.hid hnm0
    have HEt0 := Lib.hid hst0
    have HBDm0 := Lib.hid hbdm0
    have hlem0 : (m0 : Int) ≤ 4294967295 := by omega
    clear hnm0 hst0 hbdm0
    refine hcall.mono ?_
    clear hcall
    rintro e x0 ⟨rfl, hq, ht⟩
    have HAt0 := Lib.hid (show t0.all = l by rw [← HEt0.out]; exact (numR_all _ _).trans HAs4.out)
    have hs := H6.out.told hq ht
    obtain ⟨v, hc, hv⟩ := hs.2.1
    have kp := hc.cell 4 rfl
    have kf := hc.frozen 4
    have k3 : x0.cell? ⟨w3.heap.size, 3, none⟩ = some (.int .u8 10) := hc.cell 3 rfl
    have hs2 : GetQ (w.heap.size + 1) w3.heap.size (· < w.heap.size) W4 t0 ({ calZero with client := na % 256, inc := nb, seq := nd, kind := 10, ino := m0 }) (x0.setCell ⟨w3.heap.size, 4, none⟩ (.int .u32 (m0 : Int))) := hs.put (i := 4) hc rfl hv
    have G0 := Lib.hid hs2
    clear hs hc hv hs2 hq ht
    go_wp2_with fail
    clear kp kf k3
    have hcall := NumQ G0.out.1
    have hbdm1 := numN4 t0
    generalize hnm1 : (numR t0 4).1.toNat = m1 at hcall hbdm1
    generalize hst1 : (numR t0 4).2 = t1 at hcall
    have HNm1 := Lib.hid hnm1
    have HEt1 := Lib.hid hst1
    have HBDm1 := Lib.hid hbdm1
    have hlem1 : (m1 : Int) ≤ 4294967295 := by omega
    clear hnm1 hst1 hbdm1
    refine hcall.mono ?_
    clear hcall
    rintro e x1 ⟨rfl, hq, ht⟩
    have HAt1 := Lib.hid (show t1.all = l by rw [← HEt1.out]; exact (numR_all _ _).trans HAt0.out)
    have hs := G0.out.told hq ht
    obtain ⟨v, hc, hv⟩ := hs.2.1
    have kp := hc.cell 5 rfl
    have kf := hc.frozen 5
    have k3 : x1.cell? ⟨w3.heap.size, 3, none⟩ = some (.int .u8 10) := hc.cell 3 rfl
    have hs2 : GetQ (w.heap.size + 1) w3.heap.size (· < w.heap.size) W4 t1 ({ calZero with client := na % 256, inc := nb, seq := nd, kind := 10, ino := m0, gen := m1 }) (x1.setCell ⟨w3.heap.size, 5, none⟩ (.int .u32 (m1 : Int))) := hs.put (i := 5) hc rfl hv
    have G1 := Lib.hid hs2
    clear hs hc hv hs2 hq ht
    go_wp2_with fail
    clear kp kf k3
    have hcall := Bytes_q 4096 (by decide) (by decide) (by rw [HAt1.out]; exact HL.out) G1.out.1
    generalize hnl2 : (bytesR t1 4096).1 = l2 at hcall
    generalize hst2 : (bytesR t1 4096).2 = t2 at hcall
    have HNl2 := Lib.hid hnl2
    have HEt2 := Lib.hid hst2
    clear hnl2 hst2
    refine hcall.mono ?_
    clear hcall
    rintro e x2 ⟨vb, rfl, hvb, hq, ht⟩
    obtain ⟨Ab, cb, rfl, hrb, hAb⟩ : ∃ A c, vb = .slice A l2.length c ∧ Rd x2 A l2 ∧ BsV x2 (W4.heap.size ≤ ·) (.slice A l2.length c) l2 := by
      obtain ⟨A, c, e, hr, -⟩ := id hvb
      subst e
      exact ⟨A, c, rfl, hr.rd, hvb.mono fun k _ hk => Nat.le_trans G1.out.2.2.2.2.2 hk⟩
    have hcv := conv_rd hrb cb
    have HAt2 := Lib.hid (show t2.all = l by rw [← HEt2.out]; exact (bytesR_all10 _).trans HAt1.out)
    have hs := G1.out.told hq ht
    obtain ⟨v, hc, hv⟩ := hs.2.1
    have kp := hc.cell 6 rfl
    have kf := hc.frozen 6
    have k3 : x2.cell? ⟨w3.heap.size, 3, none⟩ = some (.int .u8 10) := hc.cell 3 rfl
    have hs2 : GetQ (w.heap.size + 1) w3.heap.size (· < w.heap.size) W4 t2 ({ calZero with client := na % 256, inc := nb, seq := nd, kind := 10, ino := m0, gen := m1, name := ⟨l2.toArray⟩ }) (x2.setCell ⟨w3.heap.size, 6, none⟩ (.string ⟨l2.toArray⟩)) := hs.put (i := 6) hc rfl hv
    have G2 := Lib.hid hs2
    clear hs hc hv hs2 hq ht hrb hAb hvb
    go_wp2_with fail
    clear kp kf k3 hcv
    refine (End_q G2.out.1).mono ?_
    rintro e we ⟨rfl, hb⟩
    have GE := Lib.hid (G2.out.below hb)
    clear hb
    have HR := Lib.hid (show (restR l).2 = t2 by
      show (tellL 4096 (restS (kRow (kindR l))) (headRS ⟨l, 0, 0⟩)).2 = t2
      rw [HKD.out, HHD.out]
      obtain rfl := HEt0.out
      obtain rfl := HEt1.out
      obtain rfl := HEt2.out
      rfl)
    have HCR := Lib.hid (fun (h4 : na < 4) => show callR l = { calZero with client := na % 256, inc := nb, seq := nd, kind := 10, ino := m0, gen := m1, name := ⟨l2.toArray⟩ } by
      show restC (kindR l) (headC calZero (headR l).1) (tellL 4096 (restS (kRow (kindR l))) (headRS ⟨l, 0, 0⟩)).1 = _
      rw [HKD.out, HHD.out, headR_is, HEs1.out, HEs2.out, HEs3.out, HNna.out, HNnb.out, HNnd.out, HNnk.out, Nat.mod_eq_of_lt (show na < 256 by omega)]
      obtain rfl := HNm0.out
      obtain rfl := HEt0.out
      obtain rfl := HNm1.out
      obtain rfl := HEt1.out
      obtain rfl := HNl2.out
      rfl)
    by_cases hend : endR t2 = 0
    case neg =>
      obtain ⟨en, hen⟩ : ∃ en, endR t2 = en := ⟨_, rfl⟩
      rw [hen] at hend ⊢
      have hne : (en != 0) = true := by simpa using hend
      have heq : (en == 0) = false := by simpa using hend
      have HEN := Lib.hid (And.intro hen hend)
      clear hen hend
      go_wp2_with (first
        | ((with_reducible show wpList _ _ _ _ _ we); refine wpList_storeS rfl 28 _ _ rfl w.heap.size rfl (calCells calZero (.slice none 0 0)) (calCells calZero (.slice none 0 0)) rfl (HGW.out.turn GE.out.2.2.1 (fun hh => by have := HSZ.out; rcases hh with hh | hh <;> omega)) rfl (cal_one rfl) infoCall ?_; intro w9 hk9 ht9; go_frame; have C9 := Lib.hid hk9; have B9 := Lib.hid ((HBW.out.trans (GE.out.2.2.1.below HBW.out.size fun k hk => by have := HSZ.out; have := HBW.out.size; rcases hk with hk | hk <;> omega)).trans (ht9.below (HBW.out.trans (GE.out.2.2.1.below HBW.out.size fun k hk => by have := HSZ.out; have := HBW.out.size; rcases hk with hk | hk <;> omega)).size fun k e => Nat.le_of_eq e.symm)); have T9 := Lib.hid ht9; clear hk9 ht9)
        | fail)
      have hx := (by rw [getX_end HNL.out (by rw [HHD.out]; exact HE0.out) (by rw [HKD.out]; rfl) (by rw [HR.out, HEN.out.1]; exact HEN.out.2), HR.out, HEN.out.1] : getX l = (calZero, en))
      exact cal_end (cs := (calCells calZero (.slice none 0 0))) rfl rfl C9.out rfl rfl (by rw [hx]; exact ⟨_, rfl, calZ_v _ _, B9.out⟩)
    rw [hend]
    have hrest := getX_rest HNL.out (by rw [HHD.out]; exact HE0.out) (by rw [HKD.out]; rfl) (by rw [HR.out]; exact hend)
    have HRS := Lib.hid hrest
    clear hrest hend
    by_cases h4 : na < 4
    case neg =>
      have g4 : 4 ≤ na := by omega
      have g4' : decide (4 ≤ (na : Int)) = true := decide_eq_true (by omega)
      have hmf : mayX (callR l) = false := mayX_client (by unfold callR; rw [(restC_head _ _ _).1, headR_is]; show 4 ≤ (numR ⟨l, 0, 0⟩ 4).1.toNat; rw [HNna.out]; exact g4)
      have HMF := Lib.hid hmf
      clear hmf
      go_wp2_with (first
        | ((with_reducible show wpList _ _ _ _ _ we); refine wpList_storeS rfl 28 _ _ rfl w.heap.size rfl (calCells calZero (.slice none 0 0)) (calCells calZero (.slice none 0 0)) rfl (HGW.out.turn GE.out.2.2.1 (fun hh => by have := HSZ.out; rcases hh with hh | hh <;> omega)) rfl (cal_one rfl) infoCall ?_; intro w9 hk9 ht9; go_frame; have C9 := Lib.hid hk9; have B9 := Lib.hid ((HBW.out.trans (GE.out.2.2.1.below HBW.out.size fun k hk => by have := HSZ.out; have := HBW.out.size; rcases hk with hk | hk <;> omega)).trans (ht9.below (HBW.out.trans (GE.out.2.2.1.below HBW.out.size fun k hk => by have := HSZ.out; have := HBW.out.size; rcases hk with hk | hk <;> omega)).size fun k e => Nat.le_of_eq e.symm)); have T9 := Lib.hid ht9; clear hk9 ht9)
        | fail)
      have hx := (by rw [HRS.out, HMF.out]; rfl : getX l = (calZero, 5))
      exact cal_end (cs := (calCells calZero (.slice none 0 0))) rfl rfl C9.out rfl rfl (by rw [hx]; exact ⟨_, rfl, calZ_v _ _, B9.out⟩)
    have g4' : decide (4 ≤ (na : Int)) = false := decide_eq_false (by omega)
    have hcr := HCR.out h4
    obtain ⟨v, hc, hv⟩ := GE.out.2.1
    obtain ⟨A1, cp1, rfl, -⟩ := id hv
    have hok : calOk ({ calZero with client := na % 256, inc := nb, seq := nd, kind := 10, ino := m0, gen := m1, name := ⟨l2.toArray⟩ }) := ⟨by show na % 256 < 256; omega, HBDnb.out, HBDnd.out, by show (10 : Nat) < 256; decide, HBDm0.out, HBDm1.out, by show (0 : Nat) < 4294967296; decide, by show (0 : Nat) < 4294967296; decide, by show (0 : Nat) < 4294967296; decide, by show (0 : Nat) < 4294967296; decide⟩
    have HMY := Lib.hid (MayR_v ⟨hv, hok⟩)
    have HOK := Lib.hid hok
    obtain ⟨p0, p1, p2, p3, p4, p5, p6, p7, p8, p9, p10, p11, p12⟩ := Cs.cal hc
    have HCE := Lib.hid hc
    have HVE := Lib.hid hv
    have H4 := Lib.hid h4
    have HCR2 := Lib.hid hcr
    clear hc hv hok h4 hcr
    rcases hm : mayX (callR l) with _ | _
    · have hmc : mayX ({ calZero with client := na % 256, inc := nb, seq := nd, kind := 10, ino := m0, gen := m1, name := ⟨l2.toArray⟩ }) = false := by rw [← HCR2.out]; exact hm
      rw [hmc] at HMY
      have HM := Lib.hid hm
      clear hm hmc
      go_wp2_with fail
      refine HMY.out.mono ?_
      rintro e wf ⟨rfl, hb⟩
      have GF := Lib.hid (GE.out.below hb)
      clear hb p0 p1 p2 p3 p4 p5 p6 p7 p8 p9 p10 p11 p12
      go_wp2_with (first
        | ((with_reducible show wpList _ _ _ _ _ wf); refine wpList_storeS rfl 28 _ _ rfl w.heap.size rfl (calCells calZero (.slice none 0 0)) (calCells calZero (.slice none 0 0)) rfl (HGW.out.turn GF.out.2.2.1 (fun hh => by have := HSZ.out; rcases hh with hh | hh <;> omega)) rfl (cal_one rfl) infoCall ?_; intro w9 hk9 ht9; go_frame; have C9 := Lib.hid hk9; have B9 := Lib.hid ((HBW.out.trans (GF.out.2.2.1.below HBW.out.size fun k hk => by have := HSZ.out; have := HBW.out.size; rcases hk with hk | hk <;> omega)).trans (ht9.below (HBW.out.trans (GF.out.2.2.1.below HBW.out.size fun k hk => by have := HSZ.out; have := HBW.out.size; rcases hk with hk | hk <;> omega)).size fun k e => Nat.le_of_eq e.symm)); have T9 := Lib.hid ht9; clear hk9 ht9)
        | fail)
      have hx := (by rw [HRS.out, HM.out]; rfl : getX l = (calZero, 5))
      exact cal_end (cs := (calCells calZero (.slice none 0 0))) rfl rfl C9.out rfl rfl (by rw [hx]; exact ⟨_, rfl, calZ_v _ _, B9.out⟩)
    · have hmc : mayX ({ calZero with client := na % 256, inc := nb, seq := nd, kind := 10, ino := m0, gen := m1, name := ⟨l2.toArray⟩ }) = true := by rw [← HCR2.out]; exact hm
      rw [hmc] at HMY
      have HM := Lib.hid hm
      clear hm hmc
      go_wp2_with fail
      refine HMY.out.mono ?_
      rintro e wf ⟨rfl, hb⟩
      have GF := Lib.hid (GE.out.below hb)
      have HCF := Lib.hid (HCE.out.below hb HCE.out.lt)
      have HVF := Lib.hid (HVE.out.below hb)
      clear hb p0 p1 p2 p3 p4 p5 p6 p7 p8 p9 p10 p11 p12
      go_wp2_with (first
        | ((with_reducible show wpList _ _ _ _ _ wf); refine wpList_loadS rfl 28 _ rfl w3.heap.size rfl (calCells ({ calZero with client := na % 256, inc := nb, seq := nd, kind := 10, ino := m0, gen := m1, name := ⟨l2.toArray⟩ }) (.slice A1 ({ calZero with client := na % 256, inc := nb, seq := nd, kind := 10, ino := m0, gen := m1, name := ⟨l2.toArray⟩ }).data.length cp1)) HCF.out _ Tryd.underlying28 rfl infoCall ?_; go_frame)
        | ((with_reducible show wpList _ _ _ _ _ wf); refine wpList_storeS rfl 28 _ _ rfl w.heap.size rfl (calCells ({ calZero with client := na % 256, inc := nb, seq := nd, kind := 10, ino := m0, gen := m1, name := ⟨l2.toArray⟩ }) (.slice A1 ({ calZero with client := na % 256, inc := nb, seq := nd, kind := 10, ino := m0, gen := m1, name := ⟨l2.toArray⟩ }).data.length cp1)) (calCells calZero (.slice none 0 0)) rfl (HGW.out.turn GF.out.2.2.1 (fun hh => by have := HSZ.out; rcases hh with hh | hh <;> omega)) rfl (cal_one rfl) infoCall ?_; intro w9 hk9 ht9; go_frame; have C9 := Lib.hid hk9; have B9 := Lib.hid ((HBW.out.trans (GF.out.2.2.1.below HBW.out.size fun k hk => by have := HSZ.out; have := HBW.out.size; rcases hk with hk | hk <;> omega)).trans (ht9.below (HBW.out.trans (GF.out.2.2.1.below HBW.out.size fun k hk => by have := HSZ.out; have := HBW.out.size; rcases hk with hk | hk <;> omega)).size fun k e => Nat.le_of_eq e.symm)); have T9 := Lib.hid ht9; clear hk9 ht9)
        | fail)
      have hx : getX l = ({ calZero with client := na % 256, inc := nb, seq := nd, kind := 10, ino := m0, gen := m1, name := ⟨l2.toArray⟩ }, 0) := by rw [HRS.out, HM.out, HCR2.out]; rfl
      have hv9 := HVF.out.turn T9.out (fun k hk e => by have := HBW.out.size; have := HSZ.out; omega)
      exact cal_end (cs := (calCells ({ calZero with client := na % 256, inc := nb, seq := nd, kind := 10, ino := m0, gen := m1, name := ⟨l2.toArray⟩ }) (.slice A1 ({ calZero with client := na % 256, inc := nb, seq := nd, kind := 10, ino := m0, gen := m1, name := ⟨l2.toArray⟩ }).data.length cp1))) rfl rfl C9.out rfl rfl (by rw [hx]; exact ⟨_, rfl, ⟨hv9.mono fun k _ hk => Nat.le_trans HBW.out.size hk, HOK.out⟩, B9.out⟩)
  · clear hkk
    have hs : GetQ (w.heap.size + 1) w3.heap.size (· < w.heap.size) W4 s4 ({ calZero with client := na % 256, inc := nb, seq := nd, kind := 11 }) (w5.setCell ⟨w3.heap.size, 3, none⟩ (.int .u8 11)) := HS5.out.put (i := 3) HC5.out rfl HV5.out
    have H6 := Lib.hid hs
    clear hs
    go_wp2_with fail
    have hcall := NumQ H6.out.1
    have hbdm0 := numN4 s4
    generalize hnm0 : (numR s4 4).1.toNat = m0 at hcall hbdm0
    generalize hst0 : (numR s4 4).2 = t0 at hcall
    have HNm0 := Lib.hid hnm0
    have HEt0 := Lib.hid hst0
    have HBDm0 := Lib.hid hbdm0
    have hlem0 : (m0 : Int) ≤ 4294967295 := by omega
    clear hnm0 hst0 hbdm0
    refine hcall.mono ?_
    clear hcall
    rintro e x0 ⟨rfl, hq, ht⟩
    have HAt0 := Lib.hid (show t0.all = l by rw [← HEt0.out]; exact (numR_all _ _).trans HAs4.out)
    have hs := H6.out.told hq ht
    obtain ⟨v, hc, hv⟩ := hs.2.1
    have kp := hc.cell 4 rfl
    have kf := hc.frozen 4
    have k3 : x0.cell? ⟨w3.heap.size, 3, none⟩ = some (.int .u8 11) := hc.cell 3 rfl
    have hs2 : GetQ (w.heap.size + 1) w3.heap.size (· < w.heap.size) W4 t0 ({ calZero with client := na % 256, inc := nb, seq := nd, kind := 11, ino := m0 }) (x0.setCell ⟨w3.heap.size, 4, none⟩ (.int .u32 (m0 : Int))) := hs.put (i := 4) hc rfl hv
    have G0 := Lib.hid hs2
    clear hs hc hv hs2 hq ht
    go_wp2_with fail
    clear kp kf k3
    have hcall := NumQ G0.out.1
    have hbdm1 := numN4 t0
    generalize hnm1 : (numR t0 4).1.toNat = m1 at hcall hbdm1
    generalize hst1 : (numR t0 4).2 = t1 at hcall
    have HNm1 := Lib.hid hnm1
    have HEt1 := Lib.hid hst1
    have HBDm1 := Lib.hid hbdm1
    have hlem1 : (m1 : Int) ≤ 4294967295 := by omega
    clear hnm1 hst1 hbdm1
    refine hcall.mono ?_
    clear hcall
    rintro e x1 ⟨rfl, hq, ht⟩
    have HAt1 := Lib.hid (show t1.all = l by rw [← HEt1.out]; exact (numR_all _ _).trans HAt0.out)
    have hs := G0.out.told hq ht
    obtain ⟨v, hc, hv⟩ := hs.2.1
    have kp := hc.cell 5 rfl
    have kf := hc.frozen 5
    have k3 : x1.cell? ⟨w3.heap.size, 3, none⟩ = some (.int .u8 11) := hc.cell 3 rfl
    have hs2 : GetQ (w.heap.size + 1) w3.heap.size (· < w.heap.size) W4 t1 ({ calZero with client := na % 256, inc := nb, seq := nd, kind := 11, ino := m0, gen := m1 }) (x1.setCell ⟨w3.heap.size, 5, none⟩ (.int .u32 (m1 : Int))) := hs.put (i := 5) hc rfl hv
    have G1 := Lib.hid hs2
    clear hs hc hv hs2 hq ht
    go_wp2_with fail
    clear kp kf k3
    have hcall := Bytes_q 4096 (by decide) (by decide) (by rw [HAt1.out]; exact HL.out) G1.out.1
    generalize hnl2 : (bytesR t1 4096).1 = l2 at hcall
    generalize hst2 : (bytesR t1 4096).2 = t2 at hcall
    have HNl2 := Lib.hid hnl2
    have HEt2 := Lib.hid hst2
    clear hnl2 hst2
    refine hcall.mono ?_
    clear hcall
    rintro e x2 ⟨vb, rfl, hvb, hq, ht⟩
    obtain ⟨Ab, cb, rfl, hrb, hAb⟩ : ∃ A c, vb = .slice A l2.length c ∧ Rd x2 A l2 ∧ BsV x2 (W4.heap.size ≤ ·) (.slice A l2.length c) l2 := by
      obtain ⟨A, c, e, hr, -⟩ := id hvb
      subst e
      exact ⟨A, c, rfl, hr.rd, hvb.mono fun k _ hk => Nat.le_trans G1.out.2.2.2.2.2 hk⟩
    have hcv := conv_rd hrb cb
    have HAt2 := Lib.hid (show t2.all = l by rw [← HEt2.out]; exact (bytesR_all10 _).trans HAt1.out)
    have hs := G1.out.told hq ht
    obtain ⟨v, hc, hv⟩ := hs.2.1
    have kp := hc.cell 6 rfl
    have kf := hc.frozen 6
    have k3 : x2.cell? ⟨w3.heap.size, 3, none⟩ = some (.int .u8 11) := hc.cell 3 rfl
    have hs2 : GetQ (w.heap.size + 1) w3.heap.size (· < w.heap.size) W4 t2 ({ calZero with client := na % 256, inc := nb, seq := nd, kind := 11, ino := m0, gen := m1, name := ⟨l2.toArray⟩ }) (x2.setCell ⟨w3.heap.size, 6, none⟩ (.string ⟨l2.toArray⟩)) := hs.put (i := 6) hc rfl hv
    have G2 := Lib.hid hs2
    clear hs hc hv hs2 hq ht hrb hAb hvb
    go_wp2_with fail
    clear kp kf k3 hcv
    have hcall := NumQ G2.out.1
    have hbdm3 := numN4 t2
    generalize hnm3 : (numR t2 4).1.toNat = m3 at hcall hbdm3
    generalize hst3 : (numR t2 4).2 = t3 at hcall
    have HNm3 := Lib.hid hnm3
    have HEt3 := Lib.hid hst3
    have HBDm3 := Lib.hid hbdm3
    have hlem3 : (m3 : Int) ≤ 4294967295 := by omega
    clear hnm3 hst3 hbdm3
    refine hcall.mono ?_
    clear hcall
    rintro e x3 ⟨rfl, hq, ht⟩
    have HAt3 := Lib.hid (show t3.all = l by rw [← HEt3.out]; exact (numR_all _ _).trans HAt2.out)
    have hs := G2.out.told hq ht
    obtain ⟨v, hc, hv⟩ := hs.2.1
    have kp := hc.cell 7 rfl
    have kf := hc.frozen 7
    have k3 : x3.cell? ⟨w3.heap.size, 3, none⟩ = some (.int .u8 11) := hc.cell 3 rfl
    have hs2 : GetQ (w.heap.size + 1) w3.heap.size (· < w.heap.size) W4 t3 ({ calZero with client := na % 256, inc := nb, seq := nd, kind := 11, ino := m0, gen := m1, name := ⟨l2.toArray⟩, tino := m3 }) (x3.setCell ⟨w3.heap.size, 7, none⟩ (.int .u32 (m3 : Int))) := hs.put (i := 7) hc rfl hv
    have G3 := Lib.hid hs2
    clear hs hc hv hs2 hq ht
    go_wp2_with fail
    clear kp kf k3
    have hcall := NumQ G3.out.1
    have hbdm4 := numN4 t3
    generalize hnm4 : (numR t3 4).1.toNat = m4 at hcall hbdm4
    generalize hst4 : (numR t3 4).2 = t4 at hcall
    have HNm4 := Lib.hid hnm4
    have HEt4 := Lib.hid hst4
    have HBDm4 := Lib.hid hbdm4
    have hlem4 : (m4 : Int) ≤ 4294967295 := by omega
    clear hnm4 hst4 hbdm4
    refine hcall.mono ?_
    clear hcall
    rintro e x4 ⟨rfl, hq, ht⟩
    have HAt4 := Lib.hid (show t4.all = l by rw [← HEt4.out]; exact (numR_all _ _).trans HAt3.out)
    have hs := G3.out.told hq ht
    obtain ⟨v, hc, hv⟩ := hs.2.1
    have kp := hc.cell 8 rfl
    have kf := hc.frozen 8
    have k3 : x4.cell? ⟨w3.heap.size, 3, none⟩ = some (.int .u8 11) := hc.cell 3 rfl
    have hs2 : GetQ (w.heap.size + 1) w3.heap.size (· < w.heap.size) W4 t4 ({ calZero with client := na % 256, inc := nb, seq := nd, kind := 11, ino := m0, gen := m1, name := ⟨l2.toArray⟩, tino := m3, tgen := m4 }) (x4.setCell ⟨w3.heap.size, 8, none⟩ (.int .u32 (m4 : Int))) := hs.put (i := 8) hc rfl hv
    have G4 := Lib.hid hs2
    clear hs hc hv hs2 hq ht
    go_wp2_with fail
    clear kp kf k3
    have hcall := Bytes_q 4096 (by decide) (by decide) (by rw [HAt4.out]; exact HL.out) G4.out.1
    generalize hnl5 : (bytesR t4 4096).1 = l5 at hcall
    generalize hst5 : (bytesR t4 4096).2 = t5 at hcall
    have HNl5 := Lib.hid hnl5
    have HEt5 := Lib.hid hst5
    clear hnl5 hst5
    refine hcall.mono ?_
    clear hcall
    rintro e x5 ⟨vb, rfl, hvb, hq, ht⟩
    obtain ⟨Ab, cb, rfl, hrb, hAb⟩ : ∃ A c, vb = .slice A l5.length c ∧ Rd x5 A l5 ∧ BsV x5 (W4.heap.size ≤ ·) (.slice A l5.length c) l5 := by
      obtain ⟨A, c, e, hr, -⟩ := id hvb
      subst e
      exact ⟨A, c, rfl, hr.rd, hvb.mono fun k _ hk => Nat.le_trans G4.out.2.2.2.2.2 hk⟩
    have hcv := conv_rd hrb cb
    have HAt5 := Lib.hid (show t5.all = l by rw [← HEt5.out]; exact (bytesR_all10 _).trans HAt4.out)
    have hs := G4.out.told hq ht
    obtain ⟨v, hc, hv⟩ := hs.2.1
    have kp := hc.cell 9 rfl
    have kf := hc.frozen 9
    have k3 : x5.cell? ⟨w3.heap.size, 3, none⟩ = some (.int .u8 11) := hc.cell 3 rfl
    have hs2 : GetQ (w.heap.size + 1) w3.heap.size (· < w.heap.size) W4 t5 ({ calZero with client := na % 256, inc := nb, seq := nd, kind := 11, ino := m0, gen := m1, name := ⟨l2.toArray⟩, tino := m3, tgen := m4, toname := ⟨l5.toArray⟩ }) (x5.setCell ⟨w3.heap.size, 9, none⟩ (.string ⟨l5.toArray⟩)) := hs.put (i := 9) hc rfl hv
    have G5 := Lib.hid hs2
    clear hs hc hv hs2 hq ht hrb hAb hvb
    go_wp2_with fail
    clear kp kf k3 hcv
    refine (End_q G5.out.1).mono ?_
    rintro e we ⟨rfl, hb⟩
    have GE := Lib.hid (G5.out.below hb)
    clear hb
    have HR := Lib.hid (show (restR l).2 = t5 by
      show (tellL 4096 (restS (kRow (kindR l))) (headRS ⟨l, 0, 0⟩)).2 = t5
      rw [HKD.out, HHD.out]
      obtain rfl := HEt0.out
      obtain rfl := HEt1.out
      obtain rfl := HEt2.out
      obtain rfl := HEt3.out
      obtain rfl := HEt4.out
      obtain rfl := HEt5.out
      rfl)
    have HCR := Lib.hid (fun (h4 : na < 4) => show callR l = { calZero with client := na % 256, inc := nb, seq := nd, kind := 11, ino := m0, gen := m1, name := ⟨l2.toArray⟩, tino := m3, tgen := m4, toname := ⟨l5.toArray⟩ } by
      show restC (kindR l) (headC calZero (headR l).1) (tellL 4096 (restS (kRow (kindR l))) (headRS ⟨l, 0, 0⟩)).1 = _
      rw [HKD.out, HHD.out, headR_is, HEs1.out, HEs2.out, HEs3.out, HNna.out, HNnb.out, HNnd.out, HNnk.out, Nat.mod_eq_of_lt (show na < 256 by omega)]
      obtain rfl := HNm0.out
      obtain rfl := HEt0.out
      obtain rfl := HNm1.out
      obtain rfl := HEt1.out
      obtain rfl := HNl2.out
      obtain rfl := HEt2.out
      obtain rfl := HNm3.out
      obtain rfl := HEt3.out
      obtain rfl := HNm4.out
      obtain rfl := HEt4.out
      obtain rfl := HNl5.out
      rfl)
    by_cases hend : endR t5 = 0
    case neg =>
      obtain ⟨en, hen⟩ : ∃ en, endR t5 = en := ⟨_, rfl⟩
      rw [hen] at hend ⊢
      have hne : (en != 0) = true := by simpa using hend
      have heq : (en == 0) = false := by simpa using hend
      have HEN := Lib.hid (And.intro hen hend)
      clear hen hend
      go_wp2_with (first
        | ((with_reducible show wpList _ _ _ _ _ we); refine wpList_storeS rfl 28 _ _ rfl w.heap.size rfl (calCells calZero (.slice none 0 0)) (calCells calZero (.slice none 0 0)) rfl (HGW.out.turn GE.out.2.2.1 (fun hh => by have := HSZ.out; rcases hh with hh | hh <;> omega)) rfl (cal_one rfl) infoCall ?_; intro w9 hk9 ht9; go_frame; have C9 := Lib.hid hk9; have B9 := Lib.hid ((HBW.out.trans (GE.out.2.2.1.below HBW.out.size fun k hk => by have := HSZ.out; have := HBW.out.size; rcases hk with hk | hk <;> omega)).trans (ht9.below (HBW.out.trans (GE.out.2.2.1.below HBW.out.size fun k hk => by have := HSZ.out; have := HBW.out.size; rcases hk with hk | hk <;> omega)).size fun k e => Nat.le_of_eq e.symm)); have T9 := Lib.hid ht9; clear hk9 ht9)
        | fail)
      have hx := (by rw [getX_end HNL.out (by rw [HHD.out]; exact HE0.out) (by rw [HKD.out]; rfl) (by rw [HR.out, HEN.out.1]; exact HEN.out.2), HR.out, HEN.out.1] : getX l = (calZero, en))
      exact cal_end (cs := (calCells calZero (.slice none 0 0))) rfl rfl C9.out rfl rfl (by rw [hx]; exact ⟨_, rfl, calZ_v _ _, B9.out⟩)
    rw [hend]
    have hrest := getX_rest HNL.out (by rw [HHD.out]; exact HE0.out) (by rw [HKD.out]; rfl) (by rw [HR.out]; exact hend)
    have HRS := Lib.hid hrest
    clear hrest hend
    by_cases h4 : na < 4
    case neg =>
      have g4 : 4 ≤ na := by omega
      have g4' : decide (4 ≤ (na : Int)) = true := decide_eq_true (by omega)
      have hmf : mayX (callR l) = false := mayX_client (by unfold callR; rw [(restC_head _ _ _).1, headR_is]; show 4 ≤ (numR ⟨l, 0, 0⟩ 4).1.toNat; rw [HNna.out]; exact g4)
      have HMF := Lib.hid hmf
      clear hmf
      go_wp2_with (first
        | ((with_reducible show wpList _ _ _ _ _ we); refine wpList_storeS rfl 28 _ _ rfl w.heap.size rfl (calCells calZero (.slice none 0 0)) (calCells calZero (.slice none 0 0)) rfl (HGW.out.turn GE.out.2.2.1 (fun hh => by have := HSZ.out; rcases hh with hh | hh <;> omega)) rfl (cal_one rfl) infoCall ?_; intro w9 hk9 ht9; go_frame; have C9 := Lib.hid hk9; have B9 := Lib.hid ((HBW.out.trans (GE.out.2.2.1.below HBW.out.size fun k hk => by have := HSZ.out; have := HBW.out.size; rcases hk with hk | hk <;> omega)).trans (ht9.below (HBW.out.trans (GE.out.2.2.1.below HBW.out.size fun k hk => by have := HSZ.out; have := HBW.out.size; rcases hk with hk | hk <;> omega)).size fun k e => Nat.le_of_eq e.symm)); have T9 := Lib.hid ht9; clear hk9 ht9)
        | fail)
      have hx := (by rw [HRS.out, HMF.out]; rfl : getX l = (calZero, 5))
      exact cal_end (cs := (calCells calZero (.slice none 0 0))) rfl rfl C9.out rfl rfl (by rw [hx]; exact ⟨_, rfl, calZ_v _ _, B9.out⟩)
    have g4' : decide (4 ≤ (na : Int)) = false := decide_eq_false (by omega)
    have hcr := HCR.out h4
    obtain ⟨v, hc, hv⟩ := GE.out.2.1
    obtain ⟨A1, cp1, rfl, -⟩ := id hv
    have hok : calOk ({ calZero with client := na % 256, inc := nb, seq := nd, kind := 11, ino := m0, gen := m1, name := ⟨l2.toArray⟩, tino := m3, tgen := m4, toname := ⟨l5.toArray⟩ }) := ⟨by show na % 256 < 256; omega, HBDnb.out, HBDnd.out, by show (11 : Nat) < 256; decide, HBDm0.out, HBDm1.out, HBDm3.out, HBDm4.out, by show (0 : Nat) < 4294967296; decide, by show (0 : Nat) < 4294967296; decide⟩
    have HMY := Lib.hid (MayR_v ⟨hv, hok⟩)
    have HOK := Lib.hid hok
    obtain ⟨p0, p1, p2, p3, p4, p5, p6, p7, p8, p9, p10, p11, p12⟩ := Cs.cal hc
    have HCE := Lib.hid hc
    have HVE := Lib.hid hv
    have H4 := Lib.hid h4
    have HCR2 := Lib.hid hcr
    clear hc hv hok h4 hcr
    rcases hm : mayX (callR l) with _ | _
    · have hmc : mayX ({ calZero with client := na % 256, inc := nb, seq := nd, kind := 11, ino := m0, gen := m1, name := ⟨l2.toArray⟩, tino := m3, tgen := m4, toname := ⟨l5.toArray⟩ }) = false := by rw [← HCR2.out]; exact hm
      rw [hmc] at HMY
      have HM := Lib.hid hm
      clear hm hmc
      go_wp2_with fail
      refine HMY.out.mono ?_
      rintro e wf ⟨rfl, hb⟩
      have GF := Lib.hid (GE.out.below hb)
      clear hb p0 p1 p2 p3 p4 p5 p6 p7 p8 p9 p10 p11 p12
      go_wp2_with (first
        | ((with_reducible show wpList _ _ _ _ _ wf); refine wpList_storeS rfl 28 _ _ rfl w.heap.size rfl (calCells calZero (.slice none 0 0)) (calCells calZero (.slice none 0 0)) rfl (HGW.out.turn GF.out.2.2.1 (fun hh => by have := HSZ.out; rcases hh with hh | hh <;> omega)) rfl (cal_one rfl) infoCall ?_; intro w9 hk9 ht9; go_frame; have C9 := Lib.hid hk9; have B9 := Lib.hid ((HBW.out.trans (GF.out.2.2.1.below HBW.out.size fun k hk => by have := HSZ.out; have := HBW.out.size; rcases hk with hk | hk <;> omega)).trans (ht9.below (HBW.out.trans (GF.out.2.2.1.below HBW.out.size fun k hk => by have := HSZ.out; have := HBW.out.size; rcases hk with hk | hk <;> omega)).size fun k e => Nat.le_of_eq e.symm)); have T9 := Lib.hid ht9; clear hk9 ht9)
        | fail)
      have hx := (by rw [HRS.out, HM.out]; rfl : getX l = (calZero, 5))
      exact cal_end (cs := (calCells calZero (.slice none 0 0))) rfl rfl C9.out rfl rfl (by rw [hx]; exact ⟨_, rfl, calZ_v _ _, B9.out⟩)
    · have hmc : mayX ({ calZero with client := na % 256, inc := nb, seq := nd, kind := 11, ino := m0, gen := m1, name := ⟨l2.toArray⟩, tino := m3, tgen := m4, toname := ⟨l5.toArray⟩ }) = true := by rw [← HCR2.out]; exact hm
      rw [hmc] at HMY
      have HM := Lib.hid hm
      clear hm hmc
      go_wp2_with fail
      refine HMY.out.mono ?_
      rintro e wf ⟨rfl, hb⟩
      have GF := Lib.hid (GE.out.below hb)
      have HCF := Lib.hid (HCE.out.below hb HCE.out.lt)
      have HVF := Lib.hid (HVE.out.below hb)
      clear hb p0 p1 p2 p3 p4 p5 p6 p7 p8 p9 p10 p11 p12
      go_wp2_with (first
        | ((with_reducible show wpList _ _ _ _ _ wf); refine wpList_loadS rfl 28 _ rfl w3.heap.size rfl (calCells ({ calZero with client := na % 256, inc := nb, seq := nd, kind := 11, ino := m0, gen := m1, name := ⟨l2.toArray⟩, tino := m3, tgen := m4, toname := ⟨l5.toArray⟩ }) (.slice A1 ({ calZero with client := na % 256, inc := nb, seq := nd, kind := 11, ino := m0, gen := m1, name := ⟨l2.toArray⟩, tino := m3, tgen := m4, toname := ⟨l5.toArray⟩ }).data.length cp1)) HCF.out _ Tryd.underlying28 rfl infoCall ?_; go_frame)
        | ((with_reducible show wpList _ _ _ _ _ wf); refine wpList_storeS rfl 28 _ _ rfl w.heap.size rfl (calCells ({ calZero with client := na % 256, inc := nb, seq := nd, kind := 11, ino := m0, gen := m1, name := ⟨l2.toArray⟩, tino := m3, tgen := m4, toname := ⟨l5.toArray⟩ }) (.slice A1 ({ calZero with client := na % 256, inc := nb, seq := nd, kind := 11, ino := m0, gen := m1, name := ⟨l2.toArray⟩, tino := m3, tgen := m4, toname := ⟨l5.toArray⟩ }).data.length cp1)) (calCells calZero (.slice none 0 0)) rfl (HGW.out.turn GF.out.2.2.1 (fun hh => by have := HSZ.out; rcases hh with hh | hh <;> omega)) rfl (cal_one rfl) infoCall ?_; intro w9 hk9 ht9; go_frame; have C9 := Lib.hid hk9; have B9 := Lib.hid ((HBW.out.trans (GF.out.2.2.1.below HBW.out.size fun k hk => by have := HSZ.out; have := HBW.out.size; rcases hk with hk | hk <;> omega)).trans (ht9.below (HBW.out.trans (GF.out.2.2.1.below HBW.out.size fun k hk => by have := HSZ.out; have := HBW.out.size; rcases hk with hk | hk <;> omega)).size fun k e => Nat.le_of_eq e.symm)); have T9 := Lib.hid ht9; clear hk9 ht9)
        | fail)
      have hx : getX l = ({ calZero with client := na % 256, inc := nb, seq := nd, kind := 11, ino := m0, gen := m1, name := ⟨l2.toArray⟩, tino := m3, tgen := m4, toname := ⟨l5.toArray⟩ }, 0) := by rw [HRS.out, HM.out, HCR2.out]; rfl
      have hv9 := HVF.out.turn T9.out (fun k hk e => by have := HBW.out.size; have := HSZ.out; omega)
      exact cal_end (cs := (calCells ({ calZero with client := na % 256, inc := nb, seq := nd, kind := 11, ino := m0, gen := m1, name := ⟨l2.toArray⟩, tino := m3, tgen := m4, toname := ⟨l5.toArray⟩ }) (.slice A1 ({ calZero with client := na % 256, inc := nb, seq := nd, kind := 11, ino := m0, gen := m1, name := ⟨l2.toArray⟩, tino := m3, tgen := m4, toname := ⟨l5.toArray⟩ }).data.length cp1))) rfl rfl C9.out rfl rfl (by rw [hx]; exact ⟨_, rfl, ⟨hv9.mono fun k _ hk => Nat.le_trans HBW.out.size hk, HOK.out⟩, B9.out⟩)
  · clear hkk
    have hs : GetQ (w.heap.size + 1) w3.heap.size (· < w.heap.size) W4 s4 ({ calZero with client := na % 256, inc := nb, seq := nd, kind := 12 }) (w5.setCell ⟨w3.heap.size, 3, none⟩ (.int .u8 12)) := HS5.out.put (i := 3) HC5.out rfl HV5.out
    have H6 := Lib.hid hs
    clear hs
    go_wp2_with fail
    have hcall := NumQ H6.out.1
    have hbdm0 := numN4 s4
    generalize hnm0 : (numR s4 4).1.toNat = m0 at hcall hbdm0
    generalize hst0 : (numR s4 4).2 = t0 at hcall
    have HNm0 := Lib.hid hnm0
    have HEt0 := Lib.hid hst0
    have HBDm0 := Lib.hid hbdm0
    have hlem0 : (m0 : Int) ≤ 4294967295 := by omega
    clear hnm0 hst0 hbdm0
    refine hcall.mono ?_
    clear hcall
    rintro e x0 ⟨rfl, hq, ht⟩
    have HAt0 := Lib.hid (show t0.all = l by rw [← HEt0.out]; exact (numR_all _ _).trans HAs4.out)
    have hs := H6.out.told hq ht
    obtain ⟨v, hc, hv⟩ := hs.2.1
    have kp := hc.cell 4 rfl
    have kf := hc.frozen 4
    have k3 : x0.cell? ⟨w3.heap.size, 3, none⟩ = some (.int .u8 12) := hc.cell 3 rfl
    have hs2 : GetQ (w.heap.size + 1) w3.heap.size (· < w.heap.size) W4 t0 ({ calZero with client := na % 256, inc := nb, seq := nd, kind := 12, ino := m0 }) (x0.setCell ⟨w3.heap.size, 4, none⟩ (.int .u32 (m0 : Int))) := hs.put (i := 4) hc rfl hv
    have G0 := Lib.hid hs2
    clear hs hc hv hs2 hq ht
    go_wp2_with fail
    clear kp kf k3
    have hcall := NumQ G0.out.1
    have hbdm1 := numN4 t0
    generalize hnm1 : (numR t0 4).1.toNat = m1 at hcall hbdm1
    generalize hst1 : (numR t0 4).2 = t1 at hcall
    have HNm1 := Lib.hid hnm1
    have HEt1 := Lib.hid hst1
    have HBDm1 := Lib.hid hbdm1
    have hlem1 : (m1 : Int) ≤ 4294967295 := by omega
    clear hnm1 hst1 hbdm1
    refine hcall.mono ?_
    clear hcall
    rintro e x1 ⟨rfl, hq, ht⟩
    have HAt1 := Lib.hid (show t1.all = l by rw [← HEt1.out]; exact (numR_all _ _).trans HAt0.out)
    have hs := G0.out.told hq ht
    obtain ⟨v, hc, hv⟩ := hs.2.1
    have kp := hc.cell 5 rfl
    have kf := hc.frozen 5
    have k3 : x1.cell? ⟨w3.heap.size, 3, none⟩ = some (.int .u8 12) := hc.cell 3 rfl
    have hs2 : GetQ (w.heap.size + 1) w3.heap.size (· < w.heap.size) W4 t1 ({ calZero with client := na % 256, inc := nb, seq := nd, kind := 12, ino := m0, gen := m1 }) (x1.setCell ⟨w3.heap.size, 5, none⟩ (.int .u32 (m1 : Int))) := hs.put (i := 5) hc rfl hv
    have G1 := Lib.hid hs2
    clear hs hc hv hs2 hq ht
    go_wp2_with fail
    clear kp kf k3
    refine (End_q G1.out.1).mono ?_
    rintro e we ⟨rfl, hb⟩
    have GE := Lib.hid (G1.out.below hb)
    clear hb
    have HR := Lib.hid (show (restR l).2 = t1 by
      show (tellL 4096 (restS (kRow (kindR l))) (headRS ⟨l, 0, 0⟩)).2 = t1
      rw [HKD.out, HHD.out]
      obtain rfl := HEt0.out
      obtain rfl := HEt1.out
      rfl)
    have HCR := Lib.hid (fun (h4 : na < 4) => show callR l = { calZero with client := na % 256, inc := nb, seq := nd, kind := 12, ino := m0, gen := m1 } by
      show restC (kindR l) (headC calZero (headR l).1) (tellL 4096 (restS (kRow (kindR l))) (headRS ⟨l, 0, 0⟩)).1 = _
      rw [HKD.out, HHD.out, headR_is, HEs1.out, HEs2.out, HEs3.out, HNna.out, HNnb.out, HNnd.out, HNnk.out, Nat.mod_eq_of_lt (show na < 256 by omega)]
      obtain rfl := HNm0.out
      obtain rfl := HEt0.out
      obtain rfl := HNm1.out
      rfl)
    by_cases hend : endR t1 = 0
    case neg =>
      obtain ⟨en, hen⟩ : ∃ en, endR t1 = en := ⟨_, rfl⟩
      rw [hen] at hend ⊢
      have hne : (en != 0) = true := by simpa using hend
      have heq : (en == 0) = false := by simpa using hend
      have HEN := Lib.hid (And.intro hen hend)
      clear hen hend
      go_wp2_with (first
        | ((with_reducible show wpList _ _ _ _ _ we); refine wpList_storeS rfl 28 _ _ rfl w.heap.size rfl (calCells calZero (.slice none 0 0)) (calCells calZero (.slice none 0 0)) rfl (HGW.out.turn GE.out.2.2.1 (fun hh => by have := HSZ.out; rcases hh with hh | hh <;> omega)) rfl (cal_one rfl) infoCall ?_; intro w9 hk9 ht9; go_frame; have C9 := Lib.hid hk9; have B9 := Lib.hid ((HBW.out.trans (GE.out.2.2.1.below HBW.out.size fun k hk => by have := HSZ.out; have := HBW.out.size; rcases hk with hk | hk <;> omega)).trans (ht9.below (HBW.out.trans (GE.out.2.2.1.below HBW.out.size fun k hk => by have := HSZ.out; have := HBW.out.size; rcases hk with hk | hk <;> omega)).size fun k e => Nat.le_of_eq e.symm)); have T9 := Lib.hid ht9; clear hk9 ht9)
        | fail)
      have hx := (by rw [getX_end HNL.out (by rw [HHD.out]; exact HE0.out) (by rw [HKD.out]; rfl) (by rw [HR.out, HEN.out.1]; exact HEN.out.2), HR.out, HEN.out.1] : getX l = (calZero, en))
      exact cal_end (cs := (calCells calZero (.slice none 0 0))) rfl rfl C9.out rfl rfl (by rw [hx]; exact ⟨_, rfl, calZ_v _ _, B9.out⟩)
    rw [hend]
    have hrest := getX_rest HNL.out (by rw [HHD.out]; exact HE0.out) (by rw [HKD.out]; rfl) (by rw [HR.out]; exact hend)
    have HRS := Lib.hid hrest
    clear hrest hend
    by_cases h4 : na < 4
    case neg =>
      have g4 : 4 ≤ na := by omega
      have g4' : decide (4 ≤ (na : Int)) = true := decide_eq_true (by omega)
      have hmf : mayX (callR l) = false := mayX_client (by unfold callR; rw [(restC_head _ _ _).1, headR_is]; show 4 ≤ (numR ⟨l, 0, 0⟩ 4).1.toNat; rw [HNna.out]; exact g4)
      have HMF := Lib.hid hmf
      clear hmf
      go_wp2_with (first
        | ((with_reducible show wpList _ _ _ _ _ we); refine wpList_storeS rfl 28 _ _ rfl w.heap.size rfl (calCells calZero (.slice none 0 0)) (calCells calZero (.slice none 0 0)) rfl (HGW.out.turn GE.out.2.2.1 (fun hh => by have := HSZ.out; rcases hh with hh | hh <;> omega)) rfl (cal_one rfl) infoCall ?_; intro w9 hk9 ht9; go_frame; have C9 := Lib.hid hk9; have B9 := Lib.hid ((HBW.out.trans (GE.out.2.2.1.below HBW.out.size fun k hk => by have := HSZ.out; have := HBW.out.size; rcases hk with hk | hk <;> omega)).trans (ht9.below (HBW.out.trans (GE.out.2.2.1.below HBW.out.size fun k hk => by have := HSZ.out; have := HBW.out.size; rcases hk with hk | hk <;> omega)).size fun k e => Nat.le_of_eq e.symm)); have T9 := Lib.hid ht9; clear hk9 ht9)
        | fail)
      have hx := (by rw [HRS.out, HMF.out]; rfl : getX l = (calZero, 5))
      exact cal_end (cs := (calCells calZero (.slice none 0 0))) rfl rfl C9.out rfl rfl (by rw [hx]; exact ⟨_, rfl, calZ_v _ _, B9.out⟩)
    have g4' : decide (4 ≤ (na : Int)) = false := decide_eq_false (by omega)
    have hcr := HCR.out h4
    obtain ⟨v, hc, hv⟩ := GE.out.2.1
    obtain ⟨A1, cp1, rfl, -⟩ := id hv
    have hok : calOk ({ calZero with client := na % 256, inc := nb, seq := nd, kind := 12, ino := m0, gen := m1 }) := ⟨by show na % 256 < 256; omega, HBDnb.out, HBDnd.out, by show (12 : Nat) < 256; decide, HBDm0.out, HBDm1.out, by show (0 : Nat) < 4294967296; decide, by show (0 : Nat) < 4294967296; decide, by show (0 : Nat) < 4294967296; decide, by show (0 : Nat) < 4294967296; decide⟩
    have HMY := Lib.hid (MayR_v ⟨hv, hok⟩)
    have HOK := Lib.hid hok
    obtain ⟨p0, p1, p2, p3, p4, p5, p6, p7, p8, p9, p10, p11, p12⟩ := Cs.cal hc
    have HCE := Lib.hid hc
    have HVE := Lib.hid hv
    have H4 := Lib.hid h4
    have HCR2 := Lib.hid hcr
    clear hc hv hok h4 hcr
    rcases hm : mayX (callR l) with _ | _
    · have hmc : mayX ({ calZero with client := na % 256, inc := nb, seq := nd, kind := 12, ino := m0, gen := m1 }) = false := by rw [← HCR2.out]; exact hm
      rw [hmc] at HMY
      have HM := Lib.hid hm
      clear hm hmc
      go_wp2_with fail
      refine HMY.out.mono ?_
      rintro e wf ⟨rfl, hb⟩
      have GF := Lib.hid (GE.out.below hb)
      clear hb p0 p1 p2 p3 p4 p5 p6 p7 p8 p9 p10 p11 p12
      go_wp2_with (first
        | ((with_reducible show wpList _ _ _ _ _ wf); refine wpList_storeS rfl 28 _ _ rfl w.heap.size rfl (calCells calZero (.slice none 0 0)) (calCells calZero (.slice none 0 0)) rfl (HGW.out.turn GF.out.2.2.1 (fun hh => by have := HSZ.out; rcases hh with hh | hh <;> omega)) rfl (cal_one rfl) infoCall ?_; intro w9 hk9 ht9; go_frame; have C9 := Lib.hid hk9; have B9 := Lib.hid ((HBW.out.trans (GF.out.2.2.1.below HBW.out.size fun k hk => by have := HSZ.out; have := HBW.out.size; rcases hk with hk | hk <;> omega)).trans (ht9.below (HBW.out.trans (GF.out.2.2.1.below HBW.out.size fun k hk => by have := HSZ.out; have := HBW.out.size; rcases hk with hk | hk <;> omega)).size fun k e => Nat.le_of_eq e.symm)); have T9 := Lib.hid ht9; clear hk9 ht9)
        | fail)
      have hx := (by rw [HRS.out, HM.out]; rfl : getX l = (calZero, 5))
      exact cal_end (cs := (calCells calZero (.slice none 0 0))) rfl rfl C9.out rfl rfl (by rw [hx]; exact ⟨_, rfl, calZ_v _ _, B9.out⟩)
    · have hmc : mayX ({ calZero with client := na % 256, inc := nb, seq := nd, kind := 12, ino := m0, gen := m1 }) = true := by rw [← HCR2.out]; exact hm
      rw [hmc] at HMY
      have HM := Lib.hid hm
      clear hm hmc
      go_wp2_with fail
      refine HMY.out.mono ?_
      rintro e wf ⟨rfl, hb⟩
      have GF := Lib.hid (GE.out.below hb)
      have HCF := Lib.hid (HCE.out.below hb HCE.out.lt)
      have HVF := Lib.hid (HVE.out.below hb)
      clear hb p0 p1 p2 p3 p4 p5 p6 p7 p8 p9 p10 p11 p12
      go_wp2_with (first
        | ((with_reducible show wpList _ _ _ _ _ wf); refine wpList_loadS rfl 28 _ rfl w3.heap.size rfl (calCells ({ calZero with client := na % 256, inc := nb, seq := nd, kind := 12, ino := m0, gen := m1 }) (.slice A1 ({ calZero with client := na % 256, inc := nb, seq := nd, kind := 12, ino := m0, gen := m1 }).data.length cp1)) HCF.out _ Tryd.underlying28 rfl infoCall ?_; go_frame)
        | ((with_reducible show wpList _ _ _ _ _ wf); refine wpList_storeS rfl 28 _ _ rfl w.heap.size rfl (calCells ({ calZero with client := na % 256, inc := nb, seq := nd, kind := 12, ino := m0, gen := m1 }) (.slice A1 ({ calZero with client := na % 256, inc := nb, seq := nd, kind := 12, ino := m0, gen := m1 }).data.length cp1)) (calCells calZero (.slice none 0 0)) rfl (HGW.out.turn GF.out.2.2.1 (fun hh => by have := HSZ.out; rcases hh with hh | hh <;> omega)) rfl (cal_one rfl) infoCall ?_; intro w9 hk9 ht9; go_frame; have C9 := Lib.hid hk9; have B9 := Lib.hid ((HBW.out.trans (GF.out.2.2.1.below HBW.out.size fun k hk => by have := HSZ.out; have := HBW.out.size; rcases hk with hk | hk <;> omega)).trans (ht9.below (HBW.out.trans (GF.out.2.2.1.below HBW.out.size fun k hk => by have := HSZ.out; have := HBW.out.size; rcases hk with hk | hk <;> omega)).size fun k e => Nat.le_of_eq e.symm)); have T9 := Lib.hid ht9; clear hk9 ht9)
        | fail)
      have hx : getX l = ({ calZero with client := na % 256, inc := nb, seq := nd, kind := 12, ino := m0, gen := m1 }, 0) := by rw [HRS.out, HM.out, HCR2.out]; rfl
      have hv9 := HVF.out.turn T9.out (fun k hk e => by have := HBW.out.size; have := HSZ.out; omega)
      exact cal_end (cs := (calCells ({ calZero with client := na % 256, inc := nb, seq := nd, kind := 12, ino := m0, gen := m1 }) (.slice A1 ({ calZero with client := na % 256, inc := nb, seq := nd, kind := 12, ino := m0, gen := m1 }).data.length cp1))) rfl rfl C9.out rfl rfl (by rw [hx]; exact ⟨_, rfl, ⟨hv9.mono fun k _ hk => Nat.le_trans HBW.out.size hk, HOK.out⟩, B9.out⟩)

end Go.Proofs.YthfaemcpheecfaaDoor
