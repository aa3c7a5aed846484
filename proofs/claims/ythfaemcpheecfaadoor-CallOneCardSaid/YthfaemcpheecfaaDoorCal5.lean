/- A call's fields through a reader: number, great, some, small, text, handle. -/
import Derived.Test.YthfaemcpheecfaaDoorCal4
import Derived.Test.YthfaemcpheecfaaDoorXd4
namespace Go.Proofs.YthfaemcpheecfaaDoor
open Go.RowKit Go.Shelf
set_option linter.unusedVariables false
set_option maxRecDepth 100000
set_option linter.unusedSimpArgs false

/-- a field, told into its cell -/
def GotR (rb pb : Nat) (F : Nat → Prop) (s : RS) (t : TypeId) (cs : Array Value) (w : World) (e : Ending) (w' : World) : Prop := e = .returned (.tuple #[]) ∧ RdAt w' rb s F ∧ Cs w' pb t cs ∧ Turn w w' (fun k => k = rb ∨ k = pb)
theorem gotR_end {w w0 w1 : World} {rb pb i : Nat} {F : Nat → Prop} {s : RS} {u : Value} {t : TypeId} {cs : Array Value} (hb : Below w.heap.size w w0) (h1 : RdAt w1 rb s F) (h2 : Turn w0 w1 (· = rb)) (hk : Cs w1 pb t cs) (hne : pb ≠ rb) (hF : ¬ F pb) :
    GotR rb pb F s t (cs.setIfInBounds i u) w (.returned (.tuple #[])) (w1.setCell ⟨pb, i, none⟩ u) := by
  have ht := Turn.setAt w1 pb i u
  refine ⟨rfl, h1.turn ht (fun e => hne e.symm) (fun k hk e => hF (e ▸ hk)), hk.set i u, ?_⟩
  exact ((Turn.of_below hb _).trans (h2.mono fun k _ h => .inl h) fun _ _ h => h).trans (ht.mono fun k _ h => .inr h) fun _ _ h => h
set_option maxHeartbeats 4000000 in
theorem number_g {w : World} {rb pb i : Nat} {s : RS} {F : Nat → Prop} {t : TypeId} {cs : Array Value} (h : RdAt w rb s F) (hc : Cs w pb t cs) (hi : i < cs.size) (hne : pb ≠ rb) (hF : ¬ F pb) :
    Calls Tryd.prog 41 #[sideR rb, .pointer (some ⟨pb, i, none⟩)] w fun e w' => GotR rb pb F (numR s 4).2 t (cs.setIfInBounds i (.int .u32 ((numR s 4).1.toNat : Int))) w e w' := by
  have e1 := rd_isnt
  have e2 := rd_is
  have hb := below_new1 w (.cells #[.pointer (some ⟨rb, 0, none⟩)] 57)
  have HT := Lib.hid (Number_r (h.below hb))
  have hbd := numR_bd s 4 (by decide)
  have hnn : (numR s 4).1 = ((numR s 4).1.toNat : Int) := (Int.toNat_of_nonneg hbd.1).symm
  rw [hnn] at HT
  generalize (numR s 4).1.toNat = n at *
  generalize (numR s 4).2 = s' at *
  have HC := Lib.hid (hc.below hb hc.lt)
  have HB := Lib.hid hb
  have HN := Lib.hid hne
  have HF := Lib.hid hF
  have HI := Lib.hid hi
  clear h hc hb hne hF hi hbd hnn
  unfold sideR
  go_enter Tryd.func41, Tryd.ntmps41
  go_wp2_with fail
  refine HT.out.mono ?_
  rintro e w1 ⟨rfl, h1, h2⟩
  have hk := HC.out.turn h2 HN.out
  have kp := hk.cell i (Array.getElem?_eq_getElem HI.out)
  have kf := hk.frozen i
  have HK := Lib.hid hk
  have H1 := Lib.hid h1
  have H2 := Lib.hid h2
  clear hk h1 h2
  go_wp2_with fail
  go_end0
  exact gotR_end HB.out H1.out H2.out HK.out HN.out HF.out
set_option maxHeartbeats 4000000 in
theorem great_g {w : World} {rb pb i : Nat} {s : RS} {F : Nat → Prop} {t : TypeId} {cs : Array Value} (h : RdAt w rb s F) (hc : Cs w pb t cs) (hi : i < cs.size) (hne : pb ≠ rb) (hF : ¬ F pb) :
    Calls Tryd.prog 42 #[sideR rb, .pointer (some ⟨pb, i, none⟩)] w fun e w' => GotR rb pb F (numR s 8).2 t (cs.setIfInBounds i (.int .u64 ((numR s 8).1.toNat : Int))) w e w' := by
  have e1 := rd_isnt
  have e2 := rd_is
  have hb := below_new1 w (.cells #[.pointer (some ⟨rb, 0, none⟩)] 57)
  have HT := Lib.hid (Great_r (h.below hb))
  have hbd := numR_bd s 8 (by decide)
  have hnn : (numR s 8).1 = ((numR s 8).1.toNat : Int) := (Int.toNat_of_nonneg hbd.1).symm
  rw [hnn] at HT
  generalize (numR s 8).1.toNat = n at *
  generalize (numR s 8).2 = s' at *
  have HC := Lib.hid (hc.below hb hc.lt)
  have HB := Lib.hid hb
  have HN := Lib.hid hne
  have HF := Lib.hid hF
  have HI := Lib.hid hi
  clear h hc hb hne hF hi hbd hnn
  unfold sideR
  go_enter Tryd.func42, Tryd.ntmps42
  go_wp2_with fail
  refine HT.out.mono ?_
  rintro e w1 ⟨rfl, h1, h2⟩
  have hk := HC.out.turn h2 HN.out
  have kp := hk.cell i (Array.getElem?_eq_getElem HI.out)
  have kf := hk.frozen i
  have HK := Lib.hid hk
  have H1 := Lib.hid h1
  have H2 := Lib.hid h2
  clear hk h1 h2
  go_wp2_with fail
  go_end0
  exact gotR_end HB.out H1.out H2.out HK.out HN.out HF.out
/-- bytes, told into their cell -/
def GotB (rb pb i : Nat) (F : Nat → Prop) (s : RS) (t : TypeId) (cs : Array Value) (l : List UInt8) (w : World) (e : Ending) (w' : World) : Prop := e = .returned (.tuple #[]) ∧ RdAt w' rb s F ∧ (∃ v, Cs w' pb t (cs.setIfInBounds i v) ∧ BsV w' (w.heap.size ≤ ·) v l) ∧ Turn w w' (fun k => k = rb ∨ k = pb)
set_option maxHeartbeats 4000000 in
theorem some_g {w : World} {rb pb i : Nat} {s : RS} {F : Nat → Prop} {t : TypeId} {cs : Array Value} (h : RdAt w rb s F) (hc : Cs w pb t cs) (hi : i < cs.size) (hne : pb ≠ rb) (hF : ¬ F pb) (hlen : s.all.length ≤ 140737488355328) :
    Calls Tryd.prog 57 #[sideR rb, .pointer (some ⟨pb, i, none⟩)] w fun e w' => GotB rb pb i F (bytesR s 4096).2 t cs (bytesR s 4096).1 w e w' := by
  have e1 := rd_isnt
  have e2 := rd_is
  have hb := below_new1 w (.cells #[.pointer (some ⟨rb, 0, none⟩)] 57)
  have HT := Lib.hid (Bytes_r 4096 (by decide) (by decide) hlen (h.below hb))
  generalize (bytesR s 4096).1 = l at *
  generalize (bytesR s 4096).2 = s' at *
  have HC := Lib.hid (hc.below hb hc.lt)
  have HB := Lib.hid hb
  have HN := Lib.hid hne
  have HF := Lib.hid hF
  have HI := Lib.hid hi
  have HL := Lib.hid hc.lt
  clear h hc hb hne hF hi hlen
  unfold sideR
  go_enter Tryd.func57, Tryd.ntmps57
  go_wp2_with fail
  refine HT.out.mono ?_
  rintro e w1 ⟨v, rfl, hv, -, -, h1, h2⟩
  obtain ⟨A, n, c, rfl⟩ := hv.slice
  have hk := HC.out.turn h2 HN.out
  have kp := hk.cell i (Array.getElem?_eq_getElem HI.out)
  have kf := hk.frozen i
  have HK := Lib.hid hk
  have H1 := Lib.hid h1
  have H2 := Lib.hid h2
  have HV := Lib.hid hv
  clear hk h1 h2 hv
  go_wp2_with fail
  go_end0
  obtain ⟨a1, a2, a3, a4⟩ := gotR_end (i := i) (u := .slice A n c) HB.out H1.out H2.out HK.out HN.out HF.out
  refine ⟨a1, a2, ⟨_, a3, ?_⟩, a4⟩
  exact (HV.out.turn (Turn.setAt w1 pb i _) (fun k hk e => by subst e; have := HL.out; have := HB.out.size; omega)).mono fun k _ h => Nat.le_trans HB.out.size h
theorem turn_two {w w0 w1 : World} {rb g : Nat} (hb : Below w.heap.size w w0) (h : Turn w0 w1 (fun k => k = rb ∨ k = g)) (hg : w.heap.size ≤ g) : Turn w w1 (· = rb) := (Turn.of_below hb _).trans h fun k hk hh => by
  rcases hh with hh | hh
  · exact hh
  · omega
set_option maxHeartbeats 4000000 in
theorem small_g {w : World} {rb pb i : Nat} {s : RS} {F : Nat → Prop} {t : TypeId} {cs : Array Value} (n0 : Nat) (hn : n0 < 256) (h : RdAt w rb s F) (hc : Cs w pb t cs) (hv : cs[i]? = some (.int .u8 (n0 : Int))) (hne : pb ≠ rb) (hF : ∀ k, F k → k ≠ pb ∧ k < w.heap.size) :
    Calls Tryd.prog 40 #[sideR rb, .pointer (some ⟨pb, i, none⟩)] w fun e w' => GotR rb pb F (numR s 4).2 t (cs.setIfInBounds i (.int .u8 ((min (numR s 4).1.toNat 255 : Nat) : Int))) w e w' := by
  have hn' : (n0 : Int) ≤ 255 := by omega
  have k0 := hc.cell i hv
  have hb := below_new1 w (.cells #[.int .u32 (n0 : Int)] 22)
  have hnew := Cs.new w 22 #[.int .u32 (n0 : Int)]
  have HN := Lib.hid (number_g (pb := w.heap.size) (i := 0) (h.below hb) hnew Nat.zero_lt_one (by have := h.lt; omega) (fun hh => by have := (hF _ hh).2; omega))
  have hbd := numR_bd s 4 (by decide)
  have hbig : ((numR s 4).1.toNat : Int) ≤ 4294967295 := by have := numR_four s; omega
  generalize (numR s 4).1.toNat = n at *
  generalize (numR s 4).2 = s' at *
  have hmin : ((min n 255 : Nat) : Int) = min (n : Int) 255 := by omega
  rw [hmin]
  have hmin8 : min (n : Int) 255 ≤ 255 := by omega
  have hmin0 : 0 ≤ min (n : Int) 255 := by omega
  have HC := Lib.hid (hc.below hb hc.lt)
  have HV := Lib.hid hv
  have HB := Lib.hid hb
  have HP := Lib.hid hne
  have HF := Lib.hid hF
  have HL := Lib.hid hc.lt
  clear hc hv h hne hF hb hnew hmin hbd
  go_enter Tryd.func40, Tryd.ntmps40
  go_wp2_with fail
  refine HN.out.mono ?_
  rintro e w1 ⟨rfl, h1, h2, h3⟩
  have kw : w1.cell? ⟨w.heap.size, 0, none⟩ = some (.int .u32 (n : Int)) := h2.cell 0 rfl
  have hk := HC.out.turn h3 (fun hh => by rcases hh with hh | hh; exact HP.out hh; have := HL.out; omega)
  have kp := hk.cell i HV.out
  have kf := hk.frozen i
  have HK := Lib.hid hk
  have H1 := Lib.hid h1
  have H3 := Lib.hid (turn_two HB.out h3 (Nat.le_refl _))
  clear hk h1 h2 h3
  go_wp2_with fail
  go_end0
  exact gotR_end (Below.refl _ _) H1.out H3.out HK.out HP.out (fun hh => (HF.out _ hh).1 rfl)
set_option maxHeartbeats 4000000 in
theorem text_g {w : World} {rb pb i : Nat} {s : RS} {F : Nat → Prop} {t : TypeId} {cs : Array Value} (s0 : ByteArray) (hs : s0.size ≤ 140737488355328) (h : RdAt w rb s F) (hc : Cs w pb t cs) (hv : cs[i]? = some (.string s0)) (hne : pb ≠ rb) (hF : ∀ k, F k → k ≠ pb ∧ k < w.heap.size) (hlen : s.all.length ≤ 140737488355328) :
    Calls Tryd.prog 58 #[sideR rb, .pointer (some ⟨pb, i, none⟩)] w fun e w' => GotR rb pb F (bytesR s 4096).2 t (cs.setIfInBounds i (.string ⟨(bytesR s 4096).1.toArray⟩)) w e w' := by
  obtain ⟨W, cp, hcv, hb, hsz, hbv⟩ := conv_str s0 hs w
  have k0 := hc.cell i hv
  generalize (L s0).length = n0 at *
  have hb2 := below_new1 W (.cells #[.slice (some ⟨w.heap.size, 0, none⟩) n0 cp] 26)
  have hbb := below_chain hb hb2
  have hcell := Cs.new W 26 #[.slice (some ⟨w.heap.size, 0, none⟩) n0 cp]
  have HN := Lib.hid (some_g (pb := W.heap.size) (i := 0) (h.below hbb) hcell Nat.zero_lt_one (by have := h.lt; omega) (fun hh => by have := (hF _ hh).2; omega) hlen)
  generalize (bytesR s 4096).1 = l at *
  generalize (bytesR s 4096).2 = s' at *
  have HC := Lib.hid (hc.below hbb hc.lt)
  have HV := Lib.hid hv
  have HB := Lib.hid hbb
  have HP := Lib.hid hne
  have HF := Lib.hid hF
  have HL := Lib.hid hc.lt
  have HSZ := Lib.hid hsz
  clear hc hv h hne hF hb hb2 hbb hcell hbv hsz hs hlen
  go_enter Tryd.func58, Tryd.ntmps58
  go_wp2_with fail
  refine HN.out.mono ?_
  rintro e w1 ⟨rfl, h1, ⟨v, h2, hv⟩, h3⟩
  obtain ⟨A, m, c, rfl⟩ := id hv.slice
  obtain ⟨A', c', e, hrd, -⟩ := id hv
  cases e
  have hcb := conv_rd hrd.rd c
  have kw : w1.cell? ⟨W.heap.size, 0, none⟩ = some (.slice A l.length c) := h2.cell 0 rfl
  have hk := HC.out.turn h3 (fun hh => by rcases hh with hh | hh; exact HP.out hh; have := HL.out; have := HSZ.out; omega)
  have kp := hk.cell i HV.out
  have kf := hk.frozen i
  have HK := Lib.hid hk
  have H1 := Lib.hid h1
  have H3 := Lib.hid (turn_two HB.out h3 (by have := HSZ.out; omega))
  clear hk h1 h2 h3 hrd hv hcv
  go_wp2_with fail
  go_end0
  exact gotR_end (Below.refl _ _) H1.out H3.out HK.out HP.out (fun hh => (HF.out _ hh).1 rfl)
theorem GotR.set {rb pb : Nat} {F : Nat → Prop} {s s' : RS} {t : TypeId} {cs cs' : Array Value} {w w1 w2 : World} {e e' : Ending} (h : GotR rb pb F s t cs w e w1) (k : GotR rb pb F s' t cs' w1 e' w2) : GotR rb pb F s' t cs' w e' w2 := ⟨k.1, k.2.1, k.2.2.1, h.2.2.2.trans k.2.2.2 fun _ _ h => h⟩
set_option maxHeartbeats 4000000 in
theorem handle_g {w : World} {rb pb i : Nat} {s : RS} {F : Nat → Prop} {t : TypeId} {cs : Array Value} (h : RdAt w rb s F) (hc : Cs w pb t cs) (hi : i + 1 < cs.size) (hne : pb ≠ rb) (hF : ¬ F pb) :
    Calls Tryd.prog 56 #[sideR rb, .pointer (some ⟨pb, i, none⟩)] w fun e w' => GotR rb pb F (numR (numR s 4).2 4).2 t ((cs.setIfInBounds i (.int .u32 ((numR s 4).1.toNat : Int))).setIfInBounds (i + 1) (.int .u32 ((numR (numR s 4).2 4).1.toNat : Int))) w e w' := by
  have HN := Lib.hid (number_g (pb := pb) (i := i) h hc (by omega) hne hF)
  have HP := Lib.hid hne
  have HF := Lib.hid hF
  have HI := Lib.hid hi
  clear h hc hi hne hF
  go_enter Tryd.func56, Tryd.ntmps56
  go_wp2_with fail
  refine HN.out.mono ?_
  rintro e w1 hq
  obtain ⟨rfl, h1, h2, h3⟩ := id hq
  have HM := Lib.hid (number_g (pb := pb) (i := i + 1) h1 h2 (by simpa using HI.out) HP.out HF.out)
  have HQ := Lib.hid hq
  clear hq h1 h2 h3
  go_wp2_with fail
  refine HM.out.mono ?_
  rintro e w2 hq
  have HQ2 := Lib.hid (HQ.out.set hq)
  obtain ⟨rfl, -⟩ := hq
  go_wp2_with fail
  go_end0
  exact HQ2.out

end Go.Proofs.YthfaemcpheecfaaDoor
