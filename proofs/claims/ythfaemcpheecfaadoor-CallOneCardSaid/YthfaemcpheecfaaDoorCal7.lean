/- A whole call through a writer; Put. -/
import Derived.Test.YthfaemcpheecfaaDoorCal6
namespace Go.Proofs.YthfaemcpheecfaaDoor
open Go.RowKit Go.Shelf
set_option linter.unusedVariables false
set_option maxRecDepth 100000
set_option linter.unusedSimpArgs false

theorem wError_v (x : Value) (hx : x.oneCell' = true) (w : World) : Calls Tryd.prog 112 #[.agg #[x]] w fun e w' => e = .returned (.int .i64 0) ∧ Below w.heap.size w w' := by
  go_enter Tryd.func112, Tryd.ntmps112
  go_wp2_with fail
  go_ret
  exact ⟨rfl, below_new1 w _⟩
/-- a call that was laid -/
def PutOkW (wb pb : Nat) (v0 : Value) (l : List UInt8) (t : TypeId) (cs : Array Value) (w : World) (e : Ending) (w' : World) : Prop := e = .returned (.int .i64 0) ∧ ∃ v', WrAt w' wb v' l ∧ Cs w' pb t cs ∧ Turn w w' (fun k => LayF wb v0 k ∨ k = pb) ∧ OwnTo w v0 v'
theorem PutS.ok {wb pb : Nat} {v0 v : Value} {t : TypeId} {cs : Array Value} {w0 w : World} {l : List UInt8} (h : PutS wb pb v0 t cs w0 v l w) : PutOkW wb pb v0 l t cs w0 (.returned (.int .i64 0)) w := ⟨rfl, v, h.1, h.2.1, h.2.2.1, h.2.2.2.1⟩
set_option maxHeartbeats 8000000 in
theorem pass_w {w : World} {wb cb : Nat} {v0 cv : Value} {l : List UInt8} {F : Nat → Prop} {c : CallX} (hk : kindX c.kind = true) (h : WrAt w wb v0 l) (hc : Cs w cb 28 (calCells c cv).toArray) (hp : ¬ LayF wb v0 cb) (hx : BsV w F cv c.data) (hF : ∀ k, F k → (¬ LayF wb v0 k ∧ k ≠ cb) ∧ k < w.heap.size) (ho : calOk c) (hf : calFit c) (hl : l.length ≤ 100000) :
    Calls Tryd.prog 21 #[sideW wb, .pointer (some ⟨cb, 0, none⟩)] w fun e w' => PutOkW wb cb v0 (l ++ layL (headS ++ restS (kRow c.kind)) (headD c ++ restD (kRow c.kind) c)) 28 (calCells c cv).toArray w e w' := by
  have hl5 : l ++ layL (headS ++ restS (kRow c.kind)) (headD c ++ restD (kRow c.kind) c) = l ++ beL (c.client : Int) 4 ++ beL (c.inc : Int) 4 ++ beL (c.seq : Int) 8 ++ beL (c.kind : Int) 4 ++ layL (restS (kRow c.kind)) (restD (kRow c.kind) c) := by
    rw [layL_app _ _ _ _ rfl]
    simp [headS, headD, layL, layF]
  rw [hl5]
  clear hl5
  have HS0 := Lib.hid (PutS.start h hc hp)
  have HX := Lib.hid hx
  have HF := Lib.hid hF
  have HO := Lib.hid ho
  have HFIT := Lib.hid hf
  have HLL := Lib.hid hl
  have HR := Lib.hid fun u => rowOf_v c.kind u
  have HP := Lib.hid fun u v (hs : PutS wb cb v0 28 (calCells c cv).toArray w v (l ++ beL (c.client : Int) 4 ++ beL (c.inc : Int) 4 ++ beL (c.seq : Int) 8 ++ beL (c.kind : Int) 4) u) => rowPass_w c.kind hs.1 hs.2.1 hs.not (hs.bytes hx fun k hk => (hF k hk).1) (fun k hk => ⟨⟨hs.apart (fun k hk => (hF k hk).1) (fun k hk => (hF k hk).2) k hk, (hF k hk).1.2⟩, Nat.lt_of_lt_of_le (hF k hk).2 hs.2.2.1.size⟩) ho hf (by (try simp only [List.length_append, beL_length]); omega)
  rw [hk] at HR
  generalize layL (restS (kRow c.kind)) (restD (kRow c.kind) c) = ll at *
  generalize kRow c.kind = r at *
  obtain ⟨ro, rs, rn, rt, rd⟩ := r
  unfold kCells at HR HP
  dsimp only at HR HP
  have HK := Lib.hid hk
  have e1 := wr_error
  have e2 := wr_is
  clear h hc hp hx hF ho hf hl hk
  have HERR := Lib.hid fun u => wError_v (.pointer (some ⟨wb, 0, none⟩)) rfl u
  unfold sideW
  go_enter Tryd.func21, Tryd.ntmps21
  go_wp2_with fail
  refine (small_w (pb := cb) (i := 0) c.client HO.out.1 HS0.out.2.1 rfl HS0.out.1 HS0.out.not (by (try simp only [List.length_append, beL_length]); have := HLL.out; omega)).mono ?_
  rintro e w1 hq
  obtain ⟨v1, hs⟩ := HS0.out.pass hq
  obtain ⟨rfl, -⟩ := hq
  have HS1 := Lib.hid hs
  clear hs
  go_wp2_with fail
  refine (number_w (pb := cb) (i := 1) c.inc HO.out.2.1 (HS1.out.2.1.cell 1 rfl) HS1.out.1 (by (try simp only [List.length_append, beL_length]); have := HLL.out; omega)).mono ?_
  rintro e w2 hq
  obtain ⟨v2, hs⟩ := HS1.out.laid hq
  obtain ⟨rfl, -⟩ := hq
  have HS2 := Lib.hid hs
  clear hs
  go_wp2_with fail
  refine (great_w (pb := cb) (i := 2) c.seq HO.out.2.2.1 (HS2.out.2.1.cell 2 rfl) HS2.out.1 (by (try simp only [List.length_append, beL_length]); have := HLL.out; omega)).mono ?_
  rintro e w3 hq
  obtain ⟨v3, hs⟩ := HS2.out.laid hq
  obtain ⟨rfl, -⟩ := hq
  have HS3 := Lib.hid hs
  clear hs
  go_wp2_with fail
  refine (small_w (pb := cb) (i := 3) c.kind HO.out.2.2.2.1 HS3.out.2.1 rfl HS3.out.1 HS3.out.not (by (try simp only [List.length_append, beL_length]); have := HLL.out; omega)).mono ?_
  rintro e w4 hq
  obtain ⟨v4, hs⟩ := HS3.out.pass hq
  obtain ⟨rfl, -⟩ := hq
  have HS4 := Lib.hid hs
  clear hs
  go_wp2_with fail
  refine (HERR.out _).mono ?_
  rintro e w5 ⟨rfl, hb⟩
  have hs := HS4.out.below hb
  have k3 : w5.cell? ⟨cb, 3, none⟩ = some (.int .u8 (c.kind : Int)) := hs.2.1.cell 3 rfl
  have HS5 := Lib.hid hs
  clear hs hb
  go_wp2_with fail
  refine (HR.out _).mono ?_
  rintro e w6 ⟨rfl, hb⟩
  have HS6 := Lib.hid (HS5.out.below hb)
  clear hb
  go_wp2_with fail
  refine (HP.out _ _ (HS6.out.below (below_new1 w6 _))).mono ?_
  rintro e w8 hq
  obtain ⟨v8, hs⟩ := (HS6.out.below (below_new1 w6 _)).pass hq
  obtain ⟨rfl, -⟩ := hq
  have HS8 := Lib.hid hs
  clear hs
  go_wp2_with fail
  refine (HERR.out _).mono ?_
  rintro e w9 ⟨rfl, hb⟩
  have HS9 := Lib.hid (HS8.out.below hb)
  clear hb
  go_wp2_with fail
  go_ret
  exact HS9.out.ok
/-- what Put answers -/
def PutAns (c : CallX) (w : World) (e : Ending) (w' : World) : Prop :=
  (mayX c = false ∧ e = .returned (.tuple #[.slice none 0 0, .int .i64 2]) ∧ Below w.heap.size w w') ∨
  (mayX c = true ∧ ∃ v, e = .returned (.tuple #[v, .int .i64 0]) ∧ BsV w' (w.heap.size ≤ ·) v (putX c) ∧ TyB w' v ∧ (∀ k, v.ownBlock = some k → w.heap.size ≤ k) ∧ Below w.heap.size w w')
theorem nameL_len {l : List UInt8} (h : nameL l = true) : l.length ≤ 32 := by
  rw [nameL_head] at h
  simp [headL] at h
  omega
theorem mayX_fit {c : CallX} (h : mayX c = true) : kindX c.kind = true ∧ calFit c := by
  unfold mayX at h
  simp only [Bool.and_eq_true] at h
  obtain ⟨⟨⟨⟨⟨⟨⟨⟨h0, h1⟩, h2⟩, h3⟩, h4⟩, h5⟩, h6⟩, h7⟩, h8⟩ := h
  refine ⟨h0, ?_, ?_, ?_⟩
  · unfold mayNameX at h6
    split at h6
    · have := nameL_len h6; omega
    · rw [List.isEmpty_iff] at h6; rw [h6]; simp
  · unfold mayToX at h7
    split at h7
    · have := nameL_len h7; omega
    · simp only [Bool.and_eq_true] at h7
      rw [List.isEmpty_iff] at h7; rw [h7.2]; simp
  · unfold mayDataX at h8
    split at h8
    · simp only [Bool.and_eq_true, decide_eq_true_eq] at h8; omega
    · rw [beq_iff_eq] at h8; omega
theorem bytesX_le (l : List UInt8) : (bytesX l).length ≤ l.length + 7 := by
  rw [bytesX_length]
  have := padN_lt l.length
  omega
theorem putX_len {c : CallX} (hf : calFit c) : (putX c).length ≤ 20000 := by
  obtain ⟨f1, f2, f3⟩ := hf
  have h1 := bytesX_le (L c.name)
  have h2 := bytesX_le (L c.toname)
  have h3 := bytesX_le c.data
  unfold putX
  rw [layL_app _ _ _ _ rfl]
  rcases kRow_six c.kind with e | e | e | e | e | e
  all_goals
    rw [e]
    simp [headS, headD, restS, restD, layL, layF, kNone, beL_length]
    try omega
theorem lay0_apart {B wb cb k : Nat} (h : k < B) (hw : B ≤ wb) (hc : B ≤ cb) : ¬ LayF wb (.slice none 0 0) k ∧ k ≠ cb := by
  refine ⟨fun hh => ?_, by omega⟩
  rcases hh with hh | hh
  · omega
  · cases hh
set_option maxHeartbeats 8000000 in
theorem Put_v {F : Nat → Prop} {c : CallX} {v : Value} {w : World} (h : CalV w F c v) (hF : ∀ k, F k → k < w.heap.size) (hT : Tabs w) : Calls Tryd.prog 7 #[.agg (calCells c v).toArray] w fun e w' => PutAns c w e w' := by
  obtain ⟨A, cp, rfl, -⟩ := id h.1
  have HM := Lib.hid fun u (hb : Below w.heap.size w u) => May_v (h.below hb) (hT.below hb)
  have HH := Lib.hid h
  have HF := Lib.hid hF
  clear h hT hF
  generalize hA : calCells c (.slice A c.data.length cp) = cs at HM
  have HA := Lib.hid hA
  clear hA

  by_cases hm : mayX c = true
  · rw [hm] at HM
    obtain ⟨hk, hfit⟩ := mayX_fit hm
    have HP := Lib.hid fun (u : World) (wb cb : Nat) (h : WrAt u wb (.slice none 0 0) []) (hc : Cs u cb 28 (calCells c (.slice A c.data.length cp)).toArray) (hp : ¬ LayF wb (.slice none 0 0) cb) (hb : Below w.heap.size w u) (hcb : w.heap.size ≤ cb) (hwb : w.heap.size ≤ wb) =>
      pass_w hk h hc hp (HH.out.1.below hb) (F := F) (fun k hk => ⟨lay0_apart (HF.out k hk) hwb hcb, Nat.lt_of_lt_of_le (HF.out k hk) hb.size⟩) HH.out.2 hfit (by decide)
    have HPX := Lib.hid (show [] ++ layL (headS ++ restS (kRow c.kind)) (headD c ++ restD (kRow c.kind) c) = putX c from rfl)
    have HM2 := Lib.hid hm
    have HLEN := Lib.hid (putX_len hfit)
    clear hm hk hfit
    go_enter Tryd.func7, Tryd.ntmps7
    go_wp2_with (first
      | ((with_reducible show wpList _ _ _ _ _ w); refine wpList_boxS rfl 28 _ rfl cs rfl ?_; intro g1 w1 hk1 hb1 hg1; go_frame; have C1 := Lib.hid hk1; have B1 := Lib.hid hb1; have G1 := Lib.hid hg1; clear hk1 hb1 hg1)
      | ((with_reducible show wpList _ _ _ _ _ w1); refine wpList_loadS rfl 28 _ rfl g1 rfl cs C1.out _ Tryd.underlying28 rfl (by rw [← HA.out]; exact infoCall) ?_; go_frame))
    refine (HM.out _ B1.out).mono ?_
    rintro e w2 ⟨rfl, hb⟩
    have C2 := Lib.hid (C1.out.below hb C1.out.lt)
    have B2 := Lib.hid (below_chain B1.out hb)
    clear hb
    go_wp2_with fail
    have hb3 := below_new1 w2 (.cells #[.slice none 0 0] 45)
    have hb4 := below_new1 (w2.alloc (.cells #[.slice none 0 0] 45)) (.cells #[.pointer (some ⟨w2.heap.size, 0, none⟩)] 47)
    have hb5 := below_chain hb3 hb4
    have hw0 : WrAt ((w2.alloc (.cells #[.slice none 0 0] 45)).alloc (.cells #[.pointer (some ⟨w2.heap.size, 0, none⟩)] 47)) w2.heap.size (.slice none 0 0) [] := (⟨Cs.new w2 45 #[.slice none 0 0], World.ownsRow_nil _ _ _ _⟩ : WrAt (w2.alloc (.cells #[.slice none 0 0] 45)) w2.heap.size (.slice none 0 0) []).below hb4
    have hc0 := C2.out.below hb5 C2.out.lt
    have hbx := Cs.new (w2.alloc (.cells #[.slice none 0 0] 45)) 47 #[.pointer (some ⟨w2.heap.size, 0, none⟩)]
    have hlt := C2.out.lt
    have hg1 := G1.out
    have hs2 := B2.out.size
    have hsz : (w2.alloc (.cells #[.slice none 0 0] 45)).heap.size = w2.heap.size + 1 := World.size_alloc _ _
    have hpass := HP.out _ w2.heap.size g1 hw0 (by rw [HA.out]; exact hc0) (fun hh => by
      rcases hh with hh | hh
      · omega
      · cases hh) (below_chain B2.out hb5) hg1 hs2
    rw [HPX.out] at hpass
    have HB5 := Lib.hid (below_chain B2.out hb5)
    have HBX := Lib.hid hbx
    have HSZ := Lib.hid hsz
    have HLT := Lib.hid hlt
    have HG1 := Lib.hid hg1
    have HS2 := Lib.hid hs2
    refine hpass.mono ?_
    clear hpass hw0 hc0 hbx hb3 hb4 hb5 hlt hg1 hs2 hsz
    rintro e w3 ⟨rfl, v3, h1, -, h3, h4⟩
    have hbox := HBX.out.turn h3 (fun hh => by
      have := HSZ.out
      have := HLT.out
      rcases hh with hh | hh
      · rcases hh with hh | hh
        · omega
        · cases hh
      · omega)
    rw [HSZ.out] at hbox
    have kb : w3.cell? ⟨w2.heap.size + 1, 0, none⟩ = some (.pointer (some ⟨w2.heap.size, 0, none⟩)) := hbox.cell 0 rfl
    have B3 := Lib.hid (HB5.out.trans (h3.below HB5.out.size fun k hk => by
      have := HG1.out
      have := HS2.out
      rcases hk with hk | hk
      · rcases hk with hk | hk
        · omega
        · cases hk
      · omega))
    have HBare := Lib.hid (Bare_w h1 (by have := HLEN.out; omega))
    clear h1 h3 h4 hbox
    go_wp2_with fail
    refine HBare.out.mono ?_
    rintro e w4 ⟨v, rfl, hv, hty, hown, hb⟩
    have HV := Lib.hid (And.intro hv (And.intro hty (And.intro hown hb)))
    clear hv hty hown hb
    go_wp2_with fail
    go_ret2
    have h4 := HV.out
    exact .inr ⟨HM2.out, _, rfl, h4.1.mono fun k _ h => Nat.le_trans B3.out.size h, h4.2.1, fun k hk => Nat.le_trans B3.out.size (h4.2.2.1 k hk), below_chain B3.out h4.2.2.2⟩
  · have hm := Bool.not_eq_true _ ▸ hm
    rw [hm] at HM
    have HM2 := Lib.hid hm
    clear hm
    go_enter Tryd.func7, Tryd.ntmps7
    go_wp2_with (first
      | ((with_reducible show wpList _ _ _ _ _ w); refine wpList_boxS rfl 28 _ rfl cs rfl ?_; intro g1 w1 hk1 hb1 hg1; go_frame; have C1 := Lib.hid hk1; have B1 := Lib.hid hb1; clear hk1 hb1 hg1)
      | ((with_reducible show wpList _ _ _ _ _ w1); refine wpList_loadS rfl 28 _ rfl g1 rfl cs C1.out _ Tryd.underlying28 rfl (by rw [← HA.out]; exact infoCall) ?_; go_frame))
    refine (HM.out _ B1.out).mono ?_
    rintro e w2 ⟨rfl, hb⟩
    have B2 := Lib.hid (below_chain B1.out hb)
    clear hb
    go_wp2_with fail
    go_ret2
    exact .inl ⟨HM2.out, rfl, B2.out⟩


end Go.Proofs.YthfaemcpheecfaaDoor
