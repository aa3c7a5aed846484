/- The program: lay, Add, Cut; the bundle of its contracts. -/
import Derived.Test.YthjcnijageiaiaaSpZ3
import Derived.Test.YthjcnijageiaiaaSpZ7
namespace Go.Proofs.Ythjcnijageiaiaa
open Go.RowKit Go.Shelf
set_option linter.unusedVariables false
set_option maxRecDepth 100000
set_option linter.unusedSimpArgs false

/-- what lay answers -/
def LaySp (l : List Sp) (s i : Sp) (w : World) (e : Ending) (w' : World) : Prop :=
  (mayS l = true ∧ s.1 ≤ s.2 ∧ ∃ v, e = .returned (.tuple #[v, .int .i64 0]) ∧ AppX spE w v (gatherP (partsP l s i)) w') ∨
  (¬ (mayS l = true ∧ s.1 ≤ s.2) ∧ e = .returned (.tuple #[.slice none 0 0, .int .i64 2]) ∧ Below w.heap.size w w')
set_option maxHeartbeats 8000000 in
theorem Lay_v (l : List Sp) (s i : Sp) (A : Option Addr) (c : Nat) (F : Nat → Prop) (w : World) (hl : l.length ≤ 10000000) (hs : s.1 < 4294967296 ∧ s.2 < 4294967296) (hi : i.1 < 4294967296 ∧ i.2 < 4294967296) (r : RdX spE w F A l) :
    Calls Try.prog 25 #[.slice A l.length c, .agg (spC s).toArray, .agg (spC i).toArray] w fun e w' => LaySp l s i w e w' := by
  have HM := Lib.hid fun (u : World) (hb : Below w.heap.size w u) => May_v l A c F u (by omega) (r.below hb)
  have HPT := Lib.hid fun (u : World) (hb : Below w.heap.size w u) => Parts_v l s i A c F u (r.below hb)
  have HGT := Lib.hid fun (g1 g2 g3 : Nat) (u : World) (hp : PBox l s i A c g1 g2 g3 u) => callsIn_wide.1 (gather_in u 35 #[.pointer (some ⟨g1, 0, none⟩), .pointer (some ⟨g2, 0, none⟩), .pointer (some ⟨g3, 0, none⟩)] (enters_of Try.func35 (by kernel_rfl) rfl) (partsP l s i) (2 * l.length + 1) (by omega) (parts1_seq 4 (by decide) l s i A c g1 g2 g3 hl hs hi u hp))
  clear r hs hi hl
  go_enter Try.func25, Try.ntmps25
  go_wp2_with (first
    | ((with_reducible show wpList _ _ _ _ _ w); refine wpList_boxS rfl 25 _ rfl (spC s) rfl ?_; intro g1 w1 hk1 hb1 hg1; go_frame; have C1 := Lib.hid hk1; have B1 := Lib.hid hb1; have G1 := Lib.hid hg1; clear hk1 hb1 hg1)
    | ((with_reducible show wpList _ _ _ _ _ w1); refine wpList_boxS rfl 25 _ rfl (spC i) rfl ?_; intro g2 w2 hk2 hb2 hg2; go_frame; have C2 := Lib.hid hk2; have B2 := Lib.hid (below_chain B1.out hb2); have C12 := Lib.hid (C1.out.below hb2 C1.out.lt); clear hk2 hb2 hg2)
    | fail)
  refine (HM.out _ B2.out).mono ?_
  rintro e w3 ⟨rfl, hb⟩
  have B3 := Lib.hid (below_chain B2.out hb)
  have C13 := Lib.hid (C12.out.below hb C12.out.lt)
  have C23 := Lib.hid (C2.out.below hb C2.out.lt)
  clear hb
  have q0 : w3.cell? ⟨g1, 0, none⟩ = some (.int .u32 (s.1 : Int)) := C13.out.cell 0 rfl
  have q1 : w3.cell? ⟨g1, 1, none⟩ = some (.int .u32 (s.2 : Int)) := C13.out.cell 1 rfl
  cases hm : mayS l
  · have HF := Lib.hid (show ¬ (mayS l = true ∧ s.1 ≤ s.2) from fun h => by rw [hm] at h; cases h.1)
    clear hm
    go_wp2_with fail
    go_ret2
    exact .inr ⟨HF.out, rfl, B3.out⟩
  · have HMM := Lib.hid hm
    clear hm
    by_cases hs : s.1 ≤ s.2
    · have e1 : ¬ s.2 < s.1 := by omega
      go_wp2_with (first
        | ((with_reducible show wpList _ _ _ _ _ w3); refine wpList_loadS rfl 25 _ rfl g1 rfl (spC s) C13.out _ Try.underlying25 rfl infoSpan ?_; go_frame)
        | ((with_reducible show wpList _ _ _ _ _ w3); refine wpList_loadS rfl 25 _ rfl g2 rfl (spC i) C23.out _ Try.underlying25 rfl infoSpan ?_; go_frame)
        | fail)
      refine (HPT.out _ B3.out).mono ?_
      rintro e w4 ⟨p1, p2, p3, rfl, hp, hb⟩
      have HP4 := Lib.hid hp
      have B4 := Lib.hid (below_chain B3.out hb)
      clear hp hb
      go_wp2_with fail
      refine (HGT.out p1 p2 p3 _ HP4.out).mono ?_
      rintro e w5 ⟨v, rfl, h5⟩
      have H5 := Lib.hid (h5.old B4.out)
      clear h5
      go_wp2_with fail
      go_ret2
      exact .inl ⟨HMM.out, hs, _, rfl, H5.out⟩
    · have e1 : s.2 < s.1 := by omega
      go_wp2_with fail
      go_ret2
      exact .inr ⟨fun h => hs h.2, rfl, B3.out⟩
set_option maxHeartbeats 8000000 in
theorem Add_v (l : List Sp) (s : Sp) (A : Option Addr) (c : Nat) (F : Nat → Prop) (w : World) (hl : l.length ≤ 10000000) (hs : s.1 < 4294967296 ∧ s.2 < 4294967296) (r : RdX spE w F A l) :
    Calls Try.prog 8 #[.slice A l.length c, .agg (spC s).toArray] w fun e w' => DidSp AddOf l s w e w' := by
  have HL := Lib.hid fun (u : World) (hb : Below w.heap.size w u) => Lay_v l s s A c F u hl hs hs (r.below hb)
  have HN := Lib.hid (show (gatherP (partsP l s s)).length ≤ 2 * l.length + 2 from by have := gatherP_len (partsP l s s); rw [partsP_len] at this; omega)
  clear r hs hl
  go_enter Try.func8, Try.ntmps8
  go_wp2_with (first
    | ((with_reducible show wpList _ _ _ _ _ w); refine wpList_boxS rfl 25 _ rfl (spC s) rfl ?_; intro g1 w1 hk1 hb1 hg1; go_frame; have C1 := Lib.hid hk1; have B1 := Lib.hid hb1; have G1 := Lib.hid hg1; clear hk1 hb1 hg1)
    | ((with_reducible show wpList _ _ _ _ _ w1); refine wpList_loadS rfl 25 _ rfl g1 rfl (spC s) C1.out _ Try.underlying25 rfl infoSpan ?_; go_frame)
    | fail)
  refine (HL.out _ B1.out).mono ?_
  rintro e w2 (⟨h1, h2, v, rfl, h3⟩ | ⟨h1, rfl, h3⟩)
  · have H3 := Lib.hid (h3.old B1.out)
    clear h3
    go_wp2_with fail
    go_ret2
    exact .inl ⟨h1, h2, _, _, rfl, lay_add h1 h2, HN.out, H3.out⟩
  · have B2 := Lib.hid (below_chain B1.out h3)
    clear h3
    go_wp2_with fail
    go_ret2
    exact .inr ⟨h1, rfl, B2.out⟩
set_option maxHeartbeats 8000000 in
theorem Cut_v (l : List Sp) (s : Sp) (A : Option Addr) (c : Nat) (F : Nat → Prop) (w : World) (hl : l.length ≤ 10000000) (hs : s.1 < 4294967296 ∧ s.2 < 4294967296) (r : RdX spE w F A l) :
    Calls Try.prog 10 #[.slice A l.length c, .agg (spC s).toArray] w fun e w' => DidSp CutOf l s w e w' := by
  have HL := Lib.hid fun (u : World) (hb : Below w.heap.size w u) => Lay_v l s (0, 0) A c F u hl hs ⟨by decide, by decide⟩ (r.below hb)
  have HN := Lib.hid (show (gatherP (partsP l s (0, 0))).length ≤ 2 * l.length + 2 from by have := gatherP_len (partsP l s (0, 0)); rw [partsP_len] at this; omega)
  clear r hs hl
  go_enter Try.func10, Try.ntmps10
  go_wp2_with (first
    | ((with_reducible show wpList _ _ _ _ _ w); refine wpList_boxS rfl 25 _ rfl (spC s) rfl ?_; intro g1 w1 hk1 hb1 hg1; go_frame; have C1 := Lib.hid hk1; have B1 := Lib.hid hb1; have G1 := Lib.hid hg1; clear hk1 hb1 hg1)
    | ((with_reducible show wpList _ _ _ _ _ w1); refine wpList_loadS rfl 25 _ rfl g1 rfl (spC s) C1.out _ Try.underlying25 rfl infoSpan ?_; go_frame)
    | fail)
  refine (HL.out _ B1.out).mono ?_
  rintro e w2 (⟨h1, h2, v, rfl, h3⟩ | ⟨h1, rfl, h3⟩)
  · have H3 := Lib.hid (h3.old B1.out)
    clear h3
    go_wp2_with fail
    go_ret2
    exact .inl ⟨h1, h2, _, _, rfl, lay_cut h1 h2, HN.out, H3.out⟩
  · have B2 := Lib.hid (below_chain B1.out h3)
    clear h3
    go_wp2_with fail
    go_ret2
    exact .inr ⟨h1, rfl, B2.out⟩
/-- the program's contracts -/
theorem k12 : K12 where
  may l A c w hl h := May_v l A c _ w (by omega) h.1
  has l x A c w hl hx h := Has_v l x A c _ w (by omega) h.1
  holds l s A c w hl hs h := Holds_v l s A c _ w (by omega) h.1
  len l A c w hl h := Len_v l A c _ w (by omega) h.1
  pages s w hs := Pages_v s w hs
  add l s A c w hl hs h := Add_v l s A c _ w hl hs h.1
  cut l s A c w hl hs h := Cut_v l s A c _ w hl hs h.1

end Go.Proofs.Ythjcnijageiaiaa
