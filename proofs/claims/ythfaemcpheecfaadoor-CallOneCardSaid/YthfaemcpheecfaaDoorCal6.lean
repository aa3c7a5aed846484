/- A call through a writer: a row's fields, all of it; Put. -/
import Derived.Test.YthfaemcpheecfaaDoorCal5
namespace Go.Proofs.YthfaemcpheecfaaDoor
open Go.RowKit Go.Shelf
set_option linter.unusedVariables false
set_option maxRecDepth 100000
set_option linter.unusedSimpArgs false

theorem kRow_six (k : Nat) : kRow k = kNone ∨ kRow k = ⟨0, 4096, false, false, false⟩ ∨ kRow k = ⟨0, 0, true, false, false⟩ ∨ kRow k = ⟨4096, 64, false, false, false⟩ ∨ kRow k = ⟨4032, 0, false, false, true⟩ ∨ kRow k = ⟨0, 0, true, true, false⟩ := by
  unfold kRow
  split
  · simp
  · split
    · simp
    · split
      · simp
      · split
        · simp
        · split
          · simp
          · simp
/-- what a writer's walk asks of a call: its numbers, its texts' and bytes' lengths -/
def calFit (c : CallX) : Prop := (L c.name).length ≤ 4096 ∧ (L c.toname).length ≤ 4096 ∧ c.data.length ≤ 4096
theorem PutS.other {wb pb : Nat} {v0 v : Value} {t t' : TypeId} {cs cs' : Array Value} {w0 w : World} {l : List UInt8} {g : Nat} (h : PutS wb pb v0 t cs w0 v l w) (hc : Cs w0 g t' cs') (hg : ¬ LayF wb v0 g) (hp : g ≠ pb) : Cs w g t' cs' := hc.turn h.2.2.1 fun hh => hh.elim hg hp
theorem PutS.bytes {wb pb : Nat} {v0 v u : Value} {t : TypeId} {cs : Array Value} {w0 w : World} {l x : List UInt8} {F : Nat → Prop} (h : PutS wb pb v0 t cs w0 v l w) (hx : BsV w0 F u x) (hF : ∀ k, F k → ¬ LayF wb v0 k ∧ k ≠ pb) : BsV w F u x := hx.turn h.2.2.1 fun k hk hh => hh.elim (hF k hk).1 (hF k hk).2
theorem PutS.apart {wb pb : Nat} {v0 v : Value} {t : TypeId} {cs : Array Value} {w0 w : World} {l : List UInt8} {F : Nat → Prop} (h : PutS wb pb v0 t cs w0 v l w) (hF : ∀ k, F k → ¬ LayF wb v0 k ∧ k ≠ pb) (hlt : ∀ k, F k → k < w0.heap.size) : ∀ k, F k → ¬ LayF wb v k := fun k hk hh => (hF k hk).1 (layF_old h.2.2.2.1 (hlt k hk) hh)
theorem PassW.since {wb pb : Nat} {v0 : Value} {l : List UInt8} {t : TypeId} {cs : Array Value} {w w0 : World} {e : Ending} {w' : World} (h : PassW wb pb v0 l t cs w0 e w') (hb : Below w.heap.size w w0) : PassW wb pb v0 l t cs w e w' := by
  obtain ⟨he, v', h1, h2, h3, h4⟩ := h
  exact ⟨he, v', h1, h2, (Turn.of_below hb _).trans h3 fun _ _ h => h, fun k hk => (h4 k hk).imp (fun h => h) fun h => Nat.le_trans hb.size h⟩
set_option maxHeartbeats 4000000 in
theorem rowW0 {w : World} {wb cb : Nat} {v0 cv : Value} {l : List UInt8} {F : Nat → Prop} {c : CallX} (h : WrAt w wb v0 l) (hc : Cs w cb 28 (calCells c cv).toArray) (hp : ¬ LayF wb v0 cb) (hx : BsV w F cv c.data) (hF : ∀ k, F k → (¬ LayF wb v0 k ∧ k ≠ cb) ∧ k < w.heap.size) (ho : calOk c) (hf : calFit c) (hl : l.length ≤ 1000000) :
    Calls Tryd.prog 43 #[.agg (kCells ⟨0, 0, false, false, false⟩).toArray, sideW wb, .pointer (some ⟨cb, 0, none⟩)] w fun e w' => PassW wb cb v0 (l ++ beL (c.ino : Int) 4 ++ beL (c.gen : Int) 4) 28 (calCells c cv).toArray w e w' := by
  show Calls Tryd.prog 43 #[.agg #[.int .u32 0, .int .u32 0, .bool false, .bool false, .bool false], sideW wb, .pointer (some ⟨cb, 0, none⟩)] w fun e w' => PassW wb cb v0 (l ++ beL (c.ino : Int) 4 ++ beL (c.gen : Int) 4) 28 (calCells c cv).toArray w e w'
  obtain ⟨A, cp, rfl, -⟩ := id hx
  have hb := below_new1 w (.cells #[.int .u32 0, .int .u32 0, .bool false, .bool false, .bool false] 66)
  have hnew : ¬ LayF wb v0 w.heap.size := fun hh => by
    rcases hh with hh | hh
    · have := h.cell.lt; omega
    · have := h.lt _ hh; omega
  have HS0 := Lib.hid (PutS.start (h.below hb) (hc.below hb hc.lt) hp)
  have HR := Lib.hid (Cs.new w 66 #[.int .u32 0, .int .u32 0, .bool false, .bool false, .bool false])
  have HX := Lib.hid (hx.below hb)
  have HNE := Lib.hid (And.intro hnew (show w.heap.size ≠ cb by have := hc.lt; omega))
  have HF := Lib.hid hF
  have HO := Lib.hid ho
  have HFIT := Lib.hid hf
  have HLL := Lib.hid hl
  have HB := Lib.hid hb
  clear h hc hp hx hF ho hf hl hb hnew
  go_enter Tryd.func43, Tryd.ntmps43
  go_wp2_with fail
  refine (handle_w (pb := cb) (i := 4) c.ino c.gen HO.out.2.2.2.2.1 HO.out.2.2.2.2.2.1 HS0.out.2.1 rfl rfl HS0.out.1 HS0.out.not (by (try simp only [List.length_append, beL_length, bytesX_length]); have := padN_lt c.data.length; have := padN_lt (L c.name).length; have := padN_lt (L c.toname).length; obtain ⟨f1, f2, f3⟩ := HFIT.out; have := HLL.out; omega)).mono ?_
  rintro e w1 hq
  obtain ⟨v1, hs⟩ := HS0.out.pass hq
  obtain ⟨rfl, -⟩ := hq
  have hr := hs.other HR.out HNE.out.1 HNE.out.2
  have r0_0 : w1.cell? ⟨w.heap.size, 0, none⟩ = some (.int .u32 0) := hr.cell 0 rfl
  have r1_0 : w1.cell? ⟨w.heap.size, 1, none⟩ = some (.int .u32 0) := hr.cell 1 rfl
  have r2_0 : w1.cell? ⟨w.heap.size, 2, none⟩ = some (.bool false) := hr.cell 2 rfl
  have r3_0 : w1.cell? ⟨w.heap.size, 3, none⟩ = some (.bool false) := hr.cell 3 rfl
  have r4_0 : w1.cell? ⟨w.heap.size, 4, none⟩ = some (.bool false) := hr.cell 4 rfl
  have HS1 := Lib.hid hs
  clear hs hr
  go_wp2_with fail
  go_end0
  exact HS1.out.done.since HB.out
set_option maxHeartbeats 4000000 in
theorem rowW1 {w : World} {wb cb : Nat} {v0 cv : Value} {l : List UInt8} {F : Nat → Prop} {c : CallX} (h : WrAt w wb v0 l) (hc : Cs w cb 28 (calCells c cv).toArray) (hp : ¬ LayF wb v0 cb) (hx : BsV w F cv c.data) (hF : ∀ k, F k → (¬ LayF wb v0 k ∧ k ≠ cb) ∧ k < w.heap.size) (ho : calOk c) (hf : calFit c) (hl : l.length ≤ 1000000) :
    Calls Tryd.prog 43 #[.agg (kCells ⟨0, 4096, false, false, false⟩).toArray, sideW wb, .pointer (some ⟨cb, 0, none⟩)] w fun e w' => PassW wb cb v0 (l ++ beL (c.ino : Int) 4 ++ beL (c.gen : Int) 4 ++ beL (c.size : Int) 4) 28 (calCells c cv).toArray w e w' := by
  show Calls Tryd.prog 43 #[.agg #[.int .u32 0, .int .u32 4096, .bool false, .bool false, .bool false], sideW wb, .pointer (some ⟨cb, 0, none⟩)] w fun e w' => PassW wb cb v0 (l ++ beL (c.ino : Int) 4 ++ beL (c.gen : Int) 4 ++ beL (c.size : Int) 4) 28 (calCells c cv).toArray w e w'
  obtain ⟨A, cp, rfl, -⟩ := id hx
  have hb := below_new1 w (.cells #[.int .u32 0, .int .u32 4096, .bool false, .bool false, .bool false] 66)
  have hnew : ¬ LayF wb v0 w.heap.size := fun hh => by
    rcases hh with hh | hh
    · have := h.cell.lt; omega
    · have := h.lt _ hh; omega
  have HS0 := Lib.hid (PutS.start (h.below hb) (hc.below hb hc.lt) hp)
  have HR := Lib.hid (Cs.new w 66 #[.int .u32 0, .int .u32 4096, .bool false, .bool false, .bool false])
  have HX := Lib.hid (hx.below hb)
  have HNE := Lib.hid (And.intro hnew (show w.heap.size ≠ cb by have := hc.lt; omega))
  have HF := Lib.hid hF
  have HO := Lib.hid ho
  have HFIT := Lib.hid hf
  have HLL := Lib.hid hl
  have HB := Lib.hid hb
  clear h hc hp hx hF ho hf hl hb hnew
  go_enter Tryd.func43, Tryd.ntmps43
  go_wp2_with fail
  refine (handle_w (pb := cb) (i := 4) c.ino c.gen HO.out.2.2.2.2.1 HO.out.2.2.2.2.2.1 HS0.out.2.1 rfl rfl HS0.out.1 HS0.out.not (by (try simp only [List.length_append, beL_length, bytesX_length]); have := padN_lt c.data.length; have := padN_lt (L c.name).length; have := padN_lt (L c.toname).length; obtain ⟨f1, f2, f3⟩ := HFIT.out; have := HLL.out; omega)).mono ?_
  rintro e w1 hq
  obtain ⟨v1, hs⟩ := HS0.out.pass hq
  obtain ⟨rfl, -⟩ := hq
  have hr := hs.other HR.out HNE.out.1 HNE.out.2
  have r0_0 : w1.cell? ⟨w.heap.size, 0, none⟩ = some (.int .u32 0) := hr.cell 0 rfl
  have r1_0 : w1.cell? ⟨w.heap.size, 1, none⟩ = some (.int .u32 4096) := hr.cell 1 rfl
  have r2_0 : w1.cell? ⟨w.heap.size, 2, none⟩ = some (.bool false) := hr.cell 2 rfl
  have r3_0 : w1.cell? ⟨w.heap.size, 3, none⟩ = some (.bool false) := hr.cell 3 rfl
  have r4_0 : w1.cell? ⟨w.heap.size, 4, none⟩ = some (.bool false) := hr.cell 4 rfl
  have HS1 := Lib.hid hs
  clear hs hr
  go_wp2_with fail
  refine (number_w (pb := cb) (i := 11) c.size HO.out.2.2.2.2.2.2.2.2.2 (HS1.out.2.1.cell 11 rfl) HS1.out.1 (by (try simp only [List.length_append, beL_length, bytesX_length]); have := padN_lt c.data.length; have := padN_lt (L c.name).length; have := padN_lt (L c.toname).length; obtain ⟨f1, f2, f3⟩ := HFIT.out; have := HLL.out; omega)).mono ?_
  rintro e w2 hq
  obtain ⟨v2, hs⟩ := HS1.out.laid hq
  obtain ⟨rfl, -⟩ := hq
  have hr := hs.other HR.out HNE.out.1 HNE.out.2
  have r0_1 : w2.cell? ⟨w.heap.size, 0, none⟩ = some (.int .u32 0) := hr.cell 0 rfl
  have r1_1 : w2.cell? ⟨w.heap.size, 1, none⟩ = some (.int .u32 4096) := hr.cell 1 rfl
  have r2_1 : w2.cell? ⟨w.heap.size, 2, none⟩ = some (.bool false) := hr.cell 2 rfl
  have r3_1 : w2.cell? ⟨w.heap.size, 3, none⟩ = some (.bool false) := hr.cell 3 rfl
  have r4_1 : w2.cell? ⟨w.heap.size, 4, none⟩ = some (.bool false) := hr.cell 4 rfl
  have HS2 := Lib.hid hs
  clear hs hr
  go_wp2_with fail
  go_end0
  exact HS2.out.done.since HB.out
set_option maxHeartbeats 4000000 in
theorem rowW2 {w : World} {wb cb : Nat} {v0 cv : Value} {l : List UInt8} {F : Nat → Prop} {c : CallX} (h : WrAt w wb v0 l) (hc : Cs w cb 28 (calCells c cv).toArray) (hp : ¬ LayF wb v0 cb) (hx : BsV w F cv c.data) (hF : ∀ k, F k → (¬ LayF wb v0 k ∧ k ≠ cb) ∧ k < w.heap.size) (ho : calOk c) (hf : calFit c) (hl : l.length ≤ 1000000) :
    Calls Tryd.prog 43 #[.agg (kCells ⟨0, 0, true, false, false⟩).toArray, sideW wb, .pointer (some ⟨cb, 0, none⟩)] w fun e w' => PassW wb cb v0 (l ++ beL (c.ino : Int) 4 ++ beL (c.gen : Int) 4 ++ bytesX (L c.name)) 28 (calCells c cv).toArray w e w' := by
  show Calls Tryd.prog 43 #[.agg #[.int .u32 0, .int .u32 0, .bool true, .bool false, .bool false], sideW wb, .pointer (some ⟨cb, 0, none⟩)] w fun e w' => PassW wb cb v0 (l ++ beL (c.ino : Int) 4 ++ beL (c.gen : Int) 4 ++ bytesX (L c.name)) 28 (calCells c cv).toArray w e w'
  obtain ⟨A, cp, rfl, -⟩ := id hx
  have hb := below_new1 w (.cells #[.int .u32 0, .int .u32 0, .bool true, .bool false, .bool false] 66)
  have hnew : ¬ LayF wb v0 w.heap.size := fun hh => by
    rcases hh with hh | hh
    · have := h.cell.lt; omega
    · have := h.lt _ hh; omega
  have HS0 := Lib.hid (PutS.start (h.below hb) (hc.below hb hc.lt) hp)
  have HR := Lib.hid (Cs.new w 66 #[.int .u32 0, .int .u32 0, .bool true, .bool false, .bool false])
  have HX := Lib.hid (hx.below hb)
  have HNE := Lib.hid (And.intro hnew (show w.heap.size ≠ cb by have := hc.lt; omega))
  have HF := Lib.hid hF
  have HO := Lib.hid ho
  have HFIT := Lib.hid hf
  have HLL := Lib.hid hl
  have HB := Lib.hid hb
  clear h hc hp hx hF ho hf hl hb hnew
  go_enter Tryd.func43, Tryd.ntmps43
  go_wp2_with fail
  refine (handle_w (pb := cb) (i := 4) c.ino c.gen HO.out.2.2.2.2.1 HO.out.2.2.2.2.2.1 HS0.out.2.1 rfl rfl HS0.out.1 HS0.out.not (by (try simp only [List.length_append, beL_length, bytesX_length]); have := padN_lt c.data.length; have := padN_lt (L c.name).length; have := padN_lt (L c.toname).length; obtain ⟨f1, f2, f3⟩ := HFIT.out; have := HLL.out; omega)).mono ?_
  rintro e w1 hq
  obtain ⟨v1, hs⟩ := HS0.out.pass hq
  obtain ⟨rfl, -⟩ := hq
  have hr := hs.other HR.out HNE.out.1 HNE.out.2
  have r0_0 : w1.cell? ⟨w.heap.size, 0, none⟩ = some (.int .u32 0) := hr.cell 0 rfl
  have r1_0 : w1.cell? ⟨w.heap.size, 1, none⟩ = some (.int .u32 0) := hr.cell 1 rfl
  have r2_0 : w1.cell? ⟨w.heap.size, 2, none⟩ = some (.bool true) := hr.cell 2 rfl
  have r3_0 : w1.cell? ⟨w.heap.size, 3, none⟩ = some (.bool false) := hr.cell 3 rfl
  have r4_0 : w1.cell? ⟨w.heap.size, 4, none⟩ = some (.bool false) := hr.cell 4 rfl
  have HS1 := Lib.hid hs
  clear hs hr
  go_wp2_with fail
  refine (text_w (pb := cb) (i := 6) c.name (by have := HFIT.out; rw [L_size]; unfold calFit at this; omega) HS1.out.2.1 rfl HS1.out.1 HS1.out.not (by (try simp only [List.length_append, beL_length, bytesX_length]); have := padN_lt c.data.length; have := padN_lt (L c.name).length; have := padN_lt (L c.toname).length; obtain ⟨f1, f2, f3⟩ := HFIT.out; have := HLL.out; omega)).mono ?_
  rintro e w2 hq
  obtain ⟨v2, hs⟩ := HS1.out.pass hq
  obtain ⟨rfl, -⟩ := hq
  have hr := hs.other HR.out HNE.out.1 HNE.out.2
  have r0_1 : w2.cell? ⟨w.heap.size, 0, none⟩ = some (.int .u32 0) := hr.cell 0 rfl
  have r1_1 : w2.cell? ⟨w.heap.size, 1, none⟩ = some (.int .u32 0) := hr.cell 1 rfl
  have r2_1 : w2.cell? ⟨w.heap.size, 2, none⟩ = some (.bool true) := hr.cell 2 rfl
  have r3_1 : w2.cell? ⟨w.heap.size, 3, none⟩ = some (.bool false) := hr.cell 3 rfl
  have r4_1 : w2.cell? ⟨w.heap.size, 4, none⟩ = some (.bool false) := hr.cell 4 rfl
  have HS2 := Lib.hid hs
  clear hs hr
  go_wp2_with fail
  go_end0
  exact HS2.out.done.since HB.out
set_option maxHeartbeats 4000000 in
theorem rowW3 {w : World} {wb cb : Nat} {v0 cv : Value} {l : List UInt8} {F : Nat → Prop} {c : CallX} (h : WrAt w wb v0 l) (hc : Cs w cb 28 (calCells c cv).toArray) (hp : ¬ LayF wb v0 cb) (hx : BsV w F cv c.data) (hF : ∀ k, F k → (¬ LayF wb v0 k ∧ k ≠ cb) ∧ k < w.heap.size) (ho : calOk c) (hf : calFit c) (hl : l.length ≤ 1000000) :
    Calls Tryd.prog 43 #[.agg (kCells ⟨4096, 64, false, false, false⟩).toArray, sideW wb, .pointer (some ⟨cb, 0, none⟩)] w fun e w' => PassW wb cb v0 (l ++ beL (c.ino : Int) 4 ++ beL (c.gen : Int) 4 ++ beL (c.off : Int) 4 ++ beL (c.size : Int) 4) 28 (calCells c cv).toArray w e w' := by
  show Calls Tryd.prog 43 #[.agg #[.int .u32 4096, .int .u32 64, .bool false, .bool false, .bool false], sideW wb, .pointer (some ⟨cb, 0, none⟩)] w fun e w' => PassW wb cb v0 (l ++ beL (c.ino : Int) 4 ++ beL (c.gen : Int) 4 ++ beL (c.off : Int) 4 ++ beL (c.size : Int) 4) 28 (calCells c cv).toArray w e w'
  obtain ⟨A, cp, rfl, -⟩ := id hx
  have hb := below_new1 w (.cells #[.int .u32 4096, .int .u32 64, .bool false, .bool false, .bool false] 66)
  have hnew : ¬ LayF wb v0 w.heap.size := fun hh => by
    rcases hh with hh | hh
    · have := h.cell.lt; omega
    · have := h.lt _ hh; omega
  have HS0 := Lib.hid (PutS.start (h.below hb) (hc.below hb hc.lt) hp)
  have HR := Lib.hid (Cs.new w 66 #[.int .u32 4096, .int .u32 64, .bool false, .bool false, .bool false])
  have HX := Lib.hid (hx.below hb)
  have HNE := Lib.hid (And.intro hnew (show w.heap.size ≠ cb by have := hc.lt; omega))
  have HF := Lib.hid hF
  have HO := Lib.hid ho
  have HFIT := Lib.hid hf
  have HLL := Lib.hid hl
  have HB := Lib.hid hb
  clear h hc hp hx hF ho hf hl hb hnew
  go_enter Tryd.func43, Tryd.ntmps43
  go_wp2_with fail
  refine (handle_w (pb := cb) (i := 4) c.ino c.gen HO.out.2.2.2.2.1 HO.out.2.2.2.2.2.1 HS0.out.2.1 rfl rfl HS0.out.1 HS0.out.not (by (try simp only [List.length_append, beL_length, bytesX_length]); have := padN_lt c.data.length; have := padN_lt (L c.name).length; have := padN_lt (L c.toname).length; obtain ⟨f1, f2, f3⟩ := HFIT.out; have := HLL.out; omega)).mono ?_
  rintro e w1 hq
  obtain ⟨v1, hs⟩ := HS0.out.pass hq
  obtain ⟨rfl, -⟩ := hq
  have hr := hs.other HR.out HNE.out.1 HNE.out.2
  have r0_0 : w1.cell? ⟨w.heap.size, 0, none⟩ = some (.int .u32 4096) := hr.cell 0 rfl
  have r1_0 : w1.cell? ⟨w.heap.size, 1, none⟩ = some (.int .u32 64) := hr.cell 1 rfl
  have r2_0 : w1.cell? ⟨w.heap.size, 2, none⟩ = some (.bool false) := hr.cell 2 rfl
  have r3_0 : w1.cell? ⟨w.heap.size, 3, none⟩ = some (.bool false) := hr.cell 3 rfl
  have r4_0 : w1.cell? ⟨w.heap.size, 4, none⟩ = some (.bool false) := hr.cell 4 rfl
  have HS1 := Lib.hid hs
  clear hs hr
  go_wp2_with fail
  refine (number_w (pb := cb) (i := 10) c.off HO.out.2.2.2.2.2.2.2.2.1 (HS1.out.2.1.cell 10 rfl) HS1.out.1 (by (try simp only [List.length_append, beL_length, bytesX_length]); have := padN_lt c.data.length; have := padN_lt (L c.name).length; have := padN_lt (L c.toname).length; obtain ⟨f1, f2, f3⟩ := HFIT.out; have := HLL.out; omega)).mono ?_
  rintro e w2 hq
  obtain ⟨v2, hs⟩ := HS1.out.laid hq
  obtain ⟨rfl, -⟩ := hq
  have hr := hs.other HR.out HNE.out.1 HNE.out.2
  have r0_1 : w2.cell? ⟨w.heap.size, 0, none⟩ = some (.int .u32 4096) := hr.cell 0 rfl
  have r1_1 : w2.cell? ⟨w.heap.size, 1, none⟩ = some (.int .u32 64) := hr.cell 1 rfl
  have r2_1 : w2.cell? ⟨w.heap.size, 2, none⟩ = some (.bool false) := hr.cell 2 rfl
  have r3_1 : w2.cell? ⟨w.heap.size, 3, none⟩ = some (.bool false) := hr.cell 3 rfl
  have r4_1 : w2.cell? ⟨w.heap.size, 4, none⟩ = some (.bool false) := hr.cell 4 rfl
  have HS2 := Lib.hid hs
  clear hs hr
  go_wp2_with fail
  refine (number_w (pb := cb) (i := 11) c.size HO.out.2.2.2.2.2.2.2.2.2 (HS2.out.2.1.cell 11 rfl) HS2.out.1 (by (try simp only [List.length_append, beL_length, bytesX_length]); have := padN_lt c.data.length; have := padN_lt (L c.name).length; have := padN_lt (L c.toname).length; obtain ⟨f1, f2, f3⟩ := HFIT.out; have := HLL.out; omega)).mono ?_
  rintro e w3 hq
  obtain ⟨v3, hs⟩ := HS2.out.laid hq
  obtain ⟨rfl, -⟩ := hq
  have hr := hs.other HR.out HNE.out.1 HNE.out.2
  have r0_2 : w3.cell? ⟨w.heap.size, 0, none⟩ = some (.int .u32 4096) := hr.cell 0 rfl
  have r1_2 : w3.cell? ⟨w.heap.size, 1, none⟩ = some (.int .u32 64) := hr.cell 1 rfl
  have r2_2 : w3.cell? ⟨w.heap.size, 2, none⟩ = some (.bool false) := hr.cell 2 rfl
  have r3_2 : w3.cell? ⟨w.heap.size, 3, none⟩ = some (.bool false) := hr.cell 3 rfl
  have r4_2 : w3.cell? ⟨w.heap.size, 4, none⟩ = some (.bool false) := hr.cell 4 rfl
  have HS3 := Lib.hid hs
  clear hs hr
  go_wp2_with fail
  go_end0
  exact HS3.out.done.since HB.out
set_option maxHeartbeats 4000000 in
theorem rowW4 {w : World} {wb cb : Nat} {v0 cv : Value} {l : List UInt8} {F : Nat → Prop} {c : CallX} (h : WrAt w wb v0 l) (hc : Cs w cb 28 (calCells c cv).toArray) (hp : ¬ LayF wb v0 cb) (hx : BsV w F cv c.data) (hF : ∀ k, F k → (¬ LayF wb v0 k ∧ k ≠ cb) ∧ k < w.heap.size) (ho : calOk c) (hf : calFit c) (hl : l.length ≤ 1000000) :
    Calls Tryd.prog 43 #[.agg (kCells ⟨4032, 0, false, false, true⟩).toArray, sideW wb, .pointer (some ⟨cb, 0, none⟩)] w fun e w' => PassW wb cb v0 (l ++ beL (c.ino : Int) 4 ++ beL (c.gen : Int) 4 ++ beL (c.off : Int) 4 ++ bytesX c.data) 28 (calCells c cv).toArray w e w' := by
  show Calls Tryd.prog 43 #[.agg #[.int .u32 4032, .int .u32 0, .bool false, .bool false, .bool true], sideW wb, .pointer (some ⟨cb, 0, none⟩)] w fun e w' => PassW wb cb v0 (l ++ beL (c.ino : Int) 4 ++ beL (c.gen : Int) 4 ++ beL (c.off : Int) 4 ++ bytesX c.data) 28 (calCells c cv).toArray w e w'
  obtain ⟨A, cp, rfl, -⟩ := id hx
  have hb := below_new1 w (.cells #[.int .u32 4032, .int .u32 0, .bool false, .bool false, .bool true] 66)
  have hnew : ¬ LayF wb v0 w.heap.size := fun hh => by
    rcases hh with hh | hh
    · have := h.cell.lt; omega
    · have := h.lt _ hh; omega
  have HS0 := Lib.hid (PutS.start (h.below hb) (hc.below hb hc.lt) hp)
  have HR := Lib.hid (Cs.new w 66 #[.int .u32 4032, .int .u32 0, .bool false, .bool false, .bool true])
  have HX := Lib.hid (hx.below hb)
  have HNE := Lib.hid (And.intro hnew (show w.heap.size ≠ cb by have := hc.lt; omega))
  have HF := Lib.hid hF
  have HO := Lib.hid ho
  have HFIT := Lib.hid hf
  have HLL := Lib.hid hl
  have HB := Lib.hid hb
  clear h hc hp hx hF ho hf hl hb hnew
  go_enter Tryd.func43, Tryd.ntmps43
  go_wp2_with fail
  refine (handle_w (pb := cb) (i := 4) c.ino c.gen HO.out.2.2.2.2.1 HO.out.2.2.2.2.2.1 HS0.out.2.1 rfl rfl HS0.out.1 HS0.out.not (by (try simp only [List.length_append, beL_length, bytesX_length]); have := padN_lt c.data.length; have := padN_lt (L c.name).length; have := padN_lt (L c.toname).length; obtain ⟨f1, f2, f3⟩ := HFIT.out; have := HLL.out; omega)).mono ?_
  rintro e w1 hq
  obtain ⟨v1, hs⟩ := HS0.out.pass hq
  obtain ⟨rfl, -⟩ := hq
  have hr := hs.other HR.out HNE.out.1 HNE.out.2
  have r0_0 : w1.cell? ⟨w.heap.size, 0, none⟩ = some (.int .u32 4032) := hr.cell 0 rfl
  have r1_0 : w1.cell? ⟨w.heap.size, 1, none⟩ = some (.int .u32 0) := hr.cell 1 rfl
  have r2_0 : w1.cell? ⟨w.heap.size, 2, none⟩ = some (.bool false) := hr.cell 2 rfl
  have r3_0 : w1.cell? ⟨w.heap.size, 3, none⟩ = some (.bool false) := hr.cell 3 rfl
  have r4_0 : w1.cell? ⟨w.heap.size, 4, none⟩ = some (.bool true) := hr.cell 4 rfl
  have HS1 := Lib.hid hs
  clear hs hr
  go_wp2_with fail
  refine (number_w (pb := cb) (i := 10) c.off HO.out.2.2.2.2.2.2.2.2.1 (HS1.out.2.1.cell 10 rfl) HS1.out.1 (by (try simp only [List.length_append, beL_length, bytesX_length]); have := padN_lt c.data.length; have := padN_lt (L c.name).length; have := padN_lt (L c.toname).length; obtain ⟨f1, f2, f3⟩ := HFIT.out; have := HLL.out; omega)).mono ?_
  rintro e w2 hq
  obtain ⟨v2, hs⟩ := HS1.out.laid hq
  obtain ⟨rfl, -⟩ := hq
  have hr := hs.other HR.out HNE.out.1 HNE.out.2
  have r0_1 : w2.cell? ⟨w.heap.size, 0, none⟩ = some (.int .u32 4032) := hr.cell 0 rfl
  have r1_1 : w2.cell? ⟨w.heap.size, 1, none⟩ = some (.int .u32 0) := hr.cell 1 rfl
  have r2_1 : w2.cell? ⟨w.heap.size, 2, none⟩ = some (.bool false) := hr.cell 2 rfl
  have r3_1 : w2.cell? ⟨w.heap.size, 3, none⟩ = some (.bool false) := hr.cell 3 rfl
  have r4_1 : w2.cell? ⟨w.heap.size, 4, none⟩ = some (.bool true) := hr.cell 4 rfl
  have HS2 := Lib.hid hs
  clear hs hr
  go_wp2_with fail
  refine (some_w (pb := cb) (i := 12) (HS2.out.2.1.cell 12 rfl) HS2.out.1 (HS2.out.bytes HX.out fun k hk => (HF.out k hk).1) (HS2.out.apart (fun k hk => (HF.out k hk).1) fun k hk => Nat.lt_of_lt_of_le (HF.out k hk).2 HB.out.size) (by have := HFIT.out; unfold calFit at this; omega) (by (try simp only [List.length_append, beL_length, bytesX_length]); have := padN_lt c.data.length; have := padN_lt (L c.name).length; have := padN_lt (L c.toname).length; obtain ⟨f1, f2, f3⟩ := HFIT.out; have := HLL.out; omega)).mono ?_
  rintro e w3 hq
  obtain ⟨v3, hs⟩ := HS2.out.laid hq
  obtain ⟨rfl, -⟩ := hq
  have hr := hs.other HR.out HNE.out.1 HNE.out.2
  have r0_2 : w3.cell? ⟨w.heap.size, 0, none⟩ = some (.int .u32 4032) := hr.cell 0 rfl
  have r1_2 : w3.cell? ⟨w.heap.size, 1, none⟩ = some (.int .u32 0) := hr.cell 1 rfl
  have r2_2 : w3.cell? ⟨w.heap.size, 2, none⟩ = some (.bool false) := hr.cell 2 rfl
  have r3_2 : w3.cell? ⟨w.heap.size, 3, none⟩ = some (.bool false) := hr.cell 3 rfl
  have r4_2 : w3.cell? ⟨w.heap.size, 4, none⟩ = some (.bool true) := hr.cell 4 rfl
  have HS3 := Lib.hid hs
  clear hs hr
  go_wp2_with fail
  go_end0
  exact HS3.out.done.since HB.out
set_option maxHeartbeats 4000000 in
theorem rowW5 {w : World} {wb cb : Nat} {v0 cv : Value} {l : List UInt8} {F : Nat → Prop} {c : CallX} (h : WrAt w wb v0 l) (hc : Cs w cb 28 (calCells c cv).toArray) (hp : ¬ LayF wb v0 cb) (hx : BsV w F cv c.data) (hF : ∀ k, F k → (¬ LayF wb v0 k ∧ k ≠ cb) ∧ k < w.heap.size) (ho : calOk c) (hf : calFit c) (hl : l.length ≤ 1000000) :
    Calls Tryd.prog 43 #[.agg (kCells ⟨0, 0, true, true, false⟩).toArray, sideW wb, .pointer (some ⟨cb, 0, none⟩)] w fun e w' => PassW wb cb v0 (l ++ beL (c.ino : Int) 4 ++ beL (c.gen : Int) 4 ++ bytesX (L c.name) ++ beL (c.tino : Int) 4 ++ beL (c.tgen : Int) 4 ++ bytesX (L c.toname)) 28 (calCells c cv).toArray w e w' := by
  show Calls Tryd.prog 43 #[.agg #[.int .u32 0, .int .u32 0, .bool true, .bool true, .bool false], sideW wb, .pointer (some ⟨cb, 0, none⟩)] w fun e w' => PassW wb cb v0 (l ++ beL (c.ino : Int) 4 ++ beL (c.gen : Int) 4 ++ bytesX (L c.name) ++ beL (c.tino : Int) 4 ++ beL (c.tgen : Int) 4 ++ bytesX (L c.toname)) 28 (calCells c cv).toArray w e w'
  obtain ⟨A, cp, rfl, -⟩ := id hx
  have hb := below_new1 w (.cells #[.int .u32 0, .int .u32 0, .bool true, .bool true, .bool false] 66)
  have hnew : ¬ LayF wb v0 w.heap.size := fun hh => by
    rcases hh with hh | hh
    · have := h.cell.lt; omega
    · have := h.lt _ hh; omega
  have HS0 := Lib.hid (PutS.start (h.below hb) (hc.below hb hc.lt) hp)
  have HR := Lib.hid (Cs.new w 66 #[.int .u32 0, .int .u32 0, .bool true, .bool true, .bool false])
  have HX := Lib.hid (hx.below hb)
  have HNE := Lib.hid (And.intro hnew (show w.heap.size ≠ cb by have := hc.lt; omega))
  have HF := Lib.hid hF
  have HO := Lib.hid ho
  have HFIT := Lib.hid hf
  have HLL := Lib.hid hl
  have HB := Lib.hid hb
  clear h hc hp hx hF ho hf hl hb hnew
  go_enter Tryd.func43, Tryd.ntmps43
  go_wp2_with fail
  refine (handle_w (pb := cb) (i := 4) c.ino c.gen HO.out.2.2.2.2.1 HO.out.2.2.2.2.2.1 HS0.out.2.1 rfl rfl HS0.out.1 HS0.out.not (by (try simp only [List.length_append, beL_length, bytesX_length]); have := padN_lt c.data.length; have := padN_lt (L c.name).length; have := padN_lt (L c.toname).length; obtain ⟨f1, f2, f3⟩ := HFIT.out; have := HLL.out; omega)).mono ?_
  rintro e w1 hq
  obtain ⟨v1, hs⟩ := HS0.out.pass hq
  obtain ⟨rfl, -⟩ := hq
  have hr := hs.other HR.out HNE.out.1 HNE.out.2
  have r0_0 : w1.cell? ⟨w.heap.size, 0, none⟩ = some (.int .u32 0) := hr.cell 0 rfl
  have r1_0 : w1.cell? ⟨w.heap.size, 1, none⟩ = some (.int .u32 0) := hr.cell 1 rfl
  have r2_0 : w1.cell? ⟨w.heap.size, 2, none⟩ = some (.bool true) := hr.cell 2 rfl
  have r3_0 : w1.cell? ⟨w.heap.size, 3, none⟩ = some (.bool true) := hr.cell 3 rfl
  have r4_0 : w1.cell? ⟨w.heap.size, 4, none⟩ = some (.bool false) := hr.cell 4 rfl
  have HS1 := Lib.hid hs
  clear hs hr
  go_wp2_with fail
  refine (text_w (pb := cb) (i := 6) c.name (by have := HFIT.out; rw [L_size]; unfold calFit at this; omega) HS1.out.2.1 rfl HS1.out.1 HS1.out.not (by (try simp only [List.length_append, beL_length, bytesX_length]); have := padN_lt c.data.length; have := padN_lt (L c.name).length; have := padN_lt (L c.toname).length; obtain ⟨f1, f2, f3⟩ := HFIT.out; have := HLL.out; omega)).mono ?_
  rintro e w2 hq
  obtain ⟨v2, hs⟩ := HS1.out.pass hq
  obtain ⟨rfl, -⟩ := hq
  have hr := hs.other HR.out HNE.out.1 HNE.out.2
  have r0_1 : w2.cell? ⟨w.heap.size, 0, none⟩ = some (.int .u32 0) := hr.cell 0 rfl
  have r1_1 : w2.cell? ⟨w.heap.size, 1, none⟩ = some (.int .u32 0) := hr.cell 1 rfl
  have r2_1 : w2.cell? ⟨w.heap.size, 2, none⟩ = some (.bool true) := hr.cell 2 rfl
  have r3_1 : w2.cell? ⟨w.heap.size, 3, none⟩ = some (.bool true) := hr.cell 3 rfl
  have r4_1 : w2.cell? ⟨w.heap.size, 4, none⟩ = some (.bool false) := hr.cell 4 rfl
  have HS2 := Lib.hid hs
  clear hs hr
  go_wp2_with fail
  refine (handle_w (pb := cb) (i := 7) c.tino c.tgen HO.out.2.2.2.2.2.2.1 HO.out.2.2.2.2.2.2.2.1 HS2.out.2.1 rfl rfl HS2.out.1 HS2.out.not (by (try simp only [List.length_append, beL_length, bytesX_length]); have := padN_lt c.data.length; have := padN_lt (L c.name).length; have := padN_lt (L c.toname).length; obtain ⟨f1, f2, f3⟩ := HFIT.out; have := HLL.out; omega)).mono ?_
  rintro e w3 hq
  obtain ⟨v3, hs⟩ := HS2.out.pass hq
  obtain ⟨rfl, -⟩ := hq
  have hr := hs.other HR.out HNE.out.1 HNE.out.2
  have r0_2 : w3.cell? ⟨w.heap.size, 0, none⟩ = some (.int .u32 0) := hr.cell 0 rfl
  have r1_2 : w3.cell? ⟨w.heap.size, 1, none⟩ = some (.int .u32 0) := hr.cell 1 rfl
  have r2_2 : w3.cell? ⟨w.heap.size, 2, none⟩ = some (.bool true) := hr.cell 2 rfl
  have r3_2 : w3.cell? ⟨w.heap.size, 3, none⟩ = some (.bool true) := hr.cell 3 rfl
  have r4_2 : w3.cell? ⟨w.heap.size, 4, none⟩ = some (.bool false) := hr.cell 4 rfl
  have HS3 := Lib.hid hs
  clear hs hr
  go_wp2_with fail
  refine (text_w (pb := cb) (i := 9) c.toname (by have := HFIT.out; rw [L_size]; unfold calFit at this; omega) HS3.out.2.1 rfl HS3.out.1 HS3.out.not (by (try simp only [List.length_append, beL_length, bytesX_length]); have := padN_lt c.data.length; have := padN_lt (L c.name).length; have := padN_lt (L c.toname).length; obtain ⟨f1, f2, f3⟩ := HFIT.out; have := HLL.out; omega)).mono ?_
  rintro e w4 hq
  obtain ⟨v4, hs⟩ := HS3.out.pass hq
  obtain ⟨rfl, -⟩ := hq
  have hr := hs.other HR.out HNE.out.1 HNE.out.2
  have r0_3 : w4.cell? ⟨w.heap.size, 0, none⟩ = some (.int .u32 0) := hr.cell 0 rfl
  have r1_3 : w4.cell? ⟨w.heap.size, 1, none⟩ = some (.int .u32 0) := hr.cell 1 rfl
  have r2_3 : w4.cell? ⟨w.heap.size, 2, none⟩ = some (.bool true) := hr.cell 2 rfl
  have r3_3 : w4.cell? ⟨w.heap.size, 3, none⟩ = some (.bool true) := hr.cell 3 rfl
  have r4_3 : w4.cell? ⟨w.heap.size, 4, none⟩ = some (.bool false) := hr.cell 4 rfl
  have HS4 := Lib.hid hs
  clear hs hr
  go_wp2_with fail
  go_end0
  exact HS4.out.done.since HB.out
theorem rowPass_w {w : World} {wb cb : Nat} {v0 cv : Value} {l : List UInt8} {F : Nat → Prop} {c : CallX} (k : Nat) (h : WrAt w wb v0 l) (hc : Cs w cb 28 (calCells c cv).toArray) (hp : ¬ LayF wb v0 cb) (hx : BsV w F cv c.data) (hF : ∀ k, F k → (¬ LayF wb v0 k ∧ k ≠ cb) ∧ k < w.heap.size) (ho : calOk c) (hf : calFit c) (hl : l.length ≤ 1000000) :
    Calls Tryd.prog 43 #[.agg (kCells (kRow k)).toArray, sideW wb, .pointer (some ⟨cb, 0, none⟩)] w fun e w' => PassW wb cb v0 (l ++ layL (restS (kRow k)) (restD (kRow k) c)) 28 (calCells c cv).toArray w e w' := by
  rcases kRow_six k with e | e | e | e | e | e
  · rw [e, show l ++ layL (restS kNone) (restD kNone c) = l ++ beL (c.ino : Int) 4 ++ beL (c.gen : Int) 4 by simp [restS, restD, layL, layF, kNone]]
    exact rowW0 h hc hp hx hF ho hf hl
  · rw [e, show l ++ layL (restS ⟨0, 4096, false, false, false⟩) (restD ⟨0, 4096, false, false, false⟩ c) = l ++ beL (c.ino : Int) 4 ++ beL (c.gen : Int) 4 ++ beL (c.size : Int) 4 by simp [restS, restD, layL, layF]]
    exact rowW1 h hc hp hx hF ho hf hl
  · rw [e, show l ++ layL (restS ⟨0, 0, true, false, false⟩) (restD ⟨0, 0, true, false, false⟩ c) = l ++ beL (c.ino : Int) 4 ++ beL (c.gen : Int) 4 ++ bytesX (L c.name) by simp [restS, restD, layL, layF]]
    exact rowW2 h hc hp hx hF ho hf hl
  · rw [e, show l ++ layL (restS ⟨4096, 64, false, false, false⟩) (restD ⟨4096, 64, false, false, false⟩ c) = l ++ beL (c.ino : Int) 4 ++ beL (c.gen : Int) 4 ++ beL (c.off : Int) 4 ++ beL (c.size : Int) 4 by simp [restS, restD, layL, layF]]
    exact rowW3 h hc hp hx hF ho hf hl
  · rw [e, show l ++ layL (restS ⟨4032, 0, false, false, true⟩) (restD ⟨4032, 0, false, false, true⟩ c) = l ++ beL (c.ino : Int) 4 ++ beL (c.gen : Int) 4 ++ beL (c.off : Int) 4 ++ bytesX c.data by simp [restS, restD, layL, layF]]
    exact rowW4 h hc hp hx hF ho hf hl
  · rw [e, show l ++ layL (restS ⟨0, 0, true, true, false⟩) (restD ⟨0, 0, true, true, false⟩ c) = l ++ beL (c.ino : Int) 4 ++ beL (c.gen : Int) 4 ++ bytesX (L c.name) ++ beL (c.tino : Int) 4 ++ beL (c.tgen : Int) 4 ++ bytesX (L c.toname) by simp [restS, restD, layL, layF]]
    exact rowW5 h hc hp hx hF ho hf hl

end Go.Proofs.YthfaemcpheecfaaDoor
