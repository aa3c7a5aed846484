/- A call through a reader: a row's fields, all of it. -/
import Derived.Test.YthfaemcpheecfaaDoorCal7
namespace Go.Proofs.YthfaemcpheecfaaDoor
open Go.RowKit Go.Shelf
set_option linter.unusedVariables false
set_option maxRecDepth 100000
set_option linter.unusedSimpArgs false

/-- a reader that tells a call's fields: what it is, the call -/
def GetS (rb cb : Nat) (F : Nat → Prop) (w0 : World) (s : RS) (c : CallX) (w : World) : Prop := RdAt w rb s F ∧ (∃ v, Cs w cb 28 (calCells c v).toArray ∧ BsV w (w0.heap.size ≤ ·) v c.data) ∧ Turn w0 w (fun k => k = rb ∨ k = cb) ∧ (cb ≠ rb ∧ cb < w0.heap.size ∧ rb < w0.heap.size) ∧ (∀ k, F k → k ≠ cb ∧ k < w0.heap.size) ∧ w0.heap.size ≤ w.heap.size
theorem GetS.below {rb cb : Nat} {F : Nat → Prop} {w0 w w' : World} {s : RS} {c : CallX} (h : GetS rb cb F w0 s c w) (hb : Below w.heap.size w w') : GetS rb cb F w0 s c w' := by
  obtain ⟨h1, ⟨v, h2, h3⟩, h4, h5, h6, h7⟩ := h
  exact ⟨h1.below hb, ⟨v, h2.below hb h2.lt, h3.below hb⟩, h4.trans (Turn.of_below hb fun _ => False) (fun _ _ h => h.elim), h5, h6, Nat.le_trans h7 hb.size⟩
theorem GetS.got {rb cb : Nat} {F : Nat → Prop} {w0 w : World} {s s' : RS} {c c' : CallX} {v : Value} {cs' : Array Value} {e : Ending} {w' : World} (h : GetS rb cb F w0 s c w) (hv : BsV w (w0.heap.size ≤ ·) v c.data) (k : GotR rb cb F s' 28 cs' w e w') (hc : cs' = (calCells c' v).toArray) (hd : c'.data = c.data) : GetS rb cb F w0 s' c' w' := by
  obtain ⟨h1, -, h4, h5, h6, h7⟩ := h
  obtain ⟨-, k1, k2, k3⟩ := k
  subst hc
  refine ⟨k1, ⟨v, k2, ?_⟩, h4.trans k3 fun _ _ h => h, h5, h6, Nat.le_trans h7 k3.size⟩
  rw [hd]
  exact hv.turn k3 fun q hq hh => by rcases hh with hh | hh <;> omega
theorem GetS.gotB {rb cb : Nat} {F : Nat → Prop} {w0 w : World} {s s' : RS} {c : CallX} {v : Value} {l : List UInt8} {e : Ending} {w' : World} (h : GetS rb cb F w0 s c w) (k : GotB rb cb 12 F s' 28 (calCells c v).toArray l w e w') : GetS rb cb F w0 s' { c with data := l } w' := by
  obtain ⟨h1, -, h4, h5, h6, h7⟩ := h
  obtain ⟨-, k1, ⟨v', k2, k4⟩, k3⟩ := k
  exact ⟨k1, ⟨v', k2, k4.mono fun q _ hq => Nat.le_trans h7 hq⟩, h4.trans k3 fun _ _ h => h, h5, h6, Nat.le_trans h7 k3.size⟩
theorem GetS.other {rb cb : Nat} {F : Nat → Prop} {w0 w : World} {s : RS} {c : CallX} {t' : TypeId} {cs' : Array Value} {g : Nat} (h : GetS rb cb F w0 s c w) (hc : Cs w0 g t' cs') (hg : g ≠ rb) (hp : g ≠ cb) : Cs w g t' cs' := hc.turn h.2.2.1 fun hh => hh.elim hg hp
theorem bytesR_all10 (s : RS) : (bytesR s 4096).2.all = s.all := tellF_all 4096 .b s
theorem bytes_i (s : RS) : bytesR s 4096 = bytesR s ((4096 : Nat) : Int) := rfl
set_option maxHeartbeats 4000000 in
theorem rowG0 {w0 w : World} {rb cb : Nat} {F : Nat → Prop} {s : RS} {c : CallX} (h : GetS rb cb F w0 s c w) (hlen : s.all.length ≤ 140737488355328) (hn : c.name.size ≤ 100) (ht : c.toname.size ≤ 100) :
    Calls Tryd.prog 43 #[.agg #[.int .u32 0, .int .u32 0, .bool false, .bool false, .bool false], sideR rb, .pointer (some ⟨cb, 0, none⟩)] w fun e w' => e = .returned (.tuple #[]) ∧ GetS rb cb F w0 (numR (numR s 4).2 4).2 ({ c with ino := (numR s 4).1.toNat, gen := (numR (numR s 4).2 4).1.toNat }) w' := by
  have hb := below_new1 w (.cells #[.int .u32 0, .int .u32 0, .bool false, .bool false, .bool false] 66)
  have hlt1 := h.2.2.2.1
  have hsz := h.2.2.2.2.2
  have HS0 := Lib.hid (h.below hb)
  have HR := Lib.hid (Cs.new w 66 #[.int .u32 0, .int .u32 0, .bool false, .bool false, .bool false])
  have HNE := Lib.hid (show w.heap.size ≠ rb ∧ w.heap.size ≠ cb by omega)
  have HLEN := Lib.hid hlen
  have HT := Lib.hid (And.intro hn ht)
  clear h hb hlt1 hsz hlen hn ht
  go_enter Tryd.func43, Tryd.ntmps43
  go_wp2_with fail
  obtain ⟨u0, hc, hv⟩ := HS0.out.2.1
  have HC0 := Lib.hid hc
  have HV0 := Lib.hid hv
  have hun : u0.oneCell' = true := hv.one
  clear hc hv
  refine (handle_g (pb := cb) (i := 4) HS0.out.1 HC0.out (by simp [calCells]) HS0.out.2.2.2.1.1 (fun hh => (HS0.out.2.2.2.2.1 _ hh).1 rfl)).mono ?_
  rintro e w1 hq
  have hs : GetS rb cb F w0 (numR (numR s 4).2 4).2 ({ c with ino := (numR s 4).1.toNat, gen := (numR (numR s 4).2 4).1.toNat }) w1 := HS0.out.got HV0.out hq rfl rfl
  have hr := (HR.out).turn hq.2.2.2 (fun hh => hh.elim HNE.out.1 HNE.out.2)
  obtain ⟨rfl, -⟩ := hq
  have r0_0 : w1.cell? ⟨w.heap.size, 0, none⟩ = some (.int .u32 0) := hr.cell 0 rfl
  have r1_0 : w1.cell? ⟨w.heap.size, 1, none⟩ = some (.int .u32 0) := hr.cell 1 rfl
  have r2_0 : w1.cell? ⟨w.heap.size, 2, none⟩ = some (.bool false) := hr.cell 2 rfl
  have r3_0 : w1.cell? ⟨w.heap.size, 3, none⟩ = some (.bool false) := hr.cell 3 rfl
  have r4_0 : w1.cell? ⟨w.heap.size, 4, none⟩ = some (.bool false) := hr.cell 4 rfl
  have HR1 := Lib.hid hr
  have HS1 := Lib.hid hs
  clear hs hr hun
  go_wp2_with fail
  go_end0
  exact ⟨rfl, HS1.out⟩
set_option maxHeartbeats 4000000 in
theorem rowG1 {w0 w : World} {rb cb : Nat} {F : Nat → Prop} {s : RS} {c : CallX} (h : GetS rb cb F w0 s c w) (hlen : s.all.length ≤ 140737488355328) (hn : c.name.size ≤ 100) (ht : c.toname.size ≤ 100) :
    Calls Tryd.prog 43 #[.agg #[.int .u32 0, .int .u32 4096, .bool false, .bool false, .bool false], sideR rb, .pointer (some ⟨cb, 0, none⟩)] w fun e w' => e = .returned (.tuple #[]) ∧ GetS rb cb F w0 (numR (numR (numR s 4).2 4).2 4).2 ({ { c with ino := (numR s 4).1.toNat, gen := (numR (numR s 4).2 4).1.toNat } with size := (numR (numR (numR s 4).2 4).2 4).1.toNat }) w' := by
  have hb := below_new1 w (.cells #[.int .u32 0, .int .u32 4096, .bool false, .bool false, .bool false] 66)
  have hlt1 := h.2.2.2.1
  have hsz := h.2.2.2.2.2
  have HS0 := Lib.hid (h.below hb)
  have HR := Lib.hid (Cs.new w 66 #[.int .u32 0, .int .u32 4096, .bool false, .bool false, .bool false])
  have HNE := Lib.hid (show w.heap.size ≠ rb ∧ w.heap.size ≠ cb by omega)
  have HLEN := Lib.hid hlen
  have HT := Lib.hid (And.intro hn ht)
  clear h hb hlt1 hsz hlen hn ht
  go_enter Tryd.func43, Tryd.ntmps43
  go_wp2_with fail
  obtain ⟨u0, hc, hv⟩ := HS0.out.2.1
  have HC0 := Lib.hid hc
  have HV0 := Lib.hid hv
  have hun : u0.oneCell' = true := hv.one
  clear hc hv
  refine (handle_g (pb := cb) (i := 4) HS0.out.1 HC0.out (by simp [calCells]) HS0.out.2.2.2.1.1 (fun hh => (HS0.out.2.2.2.2.1 _ hh).1 rfl)).mono ?_
  rintro e w1 hq
  have hs : GetS rb cb F w0 (numR (numR s 4).2 4).2 ({ c with ino := (numR s 4).1.toNat, gen := (numR (numR s 4).2 4).1.toNat }) w1 := HS0.out.got HV0.out hq rfl rfl
  have hr := (HR.out).turn hq.2.2.2 (fun hh => hh.elim HNE.out.1 HNE.out.2)
  obtain ⟨rfl, -⟩ := hq
  have r0_0 : w1.cell? ⟨w.heap.size, 0, none⟩ = some (.int .u32 0) := hr.cell 0 rfl
  have r1_0 : w1.cell? ⟨w.heap.size, 1, none⟩ = some (.int .u32 4096) := hr.cell 1 rfl
  have r2_0 : w1.cell? ⟨w.heap.size, 2, none⟩ = some (.bool false) := hr.cell 2 rfl
  have r3_0 : w1.cell? ⟨w.heap.size, 3, none⟩ = some (.bool false) := hr.cell 3 rfl
  have r4_0 : w1.cell? ⟨w.heap.size, 4, none⟩ = some (.bool false) := hr.cell 4 rfl
  have HR1 := Lib.hid hr
  have HS1 := Lib.hid hs
  clear hs hr hun
  go_wp2_with fail
  obtain ⟨u1, hc, hv⟩ := HS1.out.2.1
  have HC1 := Lib.hid hc
  have HV1 := Lib.hid hv
  have hun : u1.oneCell' = true := hv.one
  clear hc hv
  refine (number_g (pb := cb) (i := 11) HS1.out.1 HC1.out (by simp [calCells]) HS1.out.2.2.2.1.1 (fun hh => (HS1.out.2.2.2.2.1 _ hh).1 rfl)).mono ?_
  rintro e w2 hq
  have hs : GetS rb cb F w0 (numR (numR (numR s 4).2 4).2 4).2 ({ { c with ino := (numR s 4).1.toNat, gen := (numR (numR s 4).2 4).1.toNat } with size := (numR (numR (numR s 4).2 4).2 4).1.toNat }) w2 := HS1.out.got HV1.out hq rfl rfl
  have hr := (HR1.out).turn hq.2.2.2 (fun hh => hh.elim HNE.out.1 HNE.out.2)
  obtain ⟨rfl, -⟩ := hq
  have r0_1 : w2.cell? ⟨w.heap.size, 0, none⟩ = some (.int .u32 0) := hr.cell 0 rfl
  have r1_1 : w2.cell? ⟨w.heap.size, 1, none⟩ = some (.int .u32 4096) := hr.cell 1 rfl
  have r2_1 : w2.cell? ⟨w.heap.size, 2, none⟩ = some (.bool false) := hr.cell 2 rfl
  have r3_1 : w2.cell? ⟨w.heap.size, 3, none⟩ = some (.bool false) := hr.cell 3 rfl
  have r4_1 : w2.cell? ⟨w.heap.size, 4, none⟩ = some (.bool false) := hr.cell 4 rfl
  have HR2 := Lib.hid hr
  have HS2 := Lib.hid hs
  clear hs hr hun
  go_wp2_with fail
  go_end0
  exact ⟨rfl, HS2.out⟩
set_option maxHeartbeats 4000000 in
theorem rowG2 {w0 w : World} {rb cb : Nat} {F : Nat → Prop} {s : RS} {c : CallX} (h : GetS rb cb F w0 s c w) (hlen : s.all.length ≤ 140737488355328) (hn : c.name.size ≤ 100) (ht : c.toname.size ≤ 100) :
    Calls Tryd.prog 43 #[.agg #[.int .u32 0, .int .u32 0, .bool true, .bool false, .bool false], sideR rb, .pointer (some ⟨cb, 0, none⟩)] w fun e w' => e = .returned (.tuple #[]) ∧ GetS rb cb F w0 (bytesR (numR (numR s 4).2 4).2 4096).2 ({ { c with ino := (numR s 4).1.toNat, gen := (numR (numR s 4).2 4).1.toNat } with name := ⟨(bytesR (numR (numR s 4).2 4).2 4096).1.toArray⟩ }) w' := by
  have hb := below_new1 w (.cells #[.int .u32 0, .int .u32 0, .bool true, .bool false, .bool false] 66)
  have hlt1 := h.2.2.2.1
  have hsz := h.2.2.2.2.2
  have HS0 := Lib.hid (h.below hb)
  have HR := Lib.hid (Cs.new w 66 #[.int .u32 0, .int .u32 0, .bool true, .bool false, .bool false])
  have HNE := Lib.hid (show w.heap.size ≠ rb ∧ w.heap.size ≠ cb by omega)
  have HLEN := Lib.hid hlen
  have HT := Lib.hid (And.intro hn ht)
  clear h hb hlt1 hsz hlen hn ht
  go_enter Tryd.func43, Tryd.ntmps43
  go_wp2_with fail
  obtain ⟨u0, hc, hv⟩ := HS0.out.2.1
  have HC0 := Lib.hid hc
  have HV0 := Lib.hid hv
  have hun : u0.oneCell' = true := hv.one
  clear hc hv
  refine (handle_g (pb := cb) (i := 4) HS0.out.1 HC0.out (by simp [calCells]) HS0.out.2.2.2.1.1 (fun hh => (HS0.out.2.2.2.2.1 _ hh).1 rfl)).mono ?_
  rintro e w1 hq
  have hs : GetS rb cb F w0 (numR (numR s 4).2 4).2 ({ c with ino := (numR s 4).1.toNat, gen := (numR (numR s 4).2 4).1.toNat }) w1 := HS0.out.got HV0.out hq rfl rfl
  have hr := (HR.out).turn hq.2.2.2 (fun hh => hh.elim HNE.out.1 HNE.out.2)
  obtain ⟨rfl, -⟩ := hq
  have r0_0 : w1.cell? ⟨w.heap.size, 0, none⟩ = some (.int .u32 0) := hr.cell 0 rfl
  have r1_0 : w1.cell? ⟨w.heap.size, 1, none⟩ = some (.int .u32 0) := hr.cell 1 rfl
  have r2_0 : w1.cell? ⟨w.heap.size, 2, none⟩ = some (.bool true) := hr.cell 2 rfl
  have r3_0 : w1.cell? ⟨w.heap.size, 3, none⟩ = some (.bool false) := hr.cell 3 rfl
  have r4_0 : w1.cell? ⟨w.heap.size, 4, none⟩ = some (.bool false) := hr.cell 4 rfl
  have HR1 := Lib.hid hr
  have HS1 := Lib.hid hs
  clear hs hr hun
  go_wp2_with fail
  obtain ⟨u1, hc, hv⟩ := HS1.out.2.1
  have HC1 := Lib.hid hc
  have HV1 := Lib.hid hv
  have hun : u1.oneCell' = true := hv.one
  clear hc hv
  refine (text_g (pb := cb) (i := 6) c.name (by have := HT.out; omega) HS1.out.1 HC1.out rfl HS1.out.2.2.2.1.1 (fun k hk => ⟨(HS1.out.2.2.2.2.1 k hk).1, Nat.lt_of_lt_of_le (HS1.out.2.2.2.2.1 k hk).2 HS1.out.2.2.2.2.2⟩) (by first | exact HLEN.out | (rw [show ((numR (numR s 4).2 4).2).all = s.all by simp only [numR_all, bytesR_all10]]; exact HLEN.out))).mono ?_
  rintro e w2 hq
  have hs : GetS rb cb F w0 (bytesR (numR (numR s 4).2 4).2 4096).2 ({ { c with ino := (numR s 4).1.toNat, gen := (numR (numR s 4).2 4).1.toNat } with name := ⟨(bytesR (numR (numR s 4).2 4).2 4096).1.toArray⟩ }) w2 := HS1.out.got HV1.out hq rfl rfl
  have hr := (HR1.out).turn hq.2.2.2 (fun hh => hh.elim HNE.out.1 HNE.out.2)
  obtain ⟨rfl, -⟩ := hq
  have r0_1 : w2.cell? ⟨w.heap.size, 0, none⟩ = some (.int .u32 0) := hr.cell 0 rfl
  have r1_1 : w2.cell? ⟨w.heap.size, 1, none⟩ = some (.int .u32 0) := hr.cell 1 rfl
  have r2_1 : w2.cell? ⟨w.heap.size, 2, none⟩ = some (.bool true) := hr.cell 2 rfl
  have r3_1 : w2.cell? ⟨w.heap.size, 3, none⟩ = some (.bool false) := hr.cell 3 rfl
  have r4_1 : w2.cell? ⟨w.heap.size, 4, none⟩ = some (.bool false) := hr.cell 4 rfl
  have HR2 := Lib.hid hr
  have HS2 := Lib.hid hs
  clear hs hr hun
  go_wp2_with fail
  go_end0
  exact ⟨rfl, HS2.out⟩
set_option maxHeartbeats 4000000 in
theorem rowG3 {w0 w : World} {rb cb : Nat} {F : Nat → Prop} {s : RS} {c : CallX} (h : GetS rb cb F w0 s c w) (hlen : s.all.length ≤ 140737488355328) (hn : c.name.size ≤ 100) (ht : c.toname.size ≤ 100) :
    Calls Tryd.prog 43 #[.agg #[.int .u32 4096, .int .u32 64, .bool false, .bool false, .bool false], sideR rb, .pointer (some ⟨cb, 0, none⟩)] w fun e w' => e = .returned (.tuple #[]) ∧ GetS rb cb F w0 (numR (numR (numR (numR s 4).2 4).2 4).2 4).2 ({ { { c with ino := (numR s 4).1.toNat, gen := (numR (numR s 4).2 4).1.toNat } with off := (numR (numR (numR s 4).2 4).2 4).1.toNat } with size := (numR (numR (numR (numR s 4).2 4).2 4).2 4).1.toNat }) w' := by
  have hb := below_new1 w (.cells #[.int .u32 4096, .int .u32 64, .bool false, .bool false, .bool false] 66)
  have hlt1 := h.2.2.2.1
  have hsz := h.2.2.2.2.2
  have HS0 := Lib.hid (h.below hb)
  have HR := Lib.hid (Cs.new w 66 #[.int .u32 4096, .int .u32 64, .bool false, .bool false, .bool false])
  have HNE := Lib.hid (show w.heap.size ≠ rb ∧ w.heap.size ≠ cb by omega)
  have HLEN := Lib.hid hlen
  have HT := Lib.hid (And.intro hn ht)
  clear h hb hlt1 hsz hlen hn ht
  go_enter Tryd.func43, Tryd.ntmps43
  go_wp2_with fail
  obtain ⟨u0, hc, hv⟩ := HS0.out.2.1
  have HC0 := Lib.hid hc
  have HV0 := Lib.hid hv
  have hun : u0.oneCell' = true := hv.one
  clear hc hv
  refine (handle_g (pb := cb) (i := 4) HS0.out.1 HC0.out (by simp [calCells]) HS0.out.2.2.2.1.1 (fun hh => (HS0.out.2.2.2.2.1 _ hh).1 rfl)).mono ?_
  rintro e w1 hq
  have hs : GetS rb cb F w0 (numR (numR s 4).2 4).2 ({ c with ino := (numR s 4).1.toNat, gen := (numR (numR s 4).2 4).1.toNat }) w1 := HS0.out.got HV0.out hq rfl rfl
  have hr := (HR.out).turn hq.2.2.2 (fun hh => hh.elim HNE.out.1 HNE.out.2)
  obtain ⟨rfl, -⟩ := hq
  have r0_0 : w1.cell? ⟨w.heap.size, 0, none⟩ = some (.int .u32 4096) := hr.cell 0 rfl
  have r1_0 : w1.cell? ⟨w.heap.size, 1, none⟩ = some (.int .u32 64) := hr.cell 1 rfl
  have r2_0 : w1.cell? ⟨w.heap.size, 2, none⟩ = some (.bool false) := hr.cell 2 rfl
  have r3_0 : w1.cell? ⟨w.heap.size, 3, none⟩ = some (.bool false) := hr.cell 3 rfl
  have r4_0 : w1.cell? ⟨w.heap.size, 4, none⟩ = some (.bool false) := hr.cell 4 rfl
  have HR1 := Lib.hid hr
  have HS1 := Lib.hid hs
  clear hs hr hun
  go_wp2_with fail
  obtain ⟨u1, hc, hv⟩ := HS1.out.2.1
  have HC1 := Lib.hid hc
  have HV1 := Lib.hid hv
  have hun : u1.oneCell' = true := hv.one
  clear hc hv
  refine (number_g (pb := cb) (i := 10) HS1.out.1 HC1.out (by simp [calCells]) HS1.out.2.2.2.1.1 (fun hh => (HS1.out.2.2.2.2.1 _ hh).1 rfl)).mono ?_
  rintro e w2 hq
  have hs : GetS rb cb F w0 (numR (numR (numR s 4).2 4).2 4).2 ({ { c with ino := (numR s 4).1.toNat, gen := (numR (numR s 4).2 4).1.toNat } with off := (numR (numR (numR s 4).2 4).2 4).1.toNat }) w2 := HS1.out.got HV1.out hq rfl rfl
  have hr := (HR1.out).turn hq.2.2.2 (fun hh => hh.elim HNE.out.1 HNE.out.2)
  obtain ⟨rfl, -⟩ := hq
  have r0_1 : w2.cell? ⟨w.heap.size, 0, none⟩ = some (.int .u32 4096) := hr.cell 0 rfl
  have r1_1 : w2.cell? ⟨w.heap.size, 1, none⟩ = some (.int .u32 64) := hr.cell 1 rfl
  have r2_1 : w2.cell? ⟨w.heap.size, 2, none⟩ = some (.bool false) := hr.cell 2 rfl
  have r3_1 : w2.cell? ⟨w.heap.size, 3, none⟩ = some (.bool false) := hr.cell 3 rfl
  have r4_1 : w2.cell? ⟨w.heap.size, 4, none⟩ = some (.bool false) := hr.cell 4 rfl
  have HR2 := Lib.hid hr
  have HS2 := Lib.hid hs
  clear hs hr hun
  go_wp2_with fail
  obtain ⟨u2, hc, hv⟩ := HS2.out.2.1
  have HC2 := Lib.hid hc
  have HV2 := Lib.hid hv
  have hun : u2.oneCell' = true := hv.one
  clear hc hv
  refine (number_g (pb := cb) (i := 11) HS2.out.1 HC2.out (by simp [calCells]) HS2.out.2.2.2.1.1 (fun hh => (HS2.out.2.2.2.2.1 _ hh).1 rfl)).mono ?_
  rintro e w3 hq
  have hs : GetS rb cb F w0 (numR (numR (numR (numR s 4).2 4).2 4).2 4).2 ({ { { c with ino := (numR s 4).1.toNat, gen := (numR (numR s 4).2 4).1.toNat } with off := (numR (numR (numR s 4).2 4).2 4).1.toNat } with size := (numR (numR (numR (numR s 4).2 4).2 4).2 4).1.toNat }) w3 := HS2.out.got HV2.out hq rfl rfl
  have hr := (HR2.out).turn hq.2.2.2 (fun hh => hh.elim HNE.out.1 HNE.out.2)
  obtain ⟨rfl, -⟩ := hq
  have r0_2 : w3.cell? ⟨w.heap.size, 0, none⟩ = some (.int .u32 4096) := hr.cell 0 rfl
  have r1_2 : w3.cell? ⟨w.heap.size, 1, none⟩ = some (.int .u32 64) := hr.cell 1 rfl
  have r2_2 : w3.cell? ⟨w.heap.size, 2, none⟩ = some (.bool false) := hr.cell 2 rfl
  have r3_2 : w3.cell? ⟨w.heap.size, 3, none⟩ = some (.bool false) := hr.cell 3 rfl
  have r4_2 : w3.cell? ⟨w.heap.size, 4, none⟩ = some (.bool false) := hr.cell 4 rfl
  have HR3 := Lib.hid hr
  have HS3 := Lib.hid hs
  clear hs hr hun
  go_wp2_with fail
  go_end0
  exact ⟨rfl, HS3.out⟩
set_option maxHeartbeats 4000000 in
theorem rowG4 {w0 w : World} {rb cb : Nat} {F : Nat → Prop} {s : RS} {c : CallX} (h : GetS rb cb F w0 s c w) (hlen : s.all.length ≤ 140737488355328) (hn : c.name.size ≤ 100) (ht : c.toname.size ≤ 100) :
    Calls Tryd.prog 43 #[.agg #[.int .u32 4032, .int .u32 0, .bool false, .bool false, .bool true], sideR rb, .pointer (some ⟨cb, 0, none⟩)] w fun e w' => e = .returned (.tuple #[]) ∧ GetS rb cb F w0 (bytesR (numR (numR (numR s 4).2 4).2 4).2 4096).2 ({ { { c with ino := (numR s 4).1.toNat, gen := (numR (numR s 4).2 4).1.toNat } with off := (numR (numR (numR s 4).2 4).2 4).1.toNat } with data := (bytesR (numR (numR (numR s 4).2 4).2 4).2 4096).1 }) w' := by
  have hb := below_new1 w (.cells #[.int .u32 4032, .int .u32 0, .bool false, .bool false, .bool true] 66)
  have hlt1 := h.2.2.2.1
  have hsz := h.2.2.2.2.2
  have HS0 := Lib.hid (h.below hb)
  have HR := Lib.hid (Cs.new w 66 #[.int .u32 4032, .int .u32 0, .bool false, .bool false, .bool true])
  have HNE := Lib.hid (show w.heap.size ≠ rb ∧ w.heap.size ≠ cb by omega)
  have HLEN := Lib.hid hlen
  have HT := Lib.hid (And.intro hn ht)
  clear h hb hlt1 hsz hlen hn ht
  go_enter Tryd.func43, Tryd.ntmps43
  go_wp2_with fail
  obtain ⟨u0, hc, hv⟩ := HS0.out.2.1
  have HC0 := Lib.hid hc
  have HV0 := Lib.hid hv
  have hun : u0.oneCell' = true := hv.one
  clear hc hv
  refine (handle_g (pb := cb) (i := 4) HS0.out.1 HC0.out (by simp [calCells]) HS0.out.2.2.2.1.1 (fun hh => (HS0.out.2.2.2.2.1 _ hh).1 rfl)).mono ?_
  rintro e w1 hq
  have hs : GetS rb cb F w0 (numR (numR s 4).2 4).2 ({ c with ino := (numR s 4).1.toNat, gen := (numR (numR s 4).2 4).1.toNat }) w1 := HS0.out.got HV0.out hq rfl rfl
  have hr := (HR.out).turn hq.2.2.2 (fun hh => hh.elim HNE.out.1 HNE.out.2)
  obtain ⟨rfl, -⟩ := hq
  have r0_0 : w1.cell? ⟨w.heap.size, 0, none⟩ = some (.int .u32 4032) := hr.cell 0 rfl
  have r1_0 : w1.cell? ⟨w.heap.size, 1, none⟩ = some (.int .u32 0) := hr.cell 1 rfl
  have r2_0 : w1.cell? ⟨w.heap.size, 2, none⟩ = some (.bool false) := hr.cell 2 rfl
  have r3_0 : w1.cell? ⟨w.heap.size, 3, none⟩ = some (.bool false) := hr.cell 3 rfl
  have r4_0 : w1.cell? ⟨w.heap.size, 4, none⟩ = some (.bool true) := hr.cell 4 rfl
  have HR1 := Lib.hid hr
  have HS1 := Lib.hid hs
  clear hs hr hun
  go_wp2_with fail
  obtain ⟨u1, hc, hv⟩ := HS1.out.2.1
  have HC1 := Lib.hid hc
  have HV1 := Lib.hid hv
  have hun : u1.oneCell' = true := hv.one
  clear hc hv
  refine (number_g (pb := cb) (i := 10) HS1.out.1 HC1.out (by simp [calCells]) HS1.out.2.2.2.1.1 (fun hh => (HS1.out.2.2.2.2.1 _ hh).1 rfl)).mono ?_
  rintro e w2 hq
  have hs : GetS rb cb F w0 (numR (numR (numR s 4).2 4).2 4).2 ({ { c with ino := (numR s 4).1.toNat, gen := (numR (numR s 4).2 4).1.toNat } with off := (numR (numR (numR s 4).2 4).2 4).1.toNat }) w2 := HS1.out.got HV1.out hq rfl rfl
  have hr := (HR1.out).turn hq.2.2.2 (fun hh => hh.elim HNE.out.1 HNE.out.2)
  obtain ⟨rfl, -⟩ := hq
  have r0_1 : w2.cell? ⟨w.heap.size, 0, none⟩ = some (.int .u32 4032) := hr.cell 0 rfl
  have r1_1 : w2.cell? ⟨w.heap.size, 1, none⟩ = some (.int .u32 0) := hr.cell 1 rfl
  have r2_1 : w2.cell? ⟨w.heap.size, 2, none⟩ = some (.bool false) := hr.cell 2 rfl
  have r3_1 : w2.cell? ⟨w.heap.size, 3, none⟩ = some (.bool false) := hr.cell 3 rfl
  have r4_1 : w2.cell? ⟨w.heap.size, 4, none⟩ = some (.bool true) := hr.cell 4 rfl
  have HR2 := Lib.hid hr
  have HS2 := Lib.hid hs
  clear hs hr hun
  go_wp2_with fail
  obtain ⟨u2, hc, hv⟩ := HS2.out.2.1
  have HC2 := Lib.hid hc
  have HV2 := Lib.hid hv
  have hun : u2.oneCell' = true := hv.one
  clear hc hv
  refine (some_g (pb := cb) (i := 12) HS2.out.1 HC2.out (by simp [calCells]) HS2.out.2.2.2.1.1 (fun hh => (HS2.out.2.2.2.2.1 _ hh).1 rfl) (by first | exact HLEN.out | (rw [show ((numR (numR (numR s 4).2 4).2 4).2).all = s.all by simp only [numR_all, bytesR_all10]]; exact HLEN.out))).mono ?_
  rintro e w3 hq
  have hs : GetS rb cb F w0 (bytesR (numR (numR (numR s 4).2 4).2 4).2 4096).2 ({ { { c with ino := (numR s 4).1.toNat, gen := (numR (numR s 4).2 4).1.toNat } with off := (numR (numR (numR s 4).2 4).2 4).1.toNat } with data := (bytesR (numR (numR (numR s 4).2 4).2 4).2 4096).1 }) w3 := HS2.out.gotB hq
  have hr := (HR2.out).turn hq.2.2.2 (fun hh => hh.elim HNE.out.1 HNE.out.2)
  obtain ⟨rfl, -⟩ := hq
  have r0_2 : w3.cell? ⟨w.heap.size, 0, none⟩ = some (.int .u32 4032) := hr.cell 0 rfl
  have r1_2 : w3.cell? ⟨w.heap.size, 1, none⟩ = some (.int .u32 0) := hr.cell 1 rfl
  have r2_2 : w3.cell? ⟨w.heap.size, 2, none⟩ = some (.bool false) := hr.cell 2 rfl
  have r3_2 : w3.cell? ⟨w.heap.size, 3, none⟩ = some (.bool false) := hr.cell 3 rfl
  have r4_2 : w3.cell? ⟨w.heap.size, 4, none⟩ = some (.bool true) := hr.cell 4 rfl
  have HR3 := Lib.hid hr
  have HS3 := Lib.hid hs
  clear hs hr hun
  go_wp2_with fail
  go_end0
  exact ⟨rfl, HS3.out⟩
set_option maxHeartbeats 4000000 in
theorem rowG5 {w0 w : World} {rb cb : Nat} {F : Nat → Prop} {s : RS} {c : CallX} (h : GetS rb cb F w0 s c w) (hlen : s.all.length ≤ 140737488355328) (hn : c.name.size ≤ 100) (ht : c.toname.size ≤ 100) :
    Calls Tryd.prog 43 #[.agg #[.int .u32 0, .int .u32 0, .bool true, .bool true, .bool false], sideR rb, .pointer (some ⟨cb, 0, none⟩)] w fun e w' => e = .returned (.tuple #[]) ∧ GetS rb cb F w0 (bytesR (numR (numR (bytesR (numR (numR s 4).2 4).2 4096).2 4).2 4).2 4096).2 ({ { { { c with ino := (numR s 4).1.toNat, gen := (numR (numR s 4).2 4).1.toNat } with name := ⟨(bytesR (numR (numR s 4).2 4).2 4096).1.toArray⟩ } with tino := (numR (bytesR (numR (numR s 4).2 4).2 4096).2 4).1.toNat, tgen := (numR (numR (bytesR (numR (numR s 4).2 4).2 4096).2 4).2 4).1.toNat } with toname := ⟨(bytesR (numR (numR (bytesR (numR (numR s 4).2 4).2 4096).2 4).2 4).2 4096).1.toArray⟩ }) w' := by
  have hb := below_new1 w (.cells #[.int .u32 0, .int .u32 0, .bool true, .bool true, .bool false] 66)
  have hlt1 := h.2.2.2.1
  have hsz := h.2.2.2.2.2
  have HS0 := Lib.hid (h.below hb)
  have HR := Lib.hid (Cs.new w 66 #[.int .u32 0, .int .u32 0, .bool true, .bool true, .bool false])
  have HNE := Lib.hid (show w.heap.size ≠ rb ∧ w.heap.size ≠ cb by omega)
  have HLEN := Lib.hid hlen
  have HT := Lib.hid (And.intro hn ht)
  clear h hb hlt1 hsz hlen hn ht
  go_enter Tryd.func43, Tryd.ntmps43
  go_wp2_with fail
  obtain ⟨u0, hc, hv⟩ := HS0.out.2.1
  have HC0 := Lib.hid hc
  have HV0 := Lib.hid hv
  have hun : u0.oneCell' = true := hv.one
  clear hc hv
  refine (handle_g (pb := cb) (i := 4) HS0.out.1 HC0.out (by simp [calCells]) HS0.out.2.2.2.1.1 (fun hh => (HS0.out.2.2.2.2.1 _ hh).1 rfl)).mono ?_
  rintro e w1 hq
  have hs : GetS rb cb F w0 (numR (numR s 4).2 4).2 ({ c with ino := (numR s 4).1.toNat, gen := (numR (numR s 4).2 4).1.toNat }) w1 := HS0.out.got HV0.out hq rfl rfl
  have hr := (HR.out).turn hq.2.2.2 (fun hh => hh.elim HNE.out.1 HNE.out.2)
  obtain ⟨rfl, -⟩ := hq
  have r0_0 : w1.cell? ⟨w.heap.size, 0, none⟩ = some (.int .u32 0) := hr.cell 0 rfl
  have r1_0 : w1.cell? ⟨w.heap.size, 1, none⟩ = some (.int .u32 0) := hr.cell 1 rfl
  have r2_0 : w1.cell? ⟨w.heap.size, 2, none⟩ = some (.bool true) := hr.cell 2 rfl
  have r3_0 : w1.cell? ⟨w.heap.size, 3, none⟩ = some (.bool true) := hr.cell 3 rfl
  have r4_0 : w1.cell? ⟨w.heap.size, 4, none⟩ = some (.bool false) := hr.cell 4 rfl
  have HR1 := Lib.hid hr
  have HS1 := Lib.hid hs
  clear hs hr hun
  go_wp2_with fail
  obtain ⟨u1, hc, hv⟩ := HS1.out.2.1
  have HC1 := Lib.hid hc
  have HV1 := Lib.hid hv
  have hun : u1.oneCell' = true := hv.one
  clear hc hv
  refine (text_g (pb := cb) (i := 6) c.name (by have := HT.out; omega) HS1.out.1 HC1.out rfl HS1.out.2.2.2.1.1 (fun k hk => ⟨(HS1.out.2.2.2.2.1 k hk).1, Nat.lt_of_lt_of_le (HS1.out.2.2.2.2.1 k hk).2 HS1.out.2.2.2.2.2⟩) (by first | exact HLEN.out | (rw [show ((numR (numR s 4).2 4).2).all = s.all by simp only [numR_all, bytesR_all10]]; exact HLEN.out))).mono ?_
  rintro e w2 hq
  have hs : GetS rb cb F w0 (bytesR (numR (numR s 4).2 4).2 4096).2 ({ { c with ino := (numR s 4).1.toNat, gen := (numR (numR s 4).2 4).1.toNat } with name := ⟨(bytesR (numR (numR s 4).2 4).2 4096).1.toArray⟩ }) w2 := HS1.out.got HV1.out hq rfl rfl
  have hr := (HR1.out).turn hq.2.2.2 (fun hh => hh.elim HNE.out.1 HNE.out.2)
  obtain ⟨rfl, -⟩ := hq
  have r0_1 : w2.cell? ⟨w.heap.size, 0, none⟩ = some (.int .u32 0) := hr.cell 0 rfl
  have r1_1 : w2.cell? ⟨w.heap.size, 1, none⟩ = some (.int .u32 0) := hr.cell 1 rfl
  have r2_1 : w2.cell? ⟨w.heap.size, 2, none⟩ = some (.bool true) := hr.cell 2 rfl
  have r3_1 : w2.cell? ⟨w.heap.size, 3, none⟩ = some (.bool true) := hr.cell 3 rfl
  have r4_1 : w2.cell? ⟨w.heap.size, 4, none⟩ = some (.bool false) := hr.cell 4 rfl
  have HR2 := Lib.hid hr
  have HS2 := Lib.hid hs
  clear hs hr hun
  go_wp2_with fail
  obtain ⟨u2, hc, hv⟩ := HS2.out.2.1
  have HC2 := Lib.hid hc
  have HV2 := Lib.hid hv
  have hun : u2.oneCell' = true := hv.one
  clear hc hv
  refine (handle_g (pb := cb) (i := 7) HS2.out.1 HC2.out (by simp [calCells]) HS2.out.2.2.2.1.1 (fun hh => (HS2.out.2.2.2.2.1 _ hh).1 rfl)).mono ?_
  rintro e w3 hq
  have hs : GetS rb cb F w0 (numR (numR (bytesR (numR (numR s 4).2 4).2 4096).2 4).2 4).2 ({ { { c with ino := (numR s 4).1.toNat, gen := (numR (numR s 4).2 4).1.toNat } with name := ⟨(bytesR (numR (numR s 4).2 4).2 4096).1.toArray⟩ } with tino := (numR (bytesR (numR (numR s 4).2 4).2 4096).2 4).1.toNat, tgen := (numR (numR (bytesR (numR (numR s 4).2 4).2 4096).2 4).2 4).1.toNat }) w3 := HS2.out.got HV2.out hq rfl rfl
  have hr := (HR2.out).turn hq.2.2.2 (fun hh => hh.elim HNE.out.1 HNE.out.2)
  obtain ⟨rfl, -⟩ := hq
  have r0_2 : w3.cell? ⟨w.heap.size, 0, none⟩ = some (.int .u32 0) := hr.cell 0 rfl
  have r1_2 : w3.cell? ⟨w.heap.size, 1, none⟩ = some (.int .u32 0) := hr.cell 1 rfl
  have r2_2 : w3.cell? ⟨w.heap.size, 2, none⟩ = some (.bool true) := hr.cell 2 rfl
  have r3_2 : w3.cell? ⟨w.heap.size, 3, none⟩ = some (.bool true) := hr.cell 3 rfl
  have r4_2 : w3.cell? ⟨w.heap.size, 4, none⟩ = some (.bool false) := hr.cell 4 rfl
  have HR3 := Lib.hid hr
  have HS3 := Lib.hid hs
  clear hs hr hun
  go_wp2_with fail
  obtain ⟨u3, hc, hv⟩ := HS3.out.2.1
  have HC3 := Lib.hid hc
  have HV3 := Lib.hid hv
  have hun : u3.oneCell' = true := hv.one
  clear hc hv
  refine (text_g (pb := cb) (i := 9) c.toname (by have := HT.out; omega) HS3.out.1 HC3.out rfl HS3.out.2.2.2.1.1 (fun k hk => ⟨(HS3.out.2.2.2.2.1 k hk).1, Nat.lt_of_lt_of_le (HS3.out.2.2.2.2.1 k hk).2 HS3.out.2.2.2.2.2⟩) (by first | exact HLEN.out | (rw [show ((numR (numR (bytesR (numR (numR s 4).2 4).2 4096).2 4).2 4).2).all = s.all by simp only [numR_all, bytesR_all10]]; exact HLEN.out))).mono ?_
  rintro e w4 hq
  have hs : GetS rb cb F w0 (bytesR (numR (numR (bytesR (numR (numR s 4).2 4).2 4096).2 4).2 4).2 4096).2 ({ { { { c with ino := (numR s 4).1.toNat, gen := (numR (numR s 4).2 4).1.toNat } with name := ⟨(bytesR (numR (numR s 4).2 4).2 4096).1.toArray⟩ } with tino := (numR (bytesR (numR (numR s 4).2 4).2 4096).2 4).1.toNat, tgen := (numR (numR (bytesR (numR (numR s 4).2 4).2 4096).2 4).2 4).1.toNat } with toname := ⟨(bytesR (numR (numR (bytesR (numR (numR s 4).2 4).2 4096).2 4).2 4).2 4096).1.toArray⟩ }) w4 := HS3.out.got HV3.out hq rfl rfl
  have hr := (HR3.out).turn hq.2.2.2 (fun hh => hh.elim HNE.out.1 HNE.out.2)
  obtain ⟨rfl, -⟩ := hq
  have r0_3 : w4.cell? ⟨w.heap.size, 0, none⟩ = some (.int .u32 0) := hr.cell 0 rfl
  have r1_3 : w4.cell? ⟨w.heap.size, 1, none⟩ = some (.int .u32 0) := hr.cell 1 rfl
  have r2_3 : w4.cell? ⟨w.heap.size, 2, none⟩ = some (.bool true) := hr.cell 2 rfl
  have r3_3 : w4.cell? ⟨w.heap.size, 3, none⟩ = some (.bool true) := hr.cell 3 rfl
  have r4_3 : w4.cell? ⟨w.heap.size, 4, none⟩ = some (.bool false) := hr.cell 4 rfl
  have HR4 := Lib.hid hr
  have HS4 := Lib.hid hs
  clear hs hr hun
  go_wp2_with fail
  go_end0
  exact ⟨rfl, HS4.out⟩
theorem fdsR (r : KRow) (s : RS) : (tellL 4096 (restS r) s).2.all = s.all := tellL_all 4096 _ s
theorem rowPass_g {w0 w : World} {rb cb : Nat} {F : Nat → Prop} {s : RS} {c : CallX} (k : Nat) (h : GetS rb cb F w0 s c w) (hlen : s.all.length ≤ 140737488355328) (hn : c.name.size ≤ 100) (ht : c.toname.size ≤ 100) :
    Calls Tryd.prog 43 #[.agg (kCells (kRow k)).toArray, sideR rb, .pointer (some ⟨cb, 0, none⟩)] w fun e w' => e = .returned (.tuple #[]) ∧ GetS rb cb F w0 (tellL 4096 (restS (kRow k)) s).2 (restC k c (tellL 4096 (restS (kRow k)) s).1) w' := by
  by_cases h2 : k = 2
  · subst h2; exact rowG1 h hlen hn ht
  by_cases h3 : k = 3 ∨ k = 7 ∨ k = 8 ∨ k = 9 ∨ k = 10
  · have e : kRow k = ⟨0, 0, true, false, false⟩ := by unfold kRow; rw [if_neg h2, if_pos h3]
    unfold restC
    rw [e, if_neg h2, if_pos h3]
    exact rowG2 h hlen hn ht
  by_cases h4 : k = 4
  · subst h4; exact rowG3 h hlen hn ht
  by_cases h5 : k = 5
  · subst h5; exact rowG4 h hlen hn ht
  by_cases h6 : k = 11
  · subst h6; exact rowG5 h hlen hn ht
  · have e : kRow k = kNone := by unfold kRow; rw [if_neg h2, if_neg h3, if_neg h4, if_neg h5, if_neg h6]
    unfold restC
    rw [e, if_neg h2, if_neg h3, if_neg h4, if_neg h5, if_neg h6]
    exact rowG0 h hlen hn ht

end Go.Proofs.YthfaemcpheecfaaDoor
