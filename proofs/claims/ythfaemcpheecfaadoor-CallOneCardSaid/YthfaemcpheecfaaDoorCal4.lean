/- A call's fields through a writer: number, great, some, small, text, handle. -/
import Derived.Laws.IdiomStrings
import Derived.Test.YthfaemcpheecfaaDoorCal2
import Derived.Test.YthfaemcpheecfaaDoorXdWr2
namespace Go.Proofs.YthfaemcpheecfaaDoor
open Go.RowKit Go.Shelf
set_option linter.unusedVariables false
set_option maxRecDepth 100000
set_option linter.unusedSimpArgs false

theorem wr_is (x : Value) (w : World) : (Instr.typeAssert (.iface 47 x) 73 47 true).run Tryd.prog w = .ok (.tuple #[x, .bool true]) w := by kernel_rfl
theorem rd_isnt (x : Value) (w : World) : (Instr.typeAssert (.iface 57 x) 73 47 true).run Tryd.prog w = .ok (.tuple #[.agg #[.pointer none], .bool false]) w := by kernel_rfl
theorem rd_is (x : Value) (w : World) : (Instr.typeAssert (.iface 57 x) 73 57 true).run Tryd.prog w = .ok (.tuple #[x, .bool true]) w := by kernel_rfl
theorem wr_error (x : Value) (w : World) : (Go.method 252 47 x "Error").run Tryd.prog w = .ok (112, x) w := by kernel_rfl
theorem rd_error (a : Addr) (w : World) : (Go.method 252 57 (.agg #[.pointer (some a)]) "Error").run Tryd.prog w = .ok (47, .pointer (some a)) w := by kernel_rfl
/-- a writer as a side -/
def sideW (wb : Nat) : Value := .iface 47 (.agg #[.pointer (some ⟨wb, 0, none⟩)])
def sideR (rb : Nat) : Value := .iface 57 (.agg #[.pointer (some ⟨rb, 0, none⟩)])
/-- what was laid, at a world -/
def LaidS (wb : Nat) (v : Value) (l : List UInt8) (w z : World) : Prop := ∃ v', WrAt z wb v' l ∧ Turn w z (LayF wb v) ∧ OwnTo w v v'
theorem kept_laid (wb : Nat) (v : Value) (l : List UInt8) (w : World) : Kept (LaidS wb v l w) := fun u u' h hb => by
  obtain ⟨v', h1, h2, h3⟩ := h
  exact ⟨v', h1.below hb, h2.trans (Turn.of_below hb fun _ => False) (fun _ _ h => h.elim), h3⟩
set_option maxHeartbeats 4000000 in
theorem number_w {w : World} {wb pb i : Nat} {v0 : Value} {l : List UInt8} (n : Nat) (hn : n < 4294967296) (hc : w.cell? ⟨pb, i, none⟩ = some (.int .u32 (n : Int))) (h : WrAt w wb v0 l) (hl : l.length + 4 ≤ 140737488355328) :
    Calls Tryd.prog 41 #[sideW wb, .pointer (some ⟨pb, i, none⟩)] w fun e w' => Laid wb v0 (l ++ beL (n : Int) 4) w e w' := by
  have hmix : Tryd.prog.follows .mixedOrders = true := by kernel_rfl
  have e1 := wr_is
  have hn' : (n : Int) ≤ 4294967295 := by omega
  have HW := Lib.hid fun u (hb : Below w.heap.size w u) => Number_w n hn (h.below hb) hl
  have HC := Lib.hid hc
  clear h hl hc
  generalize beL (n : Int) 4 = x at *
  unfold sideW
  go_enter Tryd.func41, Tryd.ntmps41
  go_wp2_with fail
  have hb0 := below_new1 w (.cells #[.pointer (some ⟨wb, 0, none⟩)] 47)
  have hcg := (Cs.new w 47 #[.pointer (some ⟨wb, 0, none⟩)]).cell 0 rfl
  have hcp := cell_b hb0 HC.out
  generalize w.alloc (.cells #[.pointer (some ⟨wb, 0, none⟩)] 47) = y at *
  have HB0 := Lib.hid hb0
  clear hb0
  refine wp_region_V [5] (Below y.heap.size y) hmix ((Below.refl _ _).drew) ?_
  change wpAnyV _ _ _ _ _ _ _ _ _
  refine wpAnyV_take (i := 0) (v := .pointer (some ⟨w.heap.size, 0, none⟩)) 8 (kept_below y) rfl (by kernel_rfl) (by kernel_rfl) (fun _ _ _ h => h) (fun _ h => h) (DoesV.reads (by rfl) fun w9 hS => by go_simp) ?_
  try simp only [List.getElem_toArray, List.getElem_cons_succ, List.getElem_cons_zero, Act.put, List.setIfInBounds_toArray, List.set_cons_succ, List.set_cons_zero]
  refine wpAnyV_take (i := 1) (v := .pointer (some ⟨wb, 0, none⟩)) 8 (kept_below y) rfl (by kernel_rfl) (by kernel_rfl) (fun _ _ _ h => h) (fun _ h => h) (DoesV.reads (by rfl) fun w9 hS => by have q0 := cell_b hS hcg; go_simp) ?_
  try simp only [List.getElem_toArray, List.getElem_cons_succ, List.getElem_cons_zero, Act.put, List.setIfInBounds_toArray, List.set_cons_succ, List.set_cons_zero]
  refine wpAnyV_take (i := 2) (v := .pointer (some ⟨pb, i, none⟩)) 8 (kept_below y) rfl (by kernel_rfl) (by kernel_rfl) (fun _ _ _ h => h) (fun _ h => h) (DoesV.reads (by rfl) fun w9 hS => by go_simp) ?_
  try simp only [List.getElem_toArray, List.getElem_cons_succ, List.getElem_cons_zero, Act.put, List.setIfInBounds_toArray, List.set_cons_succ, List.set_cons_zero]
  refine wpAnyV_take (i := 3) (v := .pointer (some ⟨pb, i, none⟩)) 8 (kept_below y) rfl (by kernel_rfl) (by kernel_rfl) (fun _ _ _ h => h) (fun _ h => h) (DoesV.reads (by rfl) fun w9 hS => by go_simp) ?_
  try simp only [List.getElem_toArray, List.getElem_cons_succ, List.getElem_cons_zero, Act.put, List.setIfInBounds_toArray, List.set_cons_succ, List.set_cons_zero]
  refine wpAnyV_take (i := 4) (v := .int .u32 (n : Int)) 8 (kept_below y) rfl (by kernel_rfl) (by kernel_rfl) (fun _ _ _ h => h) (fun _ h => h) (DoesV.reads (by rfl) fun w9 hS => by have q0 := cell_b hS hcp; go_simp) ?_
  try simp only [List.getElem_toArray, List.getElem_cons_succ, List.getElem_cons_zero, Act.put, List.setIfInBounds_toArray, List.set_cons_succ, List.set_cons_zero]
  refine wpAnyV_only (i := 5) rfl (by kernel_rfl) rfl (fun u hS => wp_of_call (by go_simp) (HW.out u (HB0.out.trans (hS.mono HB0.out.size))) fun e u' h => ⟨_, h.1, LaidS wb v0 (l ++ x) w, (h.since (HB0.out.trans (hS.mono HB0.out.size))).2, kept_laid _ _ _ _, fun h => absurd (by simp) h, ?_⟩)
  try simp only [List.getElem_toArray, List.getElem_cons_succ, List.getElem_cons_zero, Act.put, List.setIfInBounds_toArray, List.set_cons_succ, List.set_cons_zero]
  refine wpAnyV_done (by kernel_rfl) (fun z hz => ?_) _
  have HZ := Lib.hid hz
  clear hz
  go_wp2_with fail
  go_end0
  exact ⟨rfl, HZ.out⟩
set_option maxHeartbeats 4000000 in
theorem great_w {w : World} {wb pb i : Nat} {v0 : Value} {l : List UInt8} (n : Nat) (hn : n < 18446744073709551616) (hc : w.cell? ⟨pb, i, none⟩ = some (.int .u64 (n : Int))) (h : WrAt w wb v0 l) (hl : l.length + 8 ≤ 140737488355328) :
    Calls Tryd.prog 42 #[sideW wb, .pointer (some ⟨pb, i, none⟩)] w fun e w' => Laid wb v0 (l ++ beL (n : Int) 8) w e w' := by
  have hmix : Tryd.prog.follows .mixedOrders = true := by kernel_rfl
  have e1 := wr_is
  have HW := Lib.hid fun u (hb : Below w.heap.size w u) => Great_w n hn (h.below hb) hl
  have HC := Lib.hid hc
  clear h hl hc
  generalize beL (n : Int) 8 = x at *
  unfold sideW
  go_enter Tryd.func42, Tryd.ntmps42
  go_wp2_with fail
  have hb0 := below_new1 w (.cells #[.pointer (some ⟨wb, 0, none⟩)] 47)
  have hcg := (Cs.new w 47 #[.pointer (some ⟨wb, 0, none⟩)]).cell 0 rfl
  have hcp := cell_b hb0 HC.out
  generalize w.alloc (.cells #[.pointer (some ⟨wb, 0, none⟩)] 47) = y at *
  have HB0 := Lib.hid hb0
  clear hb0
  refine wp_region_V [5] (Below y.heap.size y) hmix ((Below.refl _ _).drew) ?_
  change wpAnyV _ _ _ _ _ _ _ _ _
  refine wpAnyV_take (i := 0) (v := .pointer (some ⟨w.heap.size, 0, none⟩)) 8 (kept_below y) rfl (by kernel_rfl) (by kernel_rfl) (fun _ _ _ h => h) (fun _ h => h) (DoesV.reads (by rfl) fun w9 hS => by go_simp) ?_
  try simp only [List.getElem_toArray, List.getElem_cons_succ, List.getElem_cons_zero, Act.put, List.setIfInBounds_toArray, List.set_cons_succ, List.set_cons_zero]
  refine wpAnyV_take (i := 1) (v := .pointer (some ⟨wb, 0, none⟩)) 8 (kept_below y) rfl (by kernel_rfl) (by kernel_rfl) (fun _ _ _ h => h) (fun _ h => h) (DoesV.reads (by rfl) fun w9 hS => by have q0 := cell_b hS hcg; go_simp) ?_
  try simp only [List.getElem_toArray, List.getElem_cons_succ, List.getElem_cons_zero, Act.put, List.setIfInBounds_toArray, List.set_cons_succ, List.set_cons_zero]
  refine wpAnyV_take (i := 2) (v := .pointer (some ⟨pb, i, none⟩)) 8 (kept_below y) rfl (by kernel_rfl) (by kernel_rfl) (fun _ _ _ h => h) (fun _ h => h) (DoesV.reads (by rfl) fun w9 hS => by go_simp) ?_
  try simp only [List.getElem_toArray, List.getElem_cons_succ, List.getElem_cons_zero, Act.put, List.setIfInBounds_toArray, List.set_cons_succ, List.set_cons_zero]
  refine wpAnyV_take (i := 3) (v := .pointer (some ⟨pb, i, none⟩)) 8 (kept_below y) rfl (by kernel_rfl) (by kernel_rfl) (fun _ _ _ h => h) (fun _ h => h) (DoesV.reads (by rfl) fun w9 hS => by go_simp) ?_
  try simp only [List.getElem_toArray, List.getElem_cons_succ, List.getElem_cons_zero, Act.put, List.setIfInBounds_toArray, List.set_cons_succ, List.set_cons_zero]
  refine wpAnyV_take (i := 4) (v := .int .u64 (n : Int)) 8 (kept_below y) rfl (by kernel_rfl) (by kernel_rfl) (fun _ _ _ h => h) (fun _ h => h) (DoesV.reads (by rfl) fun w9 hS => by have q0 := cell_b hS hcp; go_simp) ?_
  try simp only [List.getElem_toArray, List.getElem_cons_succ, List.getElem_cons_zero, Act.put, List.setIfInBounds_toArray, List.set_cons_succ, List.set_cons_zero]
  refine wpAnyV_only (i := 5) rfl (by kernel_rfl) rfl (fun u hS => wp_of_call (by go_simp) (HW.out u (HB0.out.trans (hS.mono HB0.out.size))) fun e u' h => ⟨_, h.1, LaidS wb v0 (l ++ x) w, (h.since (HB0.out.trans (hS.mono HB0.out.size))).2, kept_laid _ _ _ _, fun h => absurd (by simp) h, ?_⟩)
  try simp only [List.getElem_toArray, List.getElem_cons_succ, List.getElem_cons_zero, Act.put, List.setIfInBounds_toArray, List.set_cons_succ, List.set_cons_zero]
  refine wpAnyV_done (by kernel_rfl) (fun z hz => ?_) _
  have HZ := Lib.hid hz
  clear hz
  go_wp2_with fail
  go_end0
  exact ⟨rfl, HZ.out⟩
set_option maxHeartbeats 4000000 in
theorem some_w {w : World} {wb pb i : Nat} {v0 : Value} {l : List UInt8} {F : Nat → Prop} {A : Option Addr} {c : Nat} {x : List UInt8} (hc : w.cell? ⟨pb, i, none⟩ = some (.slice A x.length c)) (h : WrAt w wb v0 l) (hx : BsV w F (.slice A x.length c) x) (hF : ∀ k, F k → ¬ LayF wb v0 k) (hn : x.length < 4294967296) (hl : l.length + (bytesX x).length ≤ 140737488355328) :
    Calls Tryd.prog 57 #[sideW wb, .pointer (some ⟨pb, i, none⟩)] w fun e w' => Laid wb v0 (l ++ bytesX x) w e w' := by
  have hmix : Tryd.prog.follows .mixedOrders = true := by kernel_rfl
  have e1 := wr_is
  have HW := Lib.hid fun u (hb : Below w.heap.size w u) => Bytes_w (h.below hb) (hx.below hb) hF hn hl
  have HC := Lib.hid hc
  clear h hl hc hx hF hn
  generalize bytesX x = bx at *
  generalize x.length = n at *
  unfold sideW
  go_enter Tryd.func57, Tryd.ntmps57
  go_wp2_with fail
  have hb0 := below_new1 w (.cells #[.pointer (some ⟨wb, 0, none⟩)] 47)
  have hcg := (Cs.new w 47 #[.pointer (some ⟨wb, 0, none⟩)]).cell 0 rfl
  have hcp := cell_b hb0 HC.out
  generalize w.alloc (.cells #[.pointer (some ⟨wb, 0, none⟩)] 47) = y at *
  have HB0 := Lib.hid hb0
  clear hb0
  refine wp_region_V [5] (Below y.heap.size y) hmix ((Below.refl _ _).drew) ?_
  change wpAnyV _ _ _ _ _ _ _ _ _
  refine wpAnyV_take (i := 0) (v := .pointer (some ⟨w.heap.size, 0, none⟩)) 8 (kept_below y) rfl (by kernel_rfl) (by kernel_rfl) (fun _ _ _ h => h) (fun _ h => h) (DoesV.reads (by rfl) fun w9 hS => by go_simp) ?_
  try simp only [List.getElem_toArray, List.getElem_cons_succ, List.getElem_cons_zero, Act.put, List.setIfInBounds_toArray, List.set_cons_succ, List.set_cons_zero]
  refine wpAnyV_take (i := 1) (v := .pointer (some ⟨wb, 0, none⟩)) 8 (kept_below y) rfl (by kernel_rfl) (by kernel_rfl) (fun _ _ _ h => h) (fun _ h => h) (DoesV.reads (by rfl) fun w9 hS => by have q0 := cell_b hS hcg; go_simp) ?_
  try simp only [List.getElem_toArray, List.getElem_cons_succ, List.getElem_cons_zero, Act.put, List.setIfInBounds_toArray, List.set_cons_succ, List.set_cons_zero]
  refine wpAnyV_take (i := 2) (v := .pointer (some ⟨pb, i, none⟩)) 8 (kept_below y) rfl (by kernel_rfl) (by kernel_rfl) (fun _ _ _ h => h) (fun _ h => h) (DoesV.reads (by rfl) fun w9 hS => by go_simp) ?_
  try simp only [List.getElem_toArray, List.getElem_cons_succ, List.getElem_cons_zero, Act.put, List.setIfInBounds_toArray, List.set_cons_succ, List.set_cons_zero]
  refine wpAnyV_take (i := 3) (v := .pointer (some ⟨pb, i, none⟩)) 8 (kept_below y) rfl (by kernel_rfl) (by kernel_rfl) (fun _ _ _ h => h) (fun _ h => h) (DoesV.reads (by rfl) fun w9 hS => by go_simp) ?_
  try simp only [List.getElem_toArray, List.getElem_cons_succ, List.getElem_cons_zero, Act.put, List.setIfInBounds_toArray, List.set_cons_succ, List.set_cons_zero]
  refine wpAnyV_take (i := 4) (v := .slice A n c) 8 (kept_below y) rfl (by kernel_rfl) (by kernel_rfl) (fun _ _ _ h => h) (fun _ h => h) (DoesV.reads (by rfl) fun w9 hS => by have q0 := cell_b hS hcp; go_simp) ?_
  try simp only [List.getElem_toArray, List.getElem_cons_succ, List.getElem_cons_zero, Act.put, List.setIfInBounds_toArray, List.set_cons_succ, List.set_cons_zero]
  refine wpAnyV_only (i := 5) rfl (by kernel_rfl) rfl (fun u hS => wp_of_call (by go_simp) (HW.out u (HB0.out.trans (hS.mono HB0.out.size))) fun e u' h => ⟨_, h.1, LaidS wb v0 (l ++ bx) w, (h.since (HB0.out.trans (hS.mono HB0.out.size))).2, kept_laid _ _ _ _, fun h => absurd (by simp) h, ?_⟩)
  try simp only [List.getElem_toArray, List.getElem_cons_succ, List.getElem_cons_zero, Act.put, List.setIfInBounds_toArray, List.set_cons_succ, List.set_cons_zero]
  refine wpAnyV_done (by kernel_rfl) (fun z hz => ?_) _
  have HZ := Lib.hid hz
  clear hz
  go_wp2_with fail
  go_end0
  exact ⟨rfl, HZ.out⟩
/-- a field, laid out of a cell that is written anew as it was -/
def PassW (wb pb : Nat) (v0 : Value) (l : List UInt8) (t : TypeId) (cs : Array Value) (w : World) (e : Ending) (w' : World) : Prop := e = .returned (.tuple #[]) ∧ ∃ v', WrAt w' wb v' l ∧ Cs w' pb t cs ∧ Turn w w' (fun k => LayF wb v0 k ∨ k = pb) ∧ OwnTo w v0 v'
theorem set_same {cs : Array Value} {i : Nat} {v : Value} (h : cs[i]? = some v) : cs.setIfInBounds i v = cs := by
  obtain ⟨hi, e⟩ := Array.getElem?_eq_some_iff.1 h
  apply Array.ext
  · simp
  · intro j h1 h2
    by_cases hj : i = j
    · subst hj; simp only [Array.getElem_setIfInBounds_self]; exact e.symm
    · rw [Array.getElem_setIfInBounds_ne _ hj]
theorem passW_end {w w0 w1 : World} {wb pb i : Nat} {v0 v1 u : Value} {l : List UInt8} {t : TypeId} {cs : Array Value} (hb : Below w.heap.size w w0) (h1 : WrAt w1 wb v1 l) (h2 : Turn w0 w1 (LayF wb v0)) (h3 : OwnTo w0 v0 v1) (hk : Cs w1 pb t cs) (hv : cs[i]? = some u) (hp : ¬ LayF wb v0 pb) (hlt : pb < w.heap.size) :
    PassW wb pb v0 l t cs w (.returned (.tuple #[])) (w1.setCell ⟨pb, i, none⟩ u) := by
  have hne : ¬ wb = pb := fun e => hp (.inl e.symm)
  have hown : ∀ k, v1.ownBlock = some k → ¬ k = pb := fun k hq e => by
    subst e
    rcases h3 _ hq with h | h
    · exact hp (.inr h)
    · have := hb.size; omega
  have ht := Turn.setAt w1 pb i u
  refine ⟨rfl, v1, h1.turn ht hne hown, ?_, ?_, fun k hk => (h3 k hk).imp (fun h => h) fun h => Nat.le_trans hb.size h⟩
  · have := hk.set i u
    rwa [set_same hv] at this
  · exact ((Turn.of_below hb _).trans (h2.mono fun k _ h => .inl h) fun _ _ h => h).trans (ht.mono fun k _ h => .inr h) fun _ _ h => h
set_option maxHeartbeats 4000000 in
theorem small_w {w : World} {wb pb i : Nat} {v0 : Value} {l : List UInt8} {t : TypeId} {cs : Array Value} (n : Nat) (hn : n < 256) (hc : Cs w pb t cs) (hv : cs[i]? = some (.int .u8 (n : Int))) (h : WrAt w wb v0 l) (hp : ¬ LayF wb v0 pb) (hl : l.length + 4 ≤ 140737488355328) :
    Calls Tryd.prog 40 #[sideW wb, .pointer (some ⟨pb, i, none⟩)] w fun e w' => PassW wb pb v0 (l ++ beL (n : Int) 4) t cs w e w' := by
  have hn' : (n : Int) ≤ 255 := by omega
  have hmin : min (n : Int) 255 = (n : Int) := Int.min_eq_left hn'
  have k0 := hc.cell i hv
  have hb := below_new1 w (.cells #[.int .u32 (n : Int)] 22)
  have hnew : ¬ LayF wb v0 w.heap.size := fun hh => by
    rcases hh with hh | hh
    · have := h.cell.lt; omega
    · have := h.lt _ hh; omega
  have HN := Lib.hid (number_w (pb := w.heap.size) (i := 0) n (by omega) ((Cs.new w 22 #[.int .u32 (n : Int)]).cell 0 rfl) (h.below hb) hl)
  have HC := Lib.hid (hc.below hb hc.lt)
  have HV := Lib.hid hv
  have HB := Lib.hid hb
  have HP := Lib.hid hp
  have HX := Lib.hid hnew
  have HL := Lib.hid hc.lt
  clear hc hv h hp hl hb hnew
  go_enter Tryd.func40, Tryd.ntmps40
  go_wp2_with fail
  refine HN.out.mono ?_
  rintro e w1 ⟨rfl, v1, h1, h2, h3⟩
  have kw := ((Cs.new w 22 #[.int .u32 (n : Int)]).turn h2 HX.out).cell 0 rfl
  have hk := HC.out.turn h2 HP.out
  have kp := hk.cell i HV.out
  have kf := hk.frozen i
  have HK := Lib.hid hk
  have H1 := Lib.hid h1
  have H2 := Lib.hid h2
  have H3 := Lib.hid h3
  clear hk h1 h2 h3
  go_wp2_with fail
  go_end0
  exact passW_end HB.out H1.out H2.out H3.out HK.out HV.out HP.out HL.out

theorem BsV.rdC2 {w : World} {F : Nat → Prop} {A : Option Addr} {n c : Nat} {l : List UInt8} (h : BsV w F (.slice A n c) l) : Rd w A l := by
  obtain ⟨A', c', e, h1, _⟩ := h
  cases e
  exact h1.rd
theorem conv_str (s : ByteArray) (hs : s.size ≤ 140737488355328) (w : World) : ∃ W c, (convert 9 26 (.string s)).run Tryd.prog w = .ok (.slice (some ⟨w.heap.size, 0, none⟩) (L s).length c) W ∧ Below w.heap.size w W ∧ W.heap.size = w.heap.size + 1 ∧ BsV W (· = w.heap.size) (.slice (some ⟨w.heap.size, 0, none⟩) (L s).length c) (L s) := by
  have hrun := run_bytes_of_string (P := Tryd.prog) w 9 26 5 s Tryd.underlying9 Tryd.underlying26 Tryd.underlying5
  have hge := grownCap_ge w s.size 0 5
  have hle := grownCap_le_maxLen w s.size 0 5 (by unfold maxLen; omega)
  generalize grownCap w s.size 0 5 = c at *
  refine ⟨_, c, by rw [← L_size]; exact hrun, ((Below.refl _ _).drew).alloc (Nat.le_refl _) _, by rw [World.size_alloc]; rfl, some ⟨w.heap.size, 0, none⟩, c, rfl, ?_, (fun h => by cases h), by rw [← L_size]; exact hge, hle⟩
  refine .inr ⟨w.heap.size, 0, rfl, rfl, fun j hj => ?_⟩
  have hw : (w.drew.alloc (.cells (bytesRow s c) 5 ((bytesRow s c).size, (bytesRow s c).size + 1))).heap[w.heap.size]? = some (.cells (bytesRow s c) 5 ((bytesRow s c).size, (bytesRow s c).size + 1)) := World.alloc_heap_new w.drew _
  rw [cell_of_row _ _ _ _ _ _ hw, Nat.zero_add]
  unfold bytesRow
  have hj' : j < s.data.size := by simpa using hj
  rw [Array.getElem?_append_left (by simpa using hj'), Array.getElem?_map, Array.getElem?_eq_getElem hj']
  rfl
set_option maxHeartbeats 4000000 in
theorem text_w {w : World} {wb pb i : Nat} {v0 : Value} {l : List UInt8} {t : TypeId} {cs : Array Value} (s : ByteArray) (hs : s.size < 4294967296) (hc : Cs w pb t cs) (hv : cs[i]? = some (.string s)) (h : WrAt w wb v0 l) (hp : ¬ LayF wb v0 pb) (hl : l.length + (bytesX (L s)).length ≤ 140737488355328) :
    Calls Tryd.prog 58 #[sideW wb, .pointer (some ⟨pb, i, none⟩)] w fun e w' => PassW wb pb v0 (l ++ bytesX (L s)) t cs w e w' := by
  obtain ⟨W, cp, hcv, hb, hsz, hbv⟩ := conv_str s (by omega) w
  have hls : (L s).length < 4294967296 := by rw [← L_size]; exact hs
  have hmk := mk_L s
  generalize L s = ls at *
  have k0 := hc.cell i hv
  have hb2 := below_new1 W (.cells #[.slice (some ⟨w.heap.size, 0, none⟩) ls.length cp] 26)
  have hbb := below_chain hb hb2
  have hnew : ∀ k, w.heap.size ≤ k → ¬ LayF wb v0 k := fun k hk hh => by
    rcases hh with hh | hh
    · have := h.cell.lt; omega
    · have := h.lt _ hh; omega
  have hbv2 := hbv.below hb2
  have hcell := (Cs.new W 26 #[.slice (some ⟨w.heap.size, 0, none⟩) ls.length cp])
  have HN := Lib.hid (some_w (F := (· = w.heap.size)) (pb := W.heap.size) (i := 0) (hcell.cell 0 rfl) (h.below hbb) hbv2 (fun k e => hnew k (Nat.le_of_eq e.symm)) hls hl)
  have HC := Lib.hid (hc.below hbb hc.lt)
  have HV := Lib.hid hv
  have HB := Lib.hid hbb
  have HP := Lib.hid hp
  have HX := Lib.hid (hnew W.heap.size (by omega))
  have HX0 := Lib.hid (hnew w.heap.size (Nat.le_refl _))
  have HL := Lib.hid hc.lt
  have HBV := Lib.hid hbv2
  have HMK := Lib.hid hmk
  have HSZ := Lib.hid hsz
  clear hmk hls hsz hs hc hv h hp hl hb hb2 hbb hnew hbv hbv2 hcell
  go_enter Tryd.func58, Tryd.ntmps58
  go_wp2_with fail
  refine HN.out.mono ?_
  rintro e w1 ⟨rfl, v1, h1, h2, h3⟩
  have hcell := (Cs.new W 26 #[.slice (some ⟨w.heap.size, 0, none⟩) ls.length cp]).turn h2 HX.out
  have kw : w1.cell? ⟨W.heap.size, 0, none⟩ = some (.slice (some ⟨w.heap.size, 0, none⟩) ls.length cp) := hcell.cell 0 rfl
  have hrd : Rd w1 (some ⟨w.heap.size, 0, none⟩) ls := (HBV.out.turn h2 (fun k e => e ▸ HX0.out)).rdC2
  have hcb := conv_rd hrd cp
  rw [HMK.out] at hcb
  have hk := HC.out.turn h2 HP.out
  have kp := hk.cell i HV.out
  have kf := hk.frozen i
  have HK := Lib.hid hk
  have H1 := Lib.hid h1
  have H2 := Lib.hid h2
  have H3 := Lib.hid h3
  clear hk h1 h2 h3 hrd hcell hcv
  go_wp2_with fail
  go_end0
  exact passW_end HB.out H1.out H2.out H3.out HK.out HV.out HP.out HL.out
theorem layF_old {w0 : World} {wb : Nat} {v0 v : Value} (ho : OwnTo w0 v0 v) {k : Nat} (hk : k < w0.heap.size) (h : LayF wb v k) : LayF wb v0 k := by
  rcases h with h | h
  · exact .inl h
  · rcases ho k h with h | h
    · exact .inr h
    · omega
/-- a writer that lays a call's fields: what it was, what it is -/
def PutS (wb pb : Nat) (v0 : Value) (t : TypeId) (cs : Array Value) (w0 : World) (v : Value) (l : List UInt8) (w : World) : Prop := WrAt w wb v l ∧ Cs w pb t cs ∧ Turn w0 w (fun k => LayF wb v0 k ∨ k = pb) ∧ OwnTo w0 v0 v ∧ ¬ LayF wb v0 pb ∧ pb < w0.heap.size
theorem PutS.start {wb pb : Nat} {v0 : Value} {t : TypeId} {cs : Array Value} {w : World} {l : List UInt8} (h : WrAt w wb v0 l) (hc : Cs w pb t cs) (hp : ¬ LayF wb v0 pb) : PutS wb pb v0 t cs w v0 l w := ⟨h, hc, Turn.refl _ _, OwnTo.refl _ _, hp, hc.lt⟩
theorem PutS.not {wb pb : Nat} {v0 v : Value} {t : TypeId} {cs : Array Value} {w0 w : World} {l : List UInt8} (h : PutS wb pb v0 t cs w0 v l w) : ¬ LayF wb v pb := fun hh => h.2.2.2.2.1 (layF_old h.2.2.2.1 h.2.2.2.2.2 hh)
theorem PutS.pass {wb pb : Nat} {v0 v : Value} {t : TypeId} {cs : Array Value} {w0 w : World} {l l' : List UInt8} {e : Ending} {w' : World} (h : PutS wb pb v0 t cs w0 v l w) (k : PassW wb pb v l' t cs w e w') : ∃ v', PutS wb pb v0 t cs w0 v' l' w' := by
  obtain ⟨-, v', k1, k2, k3, k4⟩ := k
  refine ⟨v', k1, k2, h.2.2.1.trans k3 fun q hq hh => ?_, h.2.2.2.1.trans k4 h.2.2.1.size, h.2.2.2.2⟩
  rcases hh with hh | hh
  · exact .inl (layF_old h.2.2.2.1 hq hh)
  · exact .inr hh
theorem PutS.laid {wb pb : Nat} {v0 v : Value} {t : TypeId} {cs : Array Value} {w0 w : World} {l l' : List UInt8} {e : Ending} {w' : World} (h : PutS wb pb v0 t cs w0 v l w) (k : Laid wb v l' w e w') : ∃ v', PutS wb pb v0 t cs w0 v' l' w' := by
  obtain ⟨ke, v', k1, k3, k4⟩ := k
  exact h.pass ⟨ke, v', k1, h.2.1.turn k3 h.not, k3.mono fun _ _ h => .inl h, k4⟩
theorem PutS.done {wb pb : Nat} {v0 v : Value} {t : TypeId} {cs : Array Value} {w0 w : World} {l : List UInt8} (h : PutS wb pb v0 t cs w0 v l w) : PassW wb pb v0 l t cs w0 (.returned (.tuple #[])) w := ⟨rfl, v, h.1, h.2.1, h.2.2.1, h.2.2.2.1⟩
theorem PutS.below {wb pb : Nat} {v0 v : Value} {t : TypeId} {cs : Array Value} {w0 w w' : World} {l : List UInt8} (h : PutS wb pb v0 t cs w0 v l w) (hb : Below w.heap.size w w') : PutS wb pb v0 t cs w0 v l w' :=
  ⟨h.1.below hb, h.2.1.below hb h.2.1.lt, h.2.2.1.trans (Turn.of_below hb fun _ => False) (fun _ _ h => h.elim), h.2.2.2⟩
set_option maxHeartbeats 4000000 in
theorem handle_w {w : World} {wb pb i : Nat} {v0 : Value} {l : List UInt8} {t : TypeId} {cs : Array Value} (n m : Nat) (hn : n < 4294967296) (hm : m < 4294967296) (hc : Cs w pb t cs) (hv : cs[i]? = some (.int .u32 (n : Int))) (hv' : cs[i + 1]? = some (.int .u32 (m : Int))) (h : WrAt w wb v0 l) (hp : ¬ LayF wb v0 pb) (hl : l.length + 8 ≤ 140737488355328) :
    Calls Tryd.prog 56 #[sideW wb, .pointer (some ⟨pb, i, none⟩)] w fun e w' => PassW wb pb v0 (l ++ beL (n : Int) 4 ++ beL (m : Int) 4) t cs w e w' := by
  have H0 := Lib.hid (PutS.start h hc hp)
  have HV := Lib.hid hv'
  have HL := Lib.hid hl
  have h1 := number_w (pb := pb) (i := i) n hn (hc.cell i hv) h (by omega)
  have HN := Lib.hid h1
  clear hc hv hv' h hp hl h1 hn
  go_enter Tryd.func56, Tryd.ntmps56
  go_wp2_with fail
  refine HN.out.mono ?_
  rintro e w1 hq
  obtain ⟨v1, hs⟩ := H0.out.laid hq
  obtain ⟨rfl, -⟩ := hq
  have HM := Lib.hid (number_w (pb := pb) (i := i + 1) m hm (hs.2.1.cell (i + 1) HV.out) hs.1 (by have := HL.out; rw [List.length_append, beL_length]; omega))
  have HS := Lib.hid hs
  clear hs
  go_wp2_with fail
  refine HM.out.mono ?_
  rintro e w2 hq
  obtain ⟨v2, hs⟩ := HS.out.laid hq
  obtain ⟨rfl, -⟩ := hq
  have HS2 := Lib.hid hs
  clear hs
  go_wp2_with fail
  go_end0
  exact HS2.out.done


end Go.Proofs.YthfaemcpheecfaaDoor
