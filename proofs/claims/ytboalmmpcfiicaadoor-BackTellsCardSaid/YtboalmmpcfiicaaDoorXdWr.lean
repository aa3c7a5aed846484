/- A writer: bytesOf, Number, Great, Truth, Bytes, Bare. -/
import Derived.Test.YtboalmmpcfiicaaDoorXdLay
namespace Go.Proofs.YtboalmmpcfiicaaDoor
open Go.RowKit Go.Shelf
set_option linter.unusedVariables false
set_option maxRecDepth 100000
set_option linter.unusedSimpArgs false

/-- what hands back bytes in new memory -/
def NewB (l : List UInt8) (w : World) (e : Ending) (w' : World) : Prop := ∃ v, e = .returned v ∧ BsV w' (w.heap.size ≤ ·) v l ∧ Below w.heap.size w w'
theorem bytesOf_v (x : Int) (k : Nat) (hs : sizeB k = true) (hx : 0 ≤ x) (hx' : x ≤ 18446744073709551615) (w : World) (hfit : fitsB x k = true) :
    Calls Tryd.prog 49 #[.int .u64 x, .int .i64 k] w fun e W' => NewB (beL x k) w e W' := by
  have hp := Put_ok x k hs hx hx' w hfit
  have hl := Lib.hid (beL_length x k)
  have hk := Lib.hid (size_bd hs)
  clear hs hfit
  go_enter Tryd.func49, Tryd.ntmps49
  go_wp2_with fail
  refine hp.mono ?_
  clear hp
  rintro e w1 ⟨rfl, hb, hr⟩
  have HB := Lib.hid hb
  have HR := Lib.hid hr
  clear hb hr
  go_wp2_with fail
  go_ret
  exact ⟨_, rfl, ⟨some ⟨w.heap.size + 1, 0, none⟩, k, by rw [hl.out]; rfl, HR.out.f (fun b off e _ => by cases e; exact Nat.le_succ _), (fun h => by cases h), by rw [hl.out]; exact Nat.le_refl _, by have := hk.out.2; simp only [maxLen]; omega⟩, HB.out⟩
theorem bytesOf_no (x : Int) (k : Nat) (hx : 0 ≤ x) (hx' : x ≤ 18446744073709551615) (w : World) (hfit : fitsB x k = false) :
    Calls Tryd.prog 49 #[.int .u64 x, .int .i64 k] w fun e W' => NewB [] w e W' := by
  have hp := Put_no x k hx hx' w (.inr hfit)
  clear hfit
  go_enter Tryd.func49, Tryd.ntmps49
  go_wp2_with fail
  refine hp.mono ?_
  clear hp
  rintro e w1 ⟨rfl, hb⟩
  have HB := Lib.hid hb
  clear hb
  go_wp2_with fail
  go_ret
  exact ⟨_, rfl, BsV.nil _ _, HB.out⟩
theorem fits4 (n : Nat) (h : n < 4294967296) : fitsB (n : Int) 4 = true := by
  simp [fitsB, lim]
  omega
theorem fits8 (n : Nat) (h : n < 18446744073709551616) : fitsB (n : Int) 8 = true := by
  simp [fitsB, lim]
  omega
theorem number4 (n : Nat) (h : n < 4294967296) (w : World) : Calls Tryd.prog 49 #[.int .u64 (n : Int), .int .i64 4] w fun e W' => NewB (beL (n : Int) 4) w e W' := bytesOf_v (n : Int) 4 (by decide) (by omega) (by omega) w (fits4 n h)
theorem number8 (n : Nat) (h : n < 18446744073709551616) (w : World) : Calls Tryd.prog 49 #[.int .u64 (n : Int), .int .i64 8] w fun e W' => NewB (beL (n : Int) 8) w e W' := bytesOf_v (n : Int) 8 (by decide) (by omega) (by omega) w (fits8 n h)
theorem rdr_one {w : World} {F : Nat → Prop} {g : Nat} {t : TypeId} {v : Value} {l : List UInt8} (hc : Cs w g t #[v]) (hv : BsV w F v l) (hF : F g) : RdR w F (some ⟨g, 0, none⟩) [l] :=
  .inr ⟨g, 0, [v], rfl, hF, (BsL.nil w F).snoc hv, fun j u hu => by rw [Nat.zero_add]; exact hc.cell j (by simpa using hu)⟩
theorem rdr_three {w : World} {F : Nat → Prop} {g : Nat} {t : TypeId} {v u x : Value} {l m n : List UInt8} (hc : Cs w g t #[v, u, x]) (hv : BsV w F v l) (hu : BsV w F u m) (hx : BsV w F x n) (hF : F g) : RdR w F (some ⟨g, 0, none⟩) [l, m, n] :=
  .inr ⟨g, 0, [v, u, x], rfl, hF, (((BsL.nil w F).snoc hv).snoc hu).snoc hx, fun j u hu => by rw [Nat.zero_add]; exact hc.cell j (by simpa using hu)⟩
theorem Laid.since {wb : Nat} {v : Value} {l : List UInt8} {w w1 : World} {e : Ending} {w' : World} (h : Laid wb v l w1 e w') (hb : Below w.heap.size w w1) : Laid wb v l w e w' := by
  obtain ⟨he, v', h1, h2, h3⟩ := h
  exact ⟨he, v', h1, (Turn.of_below hb (LayF wb v)).trans h2 fun _ _ h => h, fun k hk => (h3 k hk).imp (fun h => h) fun h => Nat.le_trans hb.size h⟩
theorem below_new {w w1 : World} (hb : Below w.heap.size w w1) (o : Obj) : Below w.heap.size w (w1.alloc o) := hb.alloc hb.size o
/-- one part, laid -/
theorem lay_one {w w1 : World} {wb : Nat} {v0 : Value} {l x : List UInt8} {A : Option Addr} {c : Nat} (h : WrAt w wb v0 l) (hb : Below w.heap.size w w1) (hv : BsV w1 (w.heap.size ≤ ·) (.slice A x.length c) x) (hl : l.length + x.length ≤ 140737488355328) :
    Calls Tryd.prog 48 #[.pointer (some ⟨wb, 0, none⟩), .slice (some ⟨w1.heap.size, 0, none⟩) 1 1] (w1.alloc (.cells #[.slice A x.length c] 28)) fun e w' => Laid wb v0 (l ++ x) w e w' := by
  have hb2 := below_new hb (.cells #[.slice A x.length c] 28)
  have hc := Cs.new w1 28 #[.slice A x.length c]
  have hv2 := (hv.below ((Below.refl _ _).alloc (Nat.le_refl _) (.cells #[.slice A x.length c] 28))).mono (G := fun k => w.heap.size ≤ k ∧ k < (w1.alloc (.cells #[.slice A x.length c] 28)).heap.size) fun k hk h => ⟨h, hk⟩
  have := lay_v (A := some ⟨w1.heap.size, 0, none⟩) (c := 1) (h.below hb2) (rdr_one hc hv2 ⟨hb.size, hc.lt⟩) (fun k hk => ⟨fun hh => by
    rcases hh with rfl | hh
    · have := h.cell.lt; omega
    · have := h.lt k hh; omega, hk.2⟩) (by simp) (by simpa using hl)
  refine this.mono fun e w' h => ?_
  have h' := h.since hb2
  simpa using h'
set_option maxHeartbeats 2000000 in
theorem Number_w {w : World} {wb : Nat} {v0 : Value} {l : List UInt8} (n : Nat) (hn : n < 4294967296) (h : WrAt w wb v0 l) (hl : l.length + 4 ≤ 140737488355328) :
    Calls Tryd.prog 23 #[.pointer (some ⟨wb, 0, none⟩), .int .u32 (n : Int)] w fun e w' => Laid wb v0 (l ++ beL (n : Int) 4) w e w' := by
  have hp := number4 n hn w
  have hx := beL_length (n : Int) 4
  have hn' : (n : Int) ≤ 4294967295 := by omega
  generalize beL (n : Int) 4 = x at *
  have HX := Lib.hid hx
  have H := Lib.hid h
  clear hx h
  go_enter Tryd.func23, Tryd.ntmps23
  go_wp2_with fail
  refine hp.mono ?_
  clear hp
  rintro e w1 ⟨v1, rfl, hv, hb⟩
  obtain ⟨A, c, rfl, -⟩ := id hv
  have hlay := lay_one H.out hb hv (by rw [HX.out]; exact hl)
  clear hv hb
  go_wp2_with fail
  refine hlay.mono ?_
  clear hlay
  rintro e w2 ⟨rfl, hw⟩
  go_wp2_with fail
  go_end0
  exact ⟨rfl, hw⟩
set_option maxHeartbeats 2000000 in
theorem Great_w {w : World} {wb : Nat} {v0 : Value} {l : List UInt8} (n : Nat) (hn : n < 18446744073709551616) (h : WrAt w wb v0 l) (hl : l.length + 8 ≤ 140737488355328) :
    Calls Tryd.prog 24 #[.pointer (some ⟨wb, 0, none⟩), .int .u64 (n : Int)] w fun e w' => Laid wb v0 (l ++ beL (n : Int) 8) w e w' := by
  have hp := number8 n hn w
  have hx := beL_length (n : Int) 8
  generalize beL (n : Int) 8 = x at *
  have HX := Lib.hid hx
  have H := Lib.hid h
  clear hx h
  go_enter Tryd.func24, Tryd.ntmps24
  go_wp2_with fail
  refine hp.mono ?_
  clear hp
  rintro e w1 ⟨v1, rfl, hv, hb⟩
  obtain ⟨A, c, rfl, -⟩ := id hv
  have hlay := lay_one H.out hb hv (by rw [HX.out]; exact hl)
  clear hv hb
  go_wp2_with fail
  refine hlay.mono ?_
  clear hlay
  rintro e w2 ⟨rfl, hw⟩
  go_wp2_with fail
  go_end0
  exact ⟨rfl, hw⟩
theorem Truth_w {w : World} {wb : Nat} {v0 : Value} {l : List UInt8} (b : Bool) (h : WrAt w wb v0 l) (hl : l.length + 4 ≤ 140737488355328) :
    Calls Tryd.prog 50 #[.pointer (some ⟨wb, 0, none⟩), .bool b] w fun e w' => Laid wb v0 (l ++ truthX b) w e w' := by
  have h0 := Number_w 0 (by decide) h hl
  have h1 := Number_w 1 (by decide) h hl
  clear h
  cases b
  · change Calls _ _ _ _ fun e w' => Laid wb v0 (l ++ truthX false) w e w' at h0
    generalize truthX false = x at *
    go_enter Tryd.func50, Tryd.ntmps50
    go_wp2_with fail
    refine h0.mono ?_
    rintro e w2 ⟨rfl, hw⟩
    go_wp2_with fail
    go_end0
    exact ⟨rfl, hw⟩
  · change Calls _ _ _ _ fun e w' => Laid wb v0 (l ++ truthX true) w e w' at h1
    generalize truthX true = x at *
    go_enter Tryd.func50, Tryd.ntmps50
    go_wp2_with fail
    refine h1.mono ?_
    rintro e w2 ⟨rfl, hw⟩
    go_wp2_with fail
    go_end0
    exact ⟨rfl, hw⟩

end Go.Proofs.YtboalmmpcfiicaaDoor
