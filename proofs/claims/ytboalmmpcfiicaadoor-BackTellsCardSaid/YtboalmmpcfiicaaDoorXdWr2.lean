/- A writer: Bytes, Bare; of no writer. -/
import Derived.Test.YtboalmmpcfiicaaDoorXdWr
namespace Go.Proofs.YtboalmmpcfiicaaDoor
open Go.RowKit Go.Shelf
set_option linter.unusedVariables false
set_option maxRecDepth 100000
set_option linter.unusedSimpArgs false

/-- three parts, laid -/
theorem lay_three {w w1 : World} {wb : Nat} {v0 : Value} {l x y z : List UInt8} {F : Nat → Prop} {A B C : Option Addr} {a b c : Nat} (h : WrAt w wb v0 l) (hb : Below w.heap.size w w1) (hx : BsV w1 (w.heap.size ≤ ·) (.slice A x.length a) x) (hy : BsV w1 F (.slice B y.length b) y) (hz : BsV w1 (w.heap.size ≤ ·) (.slice C z.length c) z)
    (hF : ∀ k, F k → ¬ LayF wb v0 k) (hl : l.length + (x.length + (y.length + z.length)) ≤ 140737488355328) :
    Calls Tryd.prog 48 #[.pointer (some ⟨wb, 0, none⟩), .slice (some ⟨w1.heap.size, 0, none⟩) 3 3] (w1.alloc (.cells #[.slice A x.length a, .slice B y.length b, .slice C z.length c] 28)) fun e w' => Laid wb v0 (l ++ (x ++ (y ++ z))) w e w' := by
  have hb2 := below_new hb (.cells #[.slice A x.length a, .slice B y.length b, .slice C z.length c] 28)
  have hc := Cs.new w1 28 #[.slice A x.length a, .slice B y.length b, .slice C z.length c]
  have hbn := (Below.refl w1.heap.size w1).alloc (Nat.le_refl _) (.cells #[.slice A x.length a, .slice B y.length b, .slice C z.length c] 28)
  generalize hW : w1.alloc (.cells #[.slice A x.length a, .slice B y.length b, .slice C z.length c] 28) = W at *
  have old : ∀ k, w.heap.size ≤ k → ¬ LayF wb v0 k := fun k hk hh => by
    rcases hh with rfl | hh
    · have := h.cell.lt; omega
    · have := h.lt k hh; omega
  have hx2 := (hx.below hbn).mono (G := fun k => ¬ LayF wb v0 k ∧ k < W.heap.size) fun k hk h => ⟨old k h, hk⟩
  have hy2 := (hy.below hbn).mono (G := fun k => ¬ LayF wb v0 k ∧ k < W.heap.size) fun k hk h => ⟨hF k h, hk⟩
  have hz2 := (hz.below hbn).mono (G := fun k => ¬ LayF wb v0 k ∧ k < W.heap.size) fun k hk h => ⟨old k h, hk⟩
  have := lay_v (A := some ⟨w1.heap.size, 0, none⟩) (c := 3) (h.below hb2) (rdr_three hc hx2 hy2 hz2 ⟨old _ hb.size, hc.lt⟩) (fun k hk => hk) (by simp) (by simpa using hl)
  refine this.mono fun e w' h => ?_
  have h' := h.since hb2
  simpa using h'
theorem rd_zeros {w : World} {g : Nat} {k : Nat} (h : Cs w g 5 (zeros k)) : Rd w (some ⟨g, 0, none⟩) (List.replicate k 0) :=
  rd_cs h (by simp [zeros])
theorem zeros_bs {w : World} {g k : Nat} {F : Nat → Prop} (h : Cs w g 5 (zeros k)) (hk : k ≤ 8) (hF : F g) : BsV w F (.slice (some ⟨g, 0, none⟩) k k) (List.replicate k 0) :=
  ⟨some ⟨g, 0, none⟩, k, by rw [List.length_replicate], (rd_zeros h).f (fun b off e _ => by cases e; exact hF), (fun h => by cases h), by rw [List.length_replicate]; exact Nat.le_refl _, by simp only [maxLen]; omega⟩
set_option maxHeartbeats 2000000 in
theorem Bytes_w {w : World} {wb : Nat} {v0 : Value} {l x : List UInt8} {F : Nat → Prop} {A : Option Addr} {c : Nat} (h : WrAt w wb v0 l) (hx : BsV w F (.slice A x.length c) x) (hF : ∀ k, F k → ¬ LayF wb v0 k) (hn : x.length < 4294967296) (hl : l.length + (bytesX x).length ≤ 140737488355328) :
    Calls Tryd.prog 26 #[.pointer (some ⟨wb, 0, none⟩), .slice A x.length c] w fun e w' => Laid wb v0 (l ++ bytesX x) w e w' := by
  have hp := number4 x.length hn w
  have hL := beL_length (x.length : Int) 4
  have hpad := Pad_nat x.length (by omega)
  have hp4 := padN_lt x.length
  have hmk := mk_zeros (padN x.length) (by omega)
  have hn' : (x.length : Int) ≤ 4294967295 := by omega
  rw [bytesX_length] at hl
  have hX : bytesX x = beL (x.length : Int) 4 ++ (x ++ List.replicate (padN x.length) 0) := by rw [bytesX, List.append_assoc]
  rw [hX]
  clear hX
  generalize beL (x.length : Int) 4 = y at *
  generalize padN x.length = p at *
  have HL := Lib.hid hL
  have H := Lib.hid h
  have HX := Lib.hid hx
  have HF := Lib.hid hF
  have HN := Lib.hid hl
  clear hL h hx hF hn hl
  go_enter Tryd.func26, Tryd.ntmps26
  go_wp2_with fail
  refine hp.mono ?_
  clear hp
  rintro e w1 ⟨v1, rfl, hv, hb⟩
  obtain ⟨A1, c1, rfl, -⟩ := id hv
  have HV := Lib.hid hv
  have HB := Lib.hid hb
  clear hv hb
  go_wp2_with fail
  refine (hpad _).mono ?_
  clear hpad
  rintro e w' ⟨rfl, rfl⟩
  have hz := Cs.new w1 5 (zeros p)
  have hba := (Below.refl w1.heap.size w1).alloc (Nat.le_refl _) (.cells (zeros p) 5)
  have hlay := lay_three (w1 := w1.alloc (.cells (zeros p) 5)) (z := List.replicate p 0) (C := some ⟨w1.heap.size, 0, none⟩) (c := p) H.out (below_new HB.out _) (HV.out.below hba) ((HX.out.below HB.out).below hba) (by
    have := zeros_bs (F := (w.heap.size ≤ ·)) hz (by omega) HB.out.size
    rwa [List.length_replicate]) HF.out (by rw [List.length_replicate, HL.out]; have := HN.out; omega)
  rw [List.length_replicate, World.size_alloc] at hlay
  clear hz hba
  go_wp2_with fail
  refine hlay.mono ?_
  clear hlay
  rintro e w2 ⟨rfl, hw⟩
  go_wp2_with fail
  go_end0
  exact ⟨rfl, hw⟩
theorem Bare_w {w : World} {wb : Nat} {v0 : Value} {l : List UInt8} (h : WrAt w wb v0 l) (hl : l.length ≤ 140737488355328) :
    Calls Tryd.prog 28 #[.pointer (some ⟨wb, 0, none⟩)] w fun e w' => BsTy l w e w' := by
  obtain ⟨A, c, rfl, hr, hA, -, -⟩ := BsV.own h.own
  have hcl := Clone_ty l A c w hl hr.rd hA
  have c0 := h.cell.cell 0 rfl
  clear h hr hA
  go_enter Tryd.func28, Tryd.ntmps28
  go_wp2_with fail
  refine hcl.mono ?_
  clear hcl
  rintro e w1 ⟨v, rfl, h⟩
  have H := Lib.hid h
  clear h
  go_wp2_with fail
  go_ret
  exact ⟨_, rfl, H.out⟩
/-- what makes memory, and tells nothing -/
def Mute (w : World) (e : Ending) (w' : World) : Prop := e = .returned (.tuple #[]) ∧ Below w.heap.size w w'
theorem layW_nil (A : Option Addr) (n c : Nat) (w : World) : Calls Tryd.prog 48 #[.pointer none, .slice A n c] w fun e w' => e = .returned (.tuple #[]) ∧ w = w' := by
  go_enter Tryd.func48, Tryd.ntmps48
  go_wp2_with fail
  exact bodyPost_ret (results_none (by kernel_rfl) _ _ _) rfl ⟨rfl, rfl⟩
theorem Number_nil (n : Nat) (hn : n < 4294967296) (w : World) : Calls Tryd.prog 23 #[.pointer none, .int .u32 (n : Int)] w fun e w' => Mute w e w' := by
  have hp := number4 n hn w
  have hn' : (n : Int) ≤ 4294967295 := by omega
  generalize beL (n : Int) 4 = x at *
  go_enter Tryd.func23, Tryd.ntmps23
  go_wp2_with fail
  refine hp.mono ?_
  clear hp
  rintro e w1 ⟨v1, rfl, hv, hb⟩
  obtain ⟨A, c, rfl, -⟩ := id hv
  have HB := Lib.hid hb
  clear hv hb
  go_wp2_with fail
  refine (layW_nil _ _ _ _).mono ?_
  rintro e w2 ⟨rfl, rfl⟩
  go_wp2_with fail
  go_end0
  exact ⟨rfl, below_new HB.out _⟩
theorem Great_nil (n : Nat) (hn : n < 18446744073709551616) (w : World) : Calls Tryd.prog 24 #[.pointer none, .int .u64 (n : Int)] w fun e w' => Mute w e w' := by
  have hp := number8 n hn w
  generalize beL (n : Int) 8 = x at *
  go_enter Tryd.func24, Tryd.ntmps24
  go_wp2_with fail
  refine hp.mono ?_
  clear hp
  rintro e w1 ⟨v1, rfl, hv, hb⟩
  obtain ⟨A, c, rfl, -⟩ := id hv
  have HB := Lib.hid hb
  clear hv hb
  go_wp2_with fail
  refine (layW_nil _ _ _ _).mono ?_
  rintro e w2 ⟨rfl, rfl⟩
  go_wp2_with fail
  go_end0
  exact ⟨rfl, below_new HB.out _⟩
theorem Truth_nil (b : Bool) (w : World) : Calls Tryd.prog 50 #[.pointer none, .bool b] w fun e w' => Mute w e w' := by
  have h0 := Number_nil 0 (by decide) w
  have h1 := Number_nil 1 (by decide) w
  cases b
  · go_enter Tryd.func50, Tryd.ntmps50
    go_wp2_with fail
    refine h0.mono ?_
    rintro e w2 ⟨rfl, hw⟩
    go_wp2_with fail
    go_end0
    exact ⟨rfl, hw⟩
  · go_enter Tryd.func50, Tryd.ntmps50
    go_wp2_with fail
    refine h1.mono ?_
    rintro e w2 ⟨rfl, hw⟩
    go_wp2_with fail
    go_end0
    exact ⟨rfl, hw⟩
theorem bytesOf_any (n : Nat) (hn : n < 18446744073709551616) (w : World) : Calls Tryd.prog 49 #[.int .u64 (n : Int), .int .i64 4] w fun e W' => ∃ A m c, e = .returned (.slice A m c) ∧ Below w.heap.size w W' := by
  by_cases h : fitsB (n : Int) 4 = true
  · refine (bytesOf_v (n : Int) 4 (by decide) (by omega) (by omega) w h).mono fun e w' ⟨v, he, hv, hb⟩ => ?_
    obtain ⟨A, c, rfl, -⟩ := hv
    exact ⟨A, _, c, he, hb⟩
  · refine (bytesOf_no (n : Int) 4 (by omega) (by omega) w (by simpa using h)).mono fun e w' ⟨v, he, hv, hb⟩ => ?_
    obtain ⟨A, c, rfl, -⟩ := hv
    exact ⟨A, _, c, he, hb⟩
theorem Bytes_nil (A : Option Addr) (n c : Nat) (hn : n ≤ 9223372036854775807) (w : World) : Calls Tryd.prog 26 #[.pointer none, .slice A n c] w fun e w' => Mute w e w' := by
  have hp := bytesOf_any n (by omega) w
  have hpad := Pad_nat n hn
  have hp4 := padN_lt n
  have hmk := mk_zeros (padN n) (by omega)
  have hn' : (n : Int) ≤ 9223372036854775807 := by omega
  generalize padN n = p at *
  go_enter Tryd.func26, Tryd.ntmps26
  go_wp2_with fail
  refine hp.mono ?_
  clear hp
  rintro e w1 ⟨A1, m1, c1, rfl, hb⟩
  have HB := Lib.hid hb
  clear hb
  go_wp2_with fail
  refine (hpad _).mono ?_
  clear hpad
  rintro e w' ⟨rfl, rfl⟩
  go_wp2_with fail
  refine (layW_nil _ _ _ _).mono ?_
  rintro e w2 ⟨rfl, rfl⟩
  go_wp2_with fail
  go_end0
  exact ⟨rfl, below_new (below_new HB.out _) _⟩
theorem Bare_nil (w : World) : Calls Tryd.prog 28 #[.pointer none] w fun e w' => e = .returned (.slice none 0 0) ∧ w = w' := by
  go_enter Tryd.func28, Tryd.ntmps28
  go_wp2_with fail
  go_ret
  exact ⟨rfl, rfl⟩

end Go.Proofs.YtboalmmpcfiicaaDoor
