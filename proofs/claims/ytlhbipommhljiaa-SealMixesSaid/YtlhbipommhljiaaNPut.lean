/- num.Put: the bytes of a number. -/
import Derived.Test.YtlhbipommhljiaaNBwd
import Derived.Test.YtlhbipommhljiaaNLen
namespace Go.Proofs.Ytlhbipommhljiaa
open Go.RowKit Go.Shelf
set_option linter.unusedVariables false
attribute [local go_sem] Oper.semAt_some

set_option maxHeartbeats 1000000 in
theorem Backward_in (F : Fence) (n : Nat) (h24 : F.fn 42) (hro : F.round = none) (a : Option Addr) (len cap : Nat) (w : World) :
    CallsIn F n Try.prog 42 #[.slice a len cap] w fun e w' => e = .returned (.func (.func 47) #[] #[.pointer (some ⟨w.heap.size, 0, none⟩)]) ∧ w' = w.alloc (.cells #[.slice a len cap] 23) := by
  refine callsIn_of_wp Try.func42 rfl h24 ?_ hro
  simp only [Try.ntmps42, List.size_toArray, List.length_cons, List.length_nil, Nat.reduceAdd, Nat.reduceSub, Array.replicate_succ, Array.replicate_zero, List.push_toArray, List.append_toArray, List.nil_append, List.cons_append]
  gi_wp2
  go_ret
  exact ⟨rfl, rfl⟩
theorem keeps_t {V : Nat → Int → Prop} {Bs : Nat} {sv : Value} {b off len : Nat} {A B C : World} (h : Keeps V Bs sv b off len A B) (k : Keeps V Bs sv b off len B C) : Keeps V Bs sv b off len A C :=
  ⟨fun x => k.1 (h.1 x), fun j hj x => k.2 j hj (h.2 j hj x)⟩
theorem keeps_b {V : Nat → Int → Prop} {Bs : Nat} {sv : Value} {b off len : Nat} {w : World} (W : World) (l : Nat) (o o' : Obj) (_ : w.heap.size ≤ l) (h : W.heap[l]? = some o) (hc : o.isCells = false) (_ : o.isWalk = false) : Keeps V Bs sv b off len W (W.putObj l o') :=
  ⟨fun x => cell_kept x (grownBy_putObj' W l o') (fun r e => by cases e; exact ⟨_, h, hc⟩), fun j _ ⟨v, hv, x⟩ => ⟨v, hv, cell_kept x (grownBy_putObj' W l o') (fun r e => by cases e; exact ⟨_, h, hc⟩)⟩⟩
theorem back_stops (F : Fence) (n : Nat) (h29 : F.fn 47) (hro : F.round = none) (hn : 1 ≤ n) (Bs b off len cap : Nat) (V : Nat → Int → Prop) (hreach : len ≤ 140737488355328) (w : World) (hBs : Bs < w.heap.size) (hb : b < w.heap.size)
    (hc : w.cell? ⟨Bs, 0, none⟩ = some (.slice (some ⟨b, off, none⟩) len cap)) (hI : Holds V b off len w) :
    SeqStopsK F n Try.prog 47 #[.pointer (some ⟨Bs, 0, none⟩)] (encEl (V := V) (len := len)) (Keeps V Bs (.slice (some ⟨b, off, none⟩) len cap) b off len) (fun ys => Down 0 ys) (fun pre => ∃ k, Down k pre) len w := fun l J Jx W hW _ _ hY h0 =>
  back1_in F n h29 hro hn l Bs b off len cap V hreach J Jx hY W ((hW.cell (p := ⟨Bs, 0, none⟩) hBs).trans hc) (fun j hj => by obtain ⟨v, hv, h⟩ := hI j hj; exact ⟨v, hv, (hW.cell (p := ⟨b, off + j, none⟩) hb).trans h⟩) h0
/-- k bytes of 0 -/
def zeros (k : Nat) : Array Value := Array.replicate k (.int .u8 0)
/-- what a round does: the lowest byte goes to place i, the others come down. -/
def putStep (st : Int × Array Value) (i : Nat) : Int × Array Value := (st.1 / 256, st.2.setIfInBounds i (.int .u8 (st.1 % 256)))
def putSt (x : Int) (k : Nat) (l : List Nat) : Int × Array Value := l.foldl putStep (x, zeros k)
theorem putSt_snoc (x : Int) (k : Nat) (l : List Nat) (i : Nat) : putSt x k (l ++ [i]) = putStep (putSt x k l) i := by simp [putSt]
theorem putStep_fold (x : Int) (k : Nat) (P : Int × Array Value → Prop) (hs : ∀ st i, P st → P (putStep st i)) : ∀ (l : List Nat) (st : Int × Array Value), P st → P (l.foldl putStep st)
  | [], st, h => h
  | i :: l, st, h => putStep_fold x k P hs l (putStep st i) (hs st i h)
theorem putSt_bd (x : Int) (k : Nat) (hx : 0 ≤ x) (hx' : x ≤ 18446744073709551615) (l : List Nat) : 0 ≤ (putSt x k l).1 ∧ (putSt x k l).1 ≤ 18446744073709551615 :=
  putStep_fold x k (fun st => 0 ≤ st.1 ∧ st.1 ≤ 18446744073709551615) (fun st i h => by simp only [putStep]; omega) l _ ⟨hx, hx'⟩
theorem putSt_size (x : Int) (k : Nat) (l : List Nat) : (putSt x k l).2.size = k :=
  putStep_fold x k (fun st => st.2.size = k) (fun st i h => by simp [putStep, h]) l _ (by simp [zeros])
theorem putSt_u8 (x : Int) (k : Nat) (l : List Nat) (j : Nat) : j < k → ∃ v, (putSt x k l).2[j]? = some (.int .u8 v) :=
  putStep_fold x k (fun st => j < k → ∃ v, st.2[j]? = some (.int .u8 v)) (fun st i h hj => by
    obtain ⟨v, hv⟩ := h hj
    have hlt : j < st.2.size := by
      rcases Nat.lt_or_ge j st.2.size with h1 | h1
      · exact h1
      · rw [Array.getElem?_eq_none h1] at hv; cases hv
    simp only [putStep, Array.getElem?_setIfInBounds]
    split
    · rename_i e
      subst e
      rw [if_pos hlt]
      exact ⟨_, rfl⟩
    · exact ⟨v, hv⟩) l _ (fun hj => ⟨0, by simp [zeros, hj]⟩)
theorem mk_zeros (k : Nat) (hk : k ≤ 8) (W : World) : (Instr.makeSlice 23 (.int .i64 (k : Int)) (.int .i64 (k : Int))).run Try.prog W = .ok (.slice (some ⟨W.heap.size, 0, none⟩) k k) (W.alloc (.cells (zeros k) 5)) := by
  obtain ⟨i0, hi, hz0, hz1, hz2⟩ := info_parts (show (Try.prog.info? 5).map (fun i => (i.zero, i.size, i.bytes)) = some (some (.int .u8 0), 1, 1) by kernel_rfl)
  have h := run_make (P := Try.prog) W 23 5 i0 (.int .u8 0) Try.underlying23 hi hz0 .i64 .i64 (k : Int) (k : Int) (by omega) (Int.le_refl _) (by rw [hz2]; omega) (by omega)
  rw [h, hz1]
  simp only [Int.toNat_natCast, Nat.mul_one]
  congr 3
  apply Array.ext
  · simp [zeros, size_madeCells]
  · intro j h1 h2
    simp [madeCells, zeros, Value.cells, Nat.mod_one]
/-- the bytes of x in k places -/
def beArr (x : Int) (k : Nat) : Array Value := (putSt x k (List.range k).reverse).2
/-- what a round of Put holds: the number's box, the slice's, and the bytes -/
def PutI (w : World) (x : Int) (k : Nat) (l : List Nat) (W : World) : Prop :=
  (Cs W w.heap.size 49 #[.int .u64 (putSt x k l).1] ∧ Cs W (w.heap.size + 1) 5 (putSt x k l).2 ∧ Cs W (w.heap.size + 1 + 1) 23 #[.slice (some ⟨w.heap.size + 1, 0, none⟩) k k]
    ∧ Cs W (w.heap.size + 1 + 1 + 1) 23 #[.slice (some ⟨w.heap.size + 1, 0, none⟩) k k]) ∧ Below w.heap.size w W
theorem putI_own (w : World) (x : Int) (k B : Nat) {β : Type} (f : β → List Nat) (hB : w.heap.size ≤ B) : OwnFrom B (fun s W => PutI w x k (f s) W) :=
  OwnFrom.and (OwnFrom.and ((cs_own _ _ _).from _) (OwnFrom.and ((cs_own _ _ _).from _) (OwnFrom.and ((cs_own _ _ (fun _ => _)).from _) ((cs_own _ _ (fun _ => _)).from _)))) (ownFrom_below (Nat.le_refl _) hB)
set_option maxRecDepth 100000 in
set_option maxHeartbeats 1000000 in
theorem Put_in (x : Int) (k : Nat) (hk1 : 1 ≤ k) (hk : k ≤ 8) (hs : sizeB k = true) (hx : 0 ≤ x) (hx' : x ≤ 18446744073709551615) (w : World) (hfit : fitsB x k = true) :
    CallsIn Fence.wide 5 Try.prog 32 #[.int .u64 x, .int .i64 k] w fun e W' => e = .returned (.tuple #[.slice (some ⟨w.heap.size + 1, 0, none⟩) k k, .int .i64 0]) ∧ Below w.heap.size w W' ∧ Cs W' (w.heap.size + 1) 5 (beArr x k) := by
  have hsize : ∀ W, Calls Try.prog 40 #[.int .i64 k] W fun e w' => e = .returned (.bool true) ∧ W = w' := fun W => by
    have := isSize_any k W; rwa [hs] at this
  have hfits : ∀ W, Calls Try.prog 41 #[.int .u64 x, .int .i64 k] W fun e w' => e = .returned (.bool true) ∧ W = w' := fun W => by
    have := fits_any x k hx hx' hs W; rwa [hfit] at this
  have hmk := mk_zeros k hk
  refine callsIn_of_wp_marks Try.func32 rfl trivial ?_ rfl
  simp only [Try.ntmps32, List.size_toArray, List.length_cons, List.length_nil, Nat.reduceAdd, Nat.reduceSub, Array.replicate_succ, Array.replicate_zero, List.push_toArray, List.append_toArray, List.nil_append, List.cons_append]
  gi_wp2_with (first | (refine ⟨trivial, ?_⟩; gi_at_call 40; refine (callsIn_wide.2 (hsize _)).mono ?_; rintro e w' ⟨rfl, rfl⟩) | (refine ⟨trivial, ?_⟩; gi_at_call 41; refine (callsIn_wide.2 (hfits _)).mono ?_; rintro e w' ⟨rfl, rfl⟩) | (refine ⟨trivial, ?_⟩; gi_at_call 42; refine (Backward_in _ _ trivial rfl _ _ _ _).mono ?_; rintro e w' ⟨rfl, rfl⟩))
  have c0 := Cs.new w 49 #[.int .u64 x]
  have c1 := Cs.new (w.alloc (.cells #[.int .u64 x] 49)) 5 (zeros k)
  have c2 := Cs.new ((w.alloc (.cells #[.int .u64 x] 49)).alloc (.cells (zeros k) 5)) 23 #[.slice (some ⟨w.heap.size + 1, 0, none⟩) k k]
  have c3 := Cs.new (((w.alloc (.cells #[.int .u64 x] 49)).alloc (.cells (zeros k) 5)).alloc (.cells #[.slice (some ⟨w.heap.size + 1, 0, none⟩) k k] 23)) 23 #[.slice (some ⟨w.heap.size + 1, 0, none⟩) k k]
  simp only [World.size_alloc] at c1 c2 c3
  have hB0 := ((((Below.refl w.heap.size w).alloc (Nat.le_refl _) (.cells #[.int .u64 x] 49)).alloc (by simp) (.cells (zeros k) 5)).alloc (by simp; omega) (.cells #[.slice (some ⟨w.heap.size + 1, 0, none⟩) k k] 23)).alloc (by simp; omega) (.cells #[.slice (some ⟨w.heap.size + 1, 0, none⟩) k k] 23)
  have hI0 : PutI w x k [] _ := ⟨⟨((c0.alloc _).alloc _).alloc _, (c1.alloc _).alloc _, c2.alloc _, c3⟩, hB0⟩
  have hH0 : Holds (fun _ _ => True) (w.heap.size + 1) 0 k _ := fun j hj => ⟨0, trivial, hI0.1.2.1.cell (0 + j) (by simp [putSt, zeros, hj])⟩
  refine wpIn_rangeFunc_ownG rfl (by omega) (gf := 47) (lb := #[.pointer (some ⟨w.heap.size + 1 + 1 + 1, 0, none⟩)]) rfl trivial (enters_of Try.func47 (by kernel_rfl) rfl)
    (back_stops Fence.wide (5 - 1) trivial rfl (by omega) (w.heap.size + 1 + 1 + 1) (w.heap.size + 1) 0 k k (fun _ _ => True) (by omega) _ (by simp) (by simp) (hI0.1.2.2.2.cell 0 rfl) hH0) keeps_t keeps_b (Below.refl _ _) (fun _ => rfl)
    (fun pre W => PutI w x k (pre.map fun x => x.1.1) W)
    (fun _ _ _ => False)
    (putI_own w x k _ _ (by simp; omega))
    (fun _ _ _ _ _ hs _ _ => hs)
    hI0
    (fun y => { tmps := #[.int .u64 x, .int .i64 k, .pointer (some ⟨w.heap.size, 0, none⟩), undef, .slice none 0 0, .int .i64 0, .pointer (some ⟨w.heap.size + 1 + 1, 0, none⟩), .int .i64 (y.1.1 : Int), .int .i64 k, .bool true, .bool false, .bool false, .int .u64 x, .int .i64 k, .bool true, .bool false, .bool false, .int .i64 k,
      .slice (some ⟨w.heap.size + 1, 0, none⟩) k k, .slice (some ⟨w.heap.size + 1, 0, none⟩) k k, .func (.func 47) #[] #[.pointer (some ⟨w.heap.size + 1 + 1 + 1, 0, none⟩)], .int .i64 (y.1.1 : Int), .int .u8 y.1.2, undef, undef, undef, undef, undef, undef, undef, undef], defers := [] }) ?assign ?body ?done ?stop
  case assign =>
    intro l y W K hK
    simp only [encEl]
    gi_wp2
    exact hK
  case body =>
    clear c0 c1 c2 c3 hB0 hI0 hH0 hmk hsize hfits
    rintro l pre ⟨⟨i, vv⟩, hi, -⟩ W ⟨⟨d0, d1, d2, d3⟩, hB⟩ hlen
    have hbd := putSt_bd x k hx hx' (pre.map fun x => x.1.1)
    have hst := putSt_snoc x k (pre.map fun x => x.1.1) i
    have hu8 := putSt_u8 x k (pre.map (fun x => x.1.1) ++ [i])
    obtain ⟨v, hv⟩ := putSt_u8 x k (pre.map fun x => x.1.1) i hi
    generalize putSt x k (pre.map fun x => x.1.1) = st at *
    obtain ⟨m, cs⟩ := st
    dsimp only at d0 d1 hbd hv
    obtain ⟨hm0, hm1⟩ := hbd
    have HST := Lib.hid hst
    have HU8 := Lib.hid hu8
    clear hst hu8
    have e0 := d0.cell 0 rfl
    have f0 := d0.frozen 0
    have e1 := d1.cell i hv
    have f1 := d1.frozen i
    have e2 := d2.cell 0 rfl
    have HD0 := Lib.hid d0
    have HD1 := Lib.hid d1
    have HD2 := Lib.hid d2
    have HD3 := Lib.hid d3
    clear d0 d1 d2 d3 hv
    gi_wp2
    have hst := HST.out
    have hu8 := HU8.out
    rw [hst] at hu8
    have d0 := (HD0.out.far (p := ⟨w.heap.size + 1, i, none⟩) (by dsimp only; omega) (.int .u8 (m % 256))).set 0 (.int .u64 (m / 256))
    have d1 := (HD1.out.set i (.int .u8 (m % 256))).far (p := ⟨w.heap.size, 0, none⟩) (by dsimp only; omega) (.int .u64 (m / 256))
    have d2 := (HD2.out.far (p := ⟨w.heap.size + 1, i, none⟩) (by dsimp only; omega) (.int .u8 (m % 256))).far (p := ⟨w.heap.size, 0, none⟩) (by dsimp only; omega) (.int .u64 (m / 256))
    have d3 := (HD3.out.far (p := ⟨w.heap.size + 1, i, none⟩) (by dsimp only; omega) (.int .u8 (m % 256))).far (p := ⟨w.heap.size, 0, none⟩) (by dsimp only; omega) (.int .u64 (m / 256))
    refine ⟨((KeepsOthers.setCell _ _ _).trans (KeepsOthers.setCell _ _ _)).from _, ⟨fun _ => d3.cell 0 rfl, fun j hj _ => ?_⟩, ?_⟩
    · obtain ⟨u, hu⟩ := hu8 j hj
      exact ⟨u, trivial, d1.cell (0 + j) (by simpa [putStep] using hu)⟩
    · refine ⟨?_, (hB.setCell (p := ⟨w.heap.size + 1, i, none⟩) (by simp) _).setCell (p := ⟨w.heap.size, 0, none⟩) (Nat.le_refl _) _⟩
      simp only [List.map_append, List.map_cons, List.map_nil]
      rw [hst]
      exact ⟨d0, d1, d2, d3⟩
  case done =>
    clear c0 c1 c2 c3 hB0 hI0 hH0 hmk hsize hfits
    rintro D ys W hD hdown ⟨⟨d0, d1, d2, d3⟩, hB⟩ hK
    have e2 := d2.cell 0 rfl
    have HD1 := Lib.hid d1
    have HDn := Lib.hid hdown
    clear d0 d1 d2 d3 hdown
    gi_wp2
    refine ⟨by simp, .inl ⟨_, _, rfl, run_takeDeferred hK, ?_⟩⟩
    refine ⟨_, results_tmp2 rfl _ _ _, rfl, hB.trans (belowK_b (w := w) (Nat.le_refl _) W D _ _ (by simp at hD; omega) hK rfl rfl), ?_⟩
    have h1 := HD1.out.put (.deferred none) hK rfl
    have h2 := HDn.out
    unfold Down at h2
    simp only [List.range_zero, List.reverse_nil, List.append_nil] at h2
    rw [h2] at h1
    exact h1
  case stop =>
    rintro D c pre W _ _ h _
    exact h.elim

end Go.Proofs.Ytlhbipommhljiaa
