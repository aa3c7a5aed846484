/- num.Get: the number of bytes. -/
import Derived.Test.YtlhbipommhljiaaNPut
import Derived.Laws.BitsAllLaws
namespace Go.Proofs.Ytlhbipommhljiaa
open Go.RowKit Go.Shelf
set_option linter.unusedVariables false
attribute [local go_sem] Oper.semAt_some

theorem Get_arg (l : List UInt8) (A : Option Addr) (c : Nat) (i s : Int) (w : World) (hl : l.length ≤ maxLen) (h : sizeB s = false ∨ placeB l.length i = false) :
    Calls Try.prog 39 #[.slice A l.length c, .int .i64 i, .int .i64 s] w fun e W' => e = .returned (.tuple #[.int .u64 0, .int .i64 2]) ∧ w = W' := by
  have hplace := fun W => isPlace_any A l.length c i W hl
  have hsize := isSize_any s
  rcases hs : sizeB s with _ | _
  · rw [hs] at hsize
    go_enter Try.func39, Try.ntmps39
    go_wp2_with (go_at_call 40; refine (hsize _).mono ?_; rintro e w' ⟨rfl, rfl⟩)
    go_ret2
    exact ⟨rfl, rfl⟩
  · have h' : placeB l.length i = false := by
      rcases h with h | h
      · rw [hs] at h; cases h
      · exact h
    rw [hs] at hsize
    rw [h'] at hplace
    clear h h'
    go_enter Try.func39, Try.ntmps39
    go_wp2_with (first | (go_at_call 40; refine (hsize _).mono ?_; rintro e w' ⟨rfl, rfl⟩) | (go_at_call 45; refine (hplace _).mono ?_; rintro e w' ⟨rfl, rfl⟩))
    go_ret2
    exact ⟨rfl, rfl⟩
theorem Get_short (l : List UInt8) (A : Option Addr) (c : Nat) (i s : Int) (w : World) (hl : l.length ≤ maxLen) (hs : sizeB s = true) (hp : placeB l.length i = true) (h : (l.length : Int) - i < s) :
    Calls Try.prog 39 #[.slice A l.length c, .int .i64 i, .int .i64 s] w fun e W' => e = .returned (.tuple #[.int .u64 0, .int .i64 4]) ∧ w = W' := by
  have hplace := fun W => isPlace_any A l.length c i W hl
  have hsize := isSize_any s
  rw [hs] at hsize
  rw [hp] at hplace
  have hi : 0 ≤ i ∧ i ≤ (l.length : Int) := by simpa [placeB] using hp
  obtain ⟨hi0, hi1⟩ := hi
  unfold maxLen at hl
  clear hs hp
  go_enter Try.func39, Try.ntmps39
  go_wp2_with (first | (go_at_call 40; refine (hsize _).mono ?_; rintro e w' ⟨rfl, rfl⟩) | (go_at_call 45; refine (hplace _).mono ?_; rintro e w' ⟨rfl, rfl⟩))
  go_ret2
  exact ⟨rfl, rfl⟩
/-- what a round of Get does: (the number so far, the number of rounds) -/
def getStep (st : Int × Nat) (v : Int) : Int × Nat := (st.1 + v * 256 ^ st.2, st.2 + 1)
def getSt (l : List Int) : Int × Nat := l.foldl getStep (0, 0)
theorem getSt_snoc (l : List Int) (v : Int) : getSt (l ++ [v]) = getStep (getSt l) v := by simp [getSt]
/-- byte j of l -/
def byteAt (l : List UInt8) (j : Nat) : Int := ((l.getD j 0).toNat : Int)
theorem byteAt_le (l : List UInt8) (j : Nat) : byteAt l j ≤ 255 := by
  unfold byteAt
  have := (l.getD j 0).toNat_lt
  omega
theorem getSt_bd (l : List Int) (hl : ∀ v ∈ l, 0 ≤ v ∧ v ≤ 255) : 0 ≤ (getSt l).1 ∧ (getSt l).1 < 256 ^ (getSt l).2 := by
  have : ∀ (l : List Int) (st : Int × Nat), (∀ v ∈ l, 0 ≤ v ∧ v ≤ 255) → (0 ≤ st.1 ∧ st.1 < 256 ^ st.2) → 0 ≤ (l.foldl getStep st).1 ∧ (l.foldl getStep st).1 < 256 ^ (l.foldl getStep st).2 := by
    intro l
    induction l with
    | nil => intro st _ h; exact h
    | cons v l ih =>
      intro st hl h
      rw [List.foldl_cons]
      refine ih _ (fun u hu => hl u (List.mem_cons_of_mem _ hu)) ?_
      have hv := hl v List.mem_cons_self
      simp only [getStep, Int.pow_succ]
      generalize (256 : Int) ^ st.2 = P at *
      have h1 : 0 ≤ v * P := Int.mul_nonneg hv.1 (by omega)
      have h2 : v * P ≤ 255 * P := Int.mul_le_mul_of_nonneg_right hv.2 (by omega)
      omega
  exact this l (0, 0) hl (by simp)
theorem getSt_length (l : List Int) : (getSt l).2 = l.length := by
  have : ∀ (l : List Int) (st : Int × Nat), (l.foldl getStep st).2 = st.2 + l.length := by
    intro l
    induction l with
    | nil => intro st; rfl
    | cons v l ih => intro st; rw [List.foldl_cons, ih]; simp [getStep]; omega
  simpa [getSt] using this l (0, 0)
/-- a number below 256 to the p, and a byte p bytes higher -/
theorem or_sum (m v : Int) (p : Nat) (h0 : 0 ≤ m) (h1 : m < 256 ^ p) (v0 : 0 ≤ v) (v1 : v ≤ 255) (hp : p ≤ 7) : bits BinOp.or IntKind.u64 m (IntKind.u64.wrap (v * 2 ^ (8 * p))) = m + v * 256 ^ p := by
  obtain ⟨m, rfl⟩ := Int.eq_ofNat_of_zero_le h0
  obtain ⟨v, rfl⟩ := Int.eq_ofNat_of_zero_le v0
  have e : (256 : Nat) ^ p = 2 ^ (8 * p) := by rw [Nat.pow_mul]
  have hm : m < 2 ^ (8 * p) := by
    have h1' : ((m : Nat) : Int) < ((256 ^ p : Nat) : Int) := by rw [Int.natCast_pow]; exact h1
    rw [← e]; omega
  have hv : v < 256 := by omega
  have hP : (2 : Nat) ^ (8 * p) ≤ 2 ^ 56 := Nat.pow_le_pow_right (by decide) (by omega)
  have hprod : v * 2 ^ (8 * p) ≤ 255 * 2 ^ 56 := Nat.mul_le_mul (by omega) hP
  have c1 : ((v : Int) * 2 ^ (8 * p)) = ((v * 2 ^ (8 * p) : Nat) : Int) := by rw [Int.natCast_mul, Int.natCast_pow]; rfl
  have c2 : ((v : Int) * 256 ^ p) = ((v * 2 ^ (8 * p) : Nat) : Int) := by rw [← e, Int.natCast_mul, Int.natCast_pow]; rfl
  rw [c1, c2]
  generalize hQ : v * 2 ^ (8 * p) = Q at *
  have w1 : IntKind.u64.wrap (Q : Int) = (Q : Int) := by
    rw [IntKind.wrap_u64]; omega
  rw [w1, u64_or_nat m Q (by omega) (by omega)]
  have h2 := Nat.two_pow_add_eq_or_of_lt hm v
  rw [Nat.mul_comm, hQ] at h2
  rw [Nat.or_comm, ← h2]
  omega
def GetI (w : World) (sv : Value) (l : List Int) (W : World) : Prop :=
  (Cs W w.heap.size 49 #[.int .u64 (getSt l).1] ∧ Cs W (w.heap.size + 1) 3 #[.int .i64 (8 * (getSt l).2 : Nat)] ∧ Cs W (w.heap.size + 1 + 1) 23 #[sv]) ∧ Below w.heap.size w W
theorem getI_own (w : World) (sv : Value) (B : Nat) {β : Type} (f : β → List Int) (hB : w.heap.size ≤ B) : OwnFrom B (fun s W => GetI w sv (f s) W) :=
  OwnFrom.and (OwnFrom.and ((cs_own _ _ (fun s => #[.int .u64 (getSt (f s)).1])).from _) (OwnFrom.and ((cs_own _ _ (fun s => #[.int .i64 (8 * (getSt (f s)).2 : Nat)])).from _) ((cs_own _ _ (fun _ => #[sv])).from _))) (ownFrom_below (Nat.le_refl _) hB)
/-- the world that a round of Get leaves -/
theorem get_round (w W : World) (l : List UInt8) (b off i k c' : Nat) (hb : b < w.heap.size) (pre : List (El (fun j v => v = byteAt l (i + j)) k)) (y : El (fun j v => v = byteAt l (i + j)) k) (m : Int)
    (hm : 0 ≤ m ∧ m < 256 ^ pre.length) (hv0 : 0 ≤ y.1.2) (hv1 : y.1.2 ≤ 255) (hp : pre.length ≤ 7)
    (hst : getSt (pre.map (fun x => x.1.2) ++ [y.1.2]) = getStep (m, pre.length) y.1.2)
    (h0 : Cs W w.heap.size 49 #[.int .u64 m]) (h1 : Cs W (w.heap.size + 1) 3 #[.int .i64 (8 * pre.length : Nat)]) (h2 : Cs W (w.heap.size + 1 + 1) 23 #[.slice (some ⟨b, off + i, none⟩) k c']) (hB : Below w.heap.size w W) :
    Keeps (fun j v => v = byteAt l (i + j)) (w.heap.size + 1 + 1) (.slice (some ⟨b, off + i, none⟩) k c') b (off + i) k W
      ((W.setCell ⟨w.heap.size, 0, none⟩ (.int .u64 (bits BinOp.or IntKind.u64 m (IntKind.u64.wrap (y.1.2 * 2 ^ (8 * pre.length)))))).setCell ⟨w.heap.size + 1, 0, none⟩ (.int .i64 (8 * (pre.length : Int) + 8))).drew ∧
    GetI w (.slice (some ⟨b, off + i, none⟩) k c') ((pre ++ [y]).map fun x => x.1.2)
      ((W.setCell ⟨w.heap.size, 0, none⟩ (.int .u64 (bits BinOp.or IntKind.u64 m (IntKind.u64.wrap (y.1.2 * 2 ^ (8 * pre.length)))))).setCell ⟨w.heap.size + 1, 0, none⟩ (.int .i64 (8 * (pre.length : Int) + 8))).drew := by
  rw [or_sum m y.1.2 pre.length hm.1 hm.2 hv0 hv1 hp]
  have d0 := (h0.set 0 (.int .u64 (m + y.1.2 * 256 ^ pre.length))).far (p := ⟨w.heap.size + 1, 0, none⟩) (by dsimp only; omega) (.int .i64 (8 * (pre.length : Int) + 8))
  have d1 := (h1.far (p := ⟨w.heap.size, 0, none⟩) (by dsimp only; omega) (.int .u64 (m + y.1.2 * 256 ^ pre.length))).set 0 (.int .i64 (8 * (pre.length : Int) + 8))
  have d2 := (h2.far (p := ⟨w.heap.size, 0, none⟩) (by dsimp only; omega) (.int .u64 (m + y.1.2 * 256 ^ pre.length))).far (p := ⟨w.heap.size + 1, 0, none⟩) (by dsimp only; omega) (.int .i64 (8 * (pre.length : Int) + 8))
  have hBW := (((Below.refl (w.heap.size) W).setCell (p := ⟨w.heap.size, 0, none⟩) (Nat.le_refl _) (.int .u64 (m + y.1.2 * 256 ^ pre.length))).setCell (p := ⟨w.heap.size + 1, 0, none⟩) (by dsimp only; omega) (.int .i64 (8 * (pre.length : Int) + 8))).drew
  refine ⟨⟨fun _ => d2.drew.cell 0 rfl, fun q hq hv => ?_⟩, ?_⟩
  · obtain ⟨v, hv, hcv⟩ := hv
    exact ⟨v, hv, (hBW.cell (p := ⟨b, off + i + q, none⟩) hb).trans hcv⟩
  · unfold GetI
    rw [List.map_append, List.map_cons, List.map_nil, hst]
    refine ⟨⟨d0, ?_, d2⟩, hB.trans hBW⟩
    have e : (8 * (pre.length : Int) + 8) = ((8 * (pre.length + 1) : Nat) : Int) := by omega
    rw [e] at d1 ⊢
    exact d1
set_option maxRecDepth 100000 in
set_option maxHeartbeats 1000000 in
theorem Get_in (l : List UInt8) (b off c i k : Nat) (w : World) (hl : l.length ≤ maxLen) (hk1 : 1 ≤ k) (hk : k ≤ 8) (hs : sizeB k = true) (hik : i + k ≤ l.length) (hc : l.length ≤ c) (hb : b < w.heap.size)
    (hcell : ∀ j (h : j < l.length), w.cell? ⟨b, off + j, none⟩ = some (.int .u8 (l[j].toNat : Int))) :
    CallsIn Fence.wide 5 Try.prog 39 #[.slice (some ⟨b, off, none⟩) l.length c, .int .i64 i, .int .i64 k] w fun e W' =>
      e = .returned (.tuple #[.int .u64 (getSt ((List.range k).reverse.map fun j => byteAt l (i + j))).1, .int .i64 0]) ∧ Below w.heap.size w W' := by
  have hsize : ∀ W, Calls Try.prog 40 #[.int .i64 k] W fun e w' => e = .returned (.bool true) ∧ W = w' := fun W => by
    have := isSize_any k W; rwa [hs] at this
  have hplace : ∀ W, Calls Try.prog 45 #[.slice (some ⟨b, off, none⟩) l.length c, .int .i64 i] W fun e w' => e = .returned (.bool true) ∧ W = w' := fun W => by
    have := isPlace_any (some ⟨b, off, none⟩) l.length c i W hl
    rwa [show placeB l.length i = true by simp [placeB]; omega] at this
  have hsl : ∀ W, (Instr.slice 23 (.slice (some ⟨b, off, none⟩) l.length c) (some (.int .i64 (i : Int))) (some (.int .i64 ((i : Int) + (k : Int)))) none).run Try.prog W = .ok (.slice (some ⟨b, off + i, none⟩) k (c - i)) W := fun W => by
    have h := Lib.run_slice_window (P := Try.prog) W 23 5 Try.underlying23 (fun w => Try.sizeOf5 w) b off l.length c i (i + k) (by omega) (by omega)
    rw [show i + k - i = k by omega] at h
    rw [← h]
    rfl
  have hsum : (i : Int) + (k : Int) ≤ l.length := by omega
  have hn1 : ¬ ((l.length : Int) - i < k) := by omega
  have hn2 : decide ((l.length : Int) - i < k) = false := by simpa using hn1
  unfold maxLen at hl
  clear hn1
  refine callsIn_of_wp_marks Try.func39 rfl trivial ?_ rfl
  simp only [Try.ntmps39, List.size_toArray, List.length_cons, List.length_nil, Nat.reduceAdd, Nat.reduceSub, Array.replicate_succ, Array.replicate_zero, List.push_toArray, List.append_toArray, List.nil_append, List.cons_append]
  gi_wp2_with (first | (refine ⟨trivial, ?_⟩; gi_at_call 40; refine (callsIn_wide.2 (hsize _)).mono ?_; rintro e w' ⟨rfl, rfl⟩) | (refine ⟨trivial, ?_⟩; gi_at_call 45; refine (callsIn_wide.2 (hplace _)).mono ?_; rintro e w' ⟨rfl, rfl⟩) | (refine ⟨trivial, ?_⟩; gi_at_call 42; refine (Backward_in _ _ trivial rfl _ _ _ _).mono ?_; rintro e w' ⟨rfl, rfl⟩))
  have c0 := Cs.new w 49 #[.int .u64 0]
  have c1 := Cs.new (w.alloc (.cells #[.int .u64 0] 49)) 3 #[.int .i64 0]
  have c2 := Cs.new ((w.alloc (.cells #[.int .u64 0] 49)).alloc (.cells #[.int .i64 0] 3)) 23 #[.slice (some ⟨b, off + i, none⟩) k (c - i)]
  simp only [World.size_alloc] at c1 c2
  have hB0 := (((Below.refl w.heap.size w).alloc (Nat.le_refl _) (.cells #[.int .u64 0] 49)).alloc (by simp) (.cells #[.int .i64 0] 3)).alloc (by simp; omega) (.cells #[.slice (some ⟨b, off + i, none⟩) k (c - i)] 23)
  have hI0 : GetI w (.slice (some ⟨b, off + i, none⟩) k (c - i)) [] _ := ⟨⟨(c0.alloc _).alloc _, c1.alloc _, c2⟩, hB0⟩
  have hH0 : Holds (fun j v => v = byteAt l (i + j)) b (off + i) k _ := fun j hj => ⟨_, rfl, (hB0.cell (p := ⟨b, off + i + j, none⟩) hb).trans (by
    rw [Nat.add_assoc, hcell (i + j) (by omega)]
    simp [byteAt, List.getElem?_eq_getElem (show i + j < l.length by omega)])⟩
  refine wpIn_rangeFunc_ownG rfl (by omega) (gf := 47) (lb := #[.pointer (some ⟨w.heap.size + 1 + 1, 0, none⟩)]) rfl trivial (enters_of Try.func47 (by kernel_rfl) rfl)
    (back_stops Fence.wide (5 - 1) trivial rfl (by omega) (w.heap.size + 1 + 1) b (off + i) k (c - i) (fun j v => v = byteAt l (i + j)) (by omega) _ (by simp) (by simp; omega) (hI0.1.2.2.cell 0 rfl) hH0) keeps_t keeps_b (Below.refl _ _) (fun _ => rfl)
    (fun pre W => GetI w (.slice (some ⟨b, off + i, none⟩) k (c - i)) (pre.map fun x => x.1.2) W)
    (fun _ _ _ => False)
    (getI_own w _ _ _ (by simp; omega))
    (fun _ _ _ _ _ hs _ _ => hs)
    hI0
    (fun y => { tmps := (.slice (some ⟨b, off, none⟩) l.length c :: .int .i64 i :: .int .i64 k :: undef :: undef :: undef :: .int .u64 0 :: .int .i64 0 :: .pointer (some ⟨w.heap.size, 0, none⟩) :: .pointer (some ⟨w.heap.size + 1, 0, none⟩) :: undef :: .int .u8 y.1.2 :: .int .i64 k :: .bool true :: .bool false :: .bool false :: .slice (some ⟨b, off, none⟩) l.length c :: .int .i64 i :: .bool true :: .bool false :: .bool false :: .int .i64 k :: .slice (some ⟨b, off, none⟩) l.length c :: .int .i64 l.length :: .int .i64 i :: .int .i64 (l.length - i) :: .bool false :: .slice (some ⟨b, off, none⟩) l.length c :: .int .i64 i :: .int .i64 i :: .int .i64 k :: .int .i64 (i + k) :: .slice (some ⟨b, off + i, none⟩) k (c - i) :: .func (.func 47) #[] #[.pointer (some ⟨w.heap.size + 1 + 1, 0, none⟩)] :: .int .i64 (y.1.1 : Int) :: .int .u8 y.1.2 :: undef :: undef :: undef :: undef :: undef :: undef :: undef :: undef :: undef :: [] : List Value).toArray, defers := [] }) ?assign ?body ?done ?stop
  case assign =>
    intro r y W K hK
    simp only [encEl]
    gi_wp2
    exact hK
  case body =>
    clear c0 c1 c2 hB0 hI0 hH0 hsl hsize hplace
    rintro r pre y W ⟨⟨d0, d1, d2⟩, hB⟩ hlen
    have hst := getSt_snoc (pre.map fun x => x.1.2) y.1.2
    have hv0 : 0 ≤ y.1.2 := by rw [y.2.2]; unfold byteAt; omega
    have hv1 : y.1.2 ≤ 255 := by rw [y.2.2]; exact byteAt_le _ _
    have hm1 := getSt_bd (pre.map fun x => x.1.2) (fun v hv => by
      obtain ⟨z, _, rfl⟩ := List.mem_map.1 hv
      exact ⟨by rw [z.2.2]; unfold byteAt; omega, by rw [z.2.2]; exact byteAt_le _ _⟩)
    have hlen2 : (getSt (pre.map fun x => x.1.2)).2 = pre.length := by
      rw [getSt_length, List.length_map]
    generalize getSt (pre.map fun x => x.1.2) = st at *
    obtain ⟨m, q⟩ := st
    dsimp only at d0 d1 hlen2 hm1
    subst hlen2
    have HST := Lib.hid hst
    have e0 := d0.cell 0 rfl
    have f0 := d0.frozen 0
    have e1 := d1.cell 0 rfl
    have f1 := d1.frozen 0
    have e2 := d2.cell 0 rfl
    have HD0 := Lib.hid d0
    have HD1 := Lib.hid d1
    have HD2 := Lib.hid d2
    have HM := Lib.hid hm1
    clear d0 d1 d2 hst hm1
    have hmix : Try.prog.follows .mixedOrders = true := by kernel_rfl
    gi_wp2
    gi_region_with_o (fail)
    all_goals gi_wp2
    all_goals (try go_bits)
    all_goals (
      refine ⟨(((KeepsOthers.setCell _ _ _).trans (KeepsOthers.setCell _ _ _)).trans (KeepsOthers.drew _)).from _, ?_⟩
      exact get_round w W l b off i k (c - i) hb pre y m HM.out hv0 hv1 (by omega) HST.out HD0.out HD1.out HD2.out hB)
  case done =>
    clear c0 c1 c2 hB0 hI0 hH0 hsl hsize hplace
    rintro D ys W hD hdown ⟨⟨d0, d1, d2⟩, hB⟩ hK
    have e0 := d0.cell 0 rfl
    have HDn := Lib.hid hdown
    clear d0 d1 d2 hdown
    gi_wp2
    refine ⟨by simp, .inl ⟨_, _, rfl, run_takeDeferred hK, ?_⟩⟩
    refine ⟨_, results_tmp2 rfl _ _ _, ?_, hB.trans (belowK_b (w := w) (Nat.le_refl _) W D _ _ (by simp at hD; omega) hK rfl rfl)⟩
    have h2 := HDn.out
    unfold Down at h2
    simp only [List.range_zero, List.reverse_nil, List.append_nil] at h2
    have h3 : ys.map (fun x => x.1.2) = (List.range k).reverse.map fun j => byteAt l (i + j) := by
      rw [← h2, List.map_map]
      exact List.map_congr_left fun x _ => x.2.2
    rw [List.map_reverse] at h3
    rw [← h3]
    rfl
  case stop =>
    rintro D c pre W _ _ h _
    exact h.elim

end Go.Proofs.Ytlhbipommhljiaa
