/- What stands between slashes: the reference's way; its Path. -/
import Derived.Test.YtmmkoonnklfjkaaDoorNameWrite
namespace Go.Proofs.YtmmkoonnklfjkaaDoor
open Go.RowKit Go.Shelf Go.Lib Go.ChangeShapes Go.WideShapes Go.ChangeAt
set_option linter.unusedVariables false

theorem infoStr : (Tryd.prog.info? 9).map (fun i => (i.zero, i.size, i.bytes)) = some (some (.string ⟨#[]⟩), 1, 16) := by kernel_rfl
/-- texts as cells -/
def strsOf (l : List ByteArray) : List Value := l.map Value.string
theorem strsOf_length (l : List ByteArray) : (strsOf l).length = l.length := by simp [strsOf]
theorem strsOf_append (p q : List ByteArray) : strsOf (p ++ q) = strsOf p ++ strsOf q := by simp [strsOf]
theorem own_rds {w : World} {base n : Nat} {v : Value} {l : List ByteArray} (h : w.ownsRow base 9 1 v n (strsOf l)) (hn : n = l.length) : ∃ A c, v = .slice A l.length c ∧ RdS w A l ∧ l.length ≤ c ∧ c ≤ maxLen ∧ (A = none → l = [] ∧ c = 0) := by
  subst hn
  rcases h.2 with ⟨rfl, h0⟩ | ⟨g, cap, cur, rfl, hg, hgg, h1, h2, _⟩
  · have : l = [] := List.eq_nil_of_length_eq_zero h0
    subst this
    exact ⟨none, 0, rfl, .inl rfl, Nat.le_refl _, Nat.zero_le _, fun _ => ⟨rfl, rfl⟩⟩
  · refine ⟨some ⟨g, 0, none⟩, cap, rfl, .inr ⟨g, 0, rfl, fun j hj => ?_⟩, h1, h2, fun h => by cases h⟩
    have := h.cells (g := g) rfl j (.string l[j]) (by simp [strsOf, List.getElem?_eq_getElem hj])
    have e1 : (⟨g, 0, none⟩ : Addr).add j = ⟨g, 0 + j, none⟩ := by
      unfold Addr.add
      split <;> simp_all
    rw [e1] at this
    exact this

/-- what the reference hands back -/
def partsL (l : List UInt8) : List (List UInt8) := if l = [] then [] else splitL l
/-- from on nothing is cut yet; up to k there is no slash; ahead of it stand the parts pre -/
def PartI (s : ByteArray) (pre : List ByteArray) (f k : Nat) : Prop :=
  f ≤ k ∧ k ≤ s.size ∧ splitL (L s) = LL pre ++ splitL ((L s).drop f) ∧ (∀ j, f ≤ j → (h : j < k) → (L s)[j]? ≠ some 47) ∧ pre.length ≤ f
theorem PartI.start (s : ByteArray) : PartI s [] 0 0 := ⟨Nat.le_refl _, Nat.zero_le _, by simp [LL], fun j h1 h2 => by omega, Nat.le_refl _⟩
theorem PartI.plain {s : ByteArray} {pre : List ByteArray} {f k : Nat} (h : PartI s pre f k) (hk : k < s.size) (hc : s[k].toNat ≠ 47) : PartI s pre f (k + 1) := by
  refine ⟨by have := h.1; omega, hk, h.2.2.1, fun j h1 h2 => ?_, h.2.2.2.2⟩
  by_cases e : j = k
  · subst e
    rw [List.getElem?_eq_getElem (by rw [← L_size]; exact hk), ← L_get s j hk]
    intro e
    apply hc
    rw [Option.some.inj e]
    rfl
  · exact h.2.2.2.1 j h1 (by omega)
theorem mid_ne {s : ByteArray} {f k : Nat} (hk : k ≤ s.size) (h : ∀ j, f ≤ j → j < k → (L s)[j]? ≠ some 47) : ∀ c ∈ ((L s).drop f).take (k - f), c ≠ 47 := by
  intro c hc e
  subst e
  obtain ⟨j, hj, hj2⟩ := List.mem_iff_getElem.1 hc
  rw [List.length_take, List.length_drop, ← L_size] at hj
  rw [List.getElem_take, List.getElem_drop] at hj2
  refine h (f + j) (by omega) (by omega) ?_
  rw [List.getElem?_eq_getElem (by rw [← L_size]; omega), hj2]
theorem L_extract (s : ByteArray) (a b : Nat) : L (s.extract a b) = ((L s).drop a).take (b - a) := Lib.extract_data s a b
theorem PartI.cut {s : ByteArray} {pre : List ByteArray} {f k : Nat} (h : PartI s pre f k) (hk : k < s.size) (hc : s[k].toNat = 47) : PartI s (pre ++ [s.extract f k]) (k + 1) (k + 1) := by
  have h1 := h.1
  have hlen : ((L s).drop f).length = s.size - f := by rw [List.length_drop, ← L_size]
  have hcc : s[k] = 47 := UInt8.toNat_inj.1 hc
  have e : (L s).drop f = ((L s).drop f).take (k - f) ++ 47 :: (L s).drop (k + 1) := by
    conv => lhs; rw [← List.take_append_drop (k - f) ((L s).drop f)]
    congr 1
    rw [List.drop_drop, show f + (k - f) = k by omega, List.drop_eq_getElem_cons (by rw [← L_size]; exact hk), ← L_get s k hk, hcc]
  refine ⟨Nat.le_refl _, hk, ?_, fun j h1 h2 => by omega, ?_⟩
  · rw [h.2.2.1]
    conv => lhs; rw [e]
    rw [split_part _ _ (mid_ne (by omega) h.2.2.2.1)]
    simp only [LL, List.map_append, List.map_cons, List.map_nil, List.append_assoc, List.cons_append, List.nil_append]
    rw [L_extract]
  · rw [List.length_append, List.length_cons, List.length_nil]
    have := h.2.2.2.2
    omega
theorem PartI.over {s : ByteArray} {pre : List ByteArray} {f k : Nat} (h : PartI s pre f k) (hk : ¬ k < s.size) : splitL (L s) = LL (pre ++ [s.extract f s.size]) ∧ pre.length ≤ s.size := by
  have hks : k = s.size := by have := h.2.1; omega
  subst hks
  have hlen : ((L s).drop f).length = s.size - f := by rw [List.length_drop, ← L_size]
  have hm := mid_ne (f := f) (Nat.le_refl _) h.2.2.2.1
  rw [List.take_of_length_le (by omega)] at hm
  refine ⟨?_, by have := h.1; have := h.2.2.2.2; omega⟩
  rw [h.2.2.1, split_last _ hm]
  simp only [LL, List.map_append, List.map_cons, List.map_nil]
  rw [L_extract, List.take_of_length_le (by omega)]

/-- what parts hands back -/
def PartsRet (s : ByteArray) (B : Nat) (w : World) (e : Ending) (W' : World) : Prop :=
  ∃ v, ∃ l : List ByteArray, e = .returned v ∧ W'.ownsRow B 9 1 v l.length (strsOf l) ∧ LL l = partsL (L s) ∧ Below B w W'

set_option maxRecDepth 100000 in
set_option maxHeartbeats 2000000 in
theorem parts_ref (s : ByteArray) (hs : s.size ≤ 1048576) (w : World) :
    Calls Tryd.prog 25 #[.string s] w fun e w' => PartsRet s w.heap.size w e w' := by
  obtain ⟨i0, hi, hz0, hz1, hz2⟩ := info_parts infoStr
  by_cases h0 : s.toList = []
  · have b0 : s.toList.isEmpty = true := by rw [h0]; rfl
    have hL : L s = [] := by rw [← toList_L]; exact h0
    clear h0
    go_enter Tryd.func25, Tryd.ntmps25
    go_wp2
    go_ret
    exact ⟨_, [], rfl, World.ownsRow_nil _ _ _ _, by simp [LL, partsL, hL], Below.refl _ _⟩
  have b0 : s.toList.isEmpty = false := by simpa using h0
  have hL : L s ≠ [] := by rw [← toList_L]; exact h0
  have HL := Lib.hid hL
  clear h0 hL
  go_enter Tryd.func25, Tryd.ntmps25
  go_wp2
  clear b0
  go_loopw [3, 4, 5] (fun v a j wr => ∃ (pre : List ByteArray) (f k : Nat), a = .int .i64 f ∧ j = .int .i64 k ∧ PartI s pre f k ∧ wr.ownsRow w.heap.size 9 1 v pre.length (strsOf pre) ∧ Below w.heap.size w wr) (fun _ _ j _ => s.size - (RowKit.intOf j).toNat)
  case atStart => exact ⟨[], 0, 0, rfl, rfl, PartI.start s, World.ownsRow_nil _ _ _ _, Below.refl _ _⟩
  case round =>
    obtain ⟨pre, f, k, rfl, rfl, hI, hown, hB⟩ := hrel
    have hf := hI.1
    have hkk := hI.2.1
    have hpre := hI.2.2.2.2
    have hBs := hB.size
    by_cases hk : k < s.size
    · have hp := fun h => hI.plain hk h
      have hq := fun h => hI.cut hk h
      generalize hc : s[k] = c at *
      have hcl := c.toNat_lt
      have hcz : ((s[k]'hk).toNat : Int) = (c.toNat : Int) := by rw [hc]
      generalize c.toNat = x at *
      have HP := Lib.hid hp
      have HQ := Lib.hid hq
      clear hp hq hc hI
      by_cases x0 : x = 47
      · have y0 : ((x : Int) == 47) = true := by simp; omega
        have hn := Lib.hid (HQ.out x0)
        have hx2 : (x : Int) < 256 := by omega
        clear x0
        have HO := Lib.hid hown
        clear hown
        generalize hex : s.extract f k = ex at *
        go_wp2_with (at_builtin; refine wpList_append_own _ rfl (.tmp 19) (.tmp 24) 26 rfl w.heap.size 9 i0 (.string ⟨#[]⟩) 1 16 Tryd.underlying26 hi hz0 hz1 hz2 rfl (by decide) _ pre.length (strsOf pre) rfl (HO.out.alloc _) ⟨wr.heap.size, 0, none⟩ 1 1 (strsOf [ex]) rfl rfl (cell_one_new _ _ _) (by intro u hu; simp [strsOf] at hu; subst hu; rfl) (by unfold maxLen; omega) (by omega) (by simp; omega) ?_; intro v' w1 hown' hgrow _; rw [← strsOf_append] at hown')
        have HW := Lib.hid hown'
        have hB1 := (hB.alloc hBs (.cells #[.string ex] 9)).grown hgrow (by simp; omega) (own_base HO.out)
        clear hown' hgrow
        go_roundw
        case rel => exact ⟨pre ++ [ex], k + 1, k + 1, by go_num, by go_num, hn.out, by rw [List.length_append]; exact HW.out, hB1⟩
        case measure => simp [RowKit.intOf]; omega
      · have y0 : ((x : Int) == 47) = false := by simp; omega
        have hx2 : (x : Int) < 256 := by omega
        have hn := Lib.hid (HP.out x0)
        clear x0
        have HO := Lib.hid hown
        clear hown
        go_wp2
        go_roundw
        case rel => exact ⟨pre, f, k + 1, rfl, by go_num, hn.out, HO.out, hB⟩
        case measure => simp [RowKit.intOf]; omega
    · have hv := Lib.hid (hI.over hk)
      have HO := Lib.hid hown
      clear hI hown
      have hps : pre.length ≤ s.size := hv.out.2
      generalize hex : s.extract f s.size = ex at *
      go_wp2_with (at_builtin; refine wpList_append_own _ rfl (.tmp 28) (.tmp 32) 26 rfl w.heap.size 9 i0 (.string ⟨#[]⟩) 1 16 Tryd.underlying26 hi hz0 hz1 hz2 rfl (by decide) _ pre.length (strsOf pre) rfl (HO.out.alloc _) ⟨wr.heap.size, 0, none⟩ 1 1 (strsOf [ex]) rfl rfl (cell_one_new _ _ _) (by intro u hu; simp [strsOf] at hu; subst hu; rfl) (by unfold maxLen; omega) (by omega) (by simp; omega) ?_; intro v' w1 hown' hgrow _; rw [← strsOf_append] at hown')
      have hB1 := (hB.alloc hBs (.cells #[.string ex] 9)).grown hgrow (by simp; omega) (own_base HO.out)
      go_ret
      refine ⟨_, pre ++ [ex], rfl, by rw [List.length_append]; exact hown', ?_, hB1⟩
      rw [partsL, if_neg HL.out, hv.out.1]

/-- what Path hands back -/
def PathRet (s : ByteArray) (B : Nat) (w : World) (e : Ending) (W' : World) : Prop :=
  ∃ A c, ∃ l : List ByteArray, e = .returned (.tuple #[.slice A l.length c, .int .i64 (pathL (L s)).2]) ∧ LL l = (pathL (L s)).1 ∧ RdS W' A l ∧ (A = none → l = [] ∧ c = 0) ∧ l.length ≤ c ∧ c ≤ maxLen ∧ Below B w W'
theorem pathL_form {s : ByteArray} {l : List ByteArray} (h : LL l = partsL (L s)) : pathL (L s) = if (LL l).all nameL = false then ([], 5) else if 4 < l.length then ([], 3) else (LL l, 0) := by
  unfold pathL
  unfold partsL at h
  split at h
  · rename_i h0
    rw [if_pos h0, h]
    have : l = [] := by
      have := congrArg List.length h
      rw [LL_length] at this
      exact List.eq_nil_of_length_eq_zero this
    subst this
    rfl
  · rename_i h0
    rw [if_neg h0, ← h, LL_length]
theorem parts_len (s : ByteArray) (l : List ByteArray) (h : LL l = partsL (L s)) : l.length ≤ s.size + 1 := by
  have hl : ∀ q : List UInt8, (splitL q).length ≤ q.length + 1 := by
    intro q
    induction q with
    | nil => simp [splitL]
    | cons c r ih =>
      simp only [splitL]
      split
      · simp; omega
      · split <;> rename_i hh <;> rw [hh] at ih <;> simp at ih ⊢ <;> omega
  have := congrArg List.length h
  rw [LL_length] at this
  unfold partsL at this
  split at this
  · rw [this]; simp
  · rw [this, L_size]; exact hl _

set_option maxRecDepth 100000 in
set_option maxHeartbeats 2000000 in
theorem Path_ref (s : ByteArray) (hs : s.size ≤ 1048576) (w : World) :
    Calls Tryd.prog 13 #[.string s] w fun e w' => PathRet s w.heap.size w e w' := by
  have hpt := parts_ref s hs w
  go_enter Tryd.func13, Tryd.ntmps13
  go_wp2_with fail
  refine hpt.mono ?_
  clear hpt
  rintro e w1 ⟨v, l, rfl, hown, hL, hB⟩
  have hlen := parts_len s l hL
  have hform := pathL_form hL
  obtain ⟨A, c, rfl, hrd, hlc, hcm, hnil⟩ := own_rds hown rfl
  have HF := Lib.hid hform
  have HR := Lib.hid hrd
  have HN := Lib.hid hnil
  clear hown hL hform hrd hnil
  have HC := Lib.hid hcm
  clear hcm
  go_wp2
  go_loop [5] (fun j => ∃ k : Nat, j = .int .i64 k ∧ NamesI l k) (fun j => l.length - (RowKit.intOf j).toNat)
  case atStart => exact ⟨0, rfl, NamesI.start l⟩
  case round =>
    obtain ⟨k, rfl, hI⟩ := hrel
    by_cases hk : k < l.length
    · obtain ⟨b, off, rfl, hc⟩ : ∃ b off, A = some ⟨b, off, none⟩ ∧ ∀ j (h : j < l.length), w1.cell? ⟨b, off + j, none⟩ = some (.string l[j]) := by
        rcases HR.out with h | h
        · rw [h] at hk; simp at hk
        · exact h
      have hcell := hc k hk
      have hx := fun hc => names_no l k hk hc
      have hy := fun hc => hI.next hk hc
      have his := Is_ref l[k] w1
      generalize l[k] = t at *
      have HX := Lib.hid hx
      have HY := Lib.hid hy
      clear hx hy hc hI
      cases hn : nameL (L t)
      · have hf := Lib.hid (HX.out hn)
        rw [hn] at his
        clear hn
        go_wp2_with fail
        refine his.mono ?_
        clear his
        rintro e _ ⟨rfl, rfl⟩
        go_wp2
        go_ret2
        have hp : pathL (L s) = ([], 5) := by rw [HF.out, if_pos hf.out]
        exact ⟨none, 0, [], by rw [hp]; rfl, by rw [hp]; rfl, .inl rfl, fun _ => ⟨rfl, rfl⟩, Nat.le_refl _, Nat.zero_le _, hB⟩
      · have hf := Lib.hid (HY.out hn)
        rw [hn] at his
        clear hn
        go_wp2_with fail
        refine his.mono ?_
        clear his
        rintro e _ ⟨rfl, rfl⟩
        go_wp2
        go_round
        case rel => exact ⟨k + 1, by go_num, hf.out⟩
        case measure => simp [RowKit.intOf]; omega
    · have hv := Lib.hid (hI.over hk)
      clear hI
      by_cases h4 : (4 : Int) < (l.length : Int)
      · go_wp2
        go_ret2
        have hp : pathL (L s) = ([], 3) := by rw [HF.out, if_neg (by rw [hv.out]; decide), if_pos (by omega)]
        exact ⟨none, 0, [], by rw [hp]; rfl, by rw [hp]; rfl, .inl rfl, fun _ => ⟨rfl, rfl⟩, Nat.le_refl _, Nat.zero_le _, hB⟩
      · have d4 : decide ((4 : Int) < (l.length : Int)) = false := by simpa using h4
        have hp := Lib.hid (show pathL (L s) = (LL l, 0) by rw [HF.out, if_neg (by rw [hv.out]; decide), if_neg (by omega)])
        clear h4
        go_wp2
        go_ret2
        exact ⟨A, c, l, by rw [hp.out]; rfl, by rw [hp.out], HR.out, HN.out, hlc, HC.out, hB⟩
end Go.Proofs.YtmmkoonnklfjkaaDoor
