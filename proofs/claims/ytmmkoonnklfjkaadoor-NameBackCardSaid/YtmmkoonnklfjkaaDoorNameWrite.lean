/- Write: the builder's way, and the reference's. -/
import Derived.Test.YtmmkoonnklfjkaaDoorNameStrs
import Derived.Test.YtmmkoonnklfjkaaDoorNameBld
namespace Go.Proofs.YtmmkoonnklfjkaaDoor
open Go.RowKit Go.Shelf Go.Lib Go.ChangeShapes Go.WideShapes Go.ChangeAt
set_option linter.unusedVariables false

theorem join_snoc : ∀ (p : List (List UInt8)) (x : List UInt8), joinL (p ++ [x]) = if p = [] then x else joinL p ++ 47 :: x
  | [], x => rfl
  | [p], x => by simp [joinL]
  | p :: q :: r, x => by
    have ih := join_snoc (q :: r) x
    rw [if_neg (by simp)] at ih ⊢
    show p ++ 47 :: joinL ((q :: r) ++ [x]) = _
    rw [ih]
    simp [joinL]
theorem take_next (l : List ByteArray) (k : Nat) (hk : k < l.length) : (LL l).take (k + 1) = (LL l).take k ++ [L l[k]] := by
  rw [List.take_succ_eq_append_getElem (by rw [LL_length]; exact hk), LL_get l k hk]
theorem join_first (l : List ByteArray) (hk : 0 < l.length) : joinL ((LL l).take 1) = L l[0] := by
  rw [take_next l 0 hk, join_snoc]
  simp
theorem join_next (l : List ByteArray) (k : Nat) (hk : k < l.length) (h0 : 0 < k) : joinL ((LL l).take (k + 1)) = joinL ((LL l).take k) ++ 47 :: L l[k] := by
  rw [take_next l k hk, join_snoc, if_neg]
  intro e
  have := congrArg List.length e
  rw [List.length_take, LL_length, List.length_nil] at this
  omega
theorem name_short {l : List UInt8} (h : nameL l = true) : l.length ≤ 32 := by
  simp only [nameL, Bool.and_eq_true, decide_eq_true_eq] at h
  exact h.1.1.1.2
theorem join_len (l : List ByteArray) (h : mayL (LL l) = true) : ∀ k, k ≤ l.length → (joinL ((LL l).take k)).length ≤ 33 * k
  | 0, _ => by simp [joinL]
  | k + 1, hk => by
    have ih := join_len l h k (by omega)
    simp only [mayL, Bool.and_eq_true] at h
    have hn := name_short (List.all_eq_true.1 h.2 (L l[k]) (by rw [← LL_get l k hk]; exact List.getElem_mem _))
    rw [take_next l k hk, join_snoc]
    split
    · omega
    · rw [List.length_append, List.length_cons]; omega

theorem strCells_L (s : ByteArray) : Lib.strCells s = Lib.byteCells (L s) := rfl
theorem slash_size : (⟨#[47]⟩ : ByteArray).size = 1 := rfl
theorem slash_cells : Lib.strCells ⟨#[47]⟩ = Lib.byteCells [47] := rfl

/-- what Write answers -/
def writeV (l : List (List UInt8)) : Value := .tuple #[.string ⟨(writeL l).1.toArray⟩, .int .i64 (writeL l).2]

/-- the builder holds the first k -/
def WrI (l : List ByteArray) (B k : Nat) (w wr : World) : Prop := Lib.IsBuilderF 49 5 B B (Lib.byteCells (joinL ((LL l).take k))) wr ∧ Below B w wr

set_option maxHeartbeats 2000000 in
theorem Write_any (l : List ByteArray) (A : Option Addr) (c : Nat) (w : World) (hl : l.length ≤ 140737488355328) (hr : RdS w A l) (hT : Tabs w) :
    Calls Tryd.prog 14 #[.slice A l.length c] w fun e w' => e = .returned (writeV (LL l)) ∧ Below w.heap.size w w' := by
  have hmay := May_any l A c w hl hr hT
  cases hm : mayL (LL l)
  · have hv : writeV (LL l) = .tuple #[.string ⟨#[]⟩, .int .i64 2] := by simp [writeV, writeL, hm]
    rw [hv]
    rw [hm] at hmay
    clear hm hv hr hT
    go_enter Tryd.func14, Tryd.ntmps14
    go_wp2_with fail
    refine hmay.mono ?_
    clear hmay
    rintro e w2 ⟨rfl, hb2⟩
    go_wp2
    go_ret2
    exact ⟨rfl, hb2⟩
  · have hv : writeV (LL l) = .tuple #[.string ⟨(joinL (LL l)).toArray⟩, .int .i64 0] := by simp [writeV, writeL, hm]
    rw [hm] at hmay
    have h4 : l.length ≤ 4 := by rw [mayL_def] at hm; simp at hm; exact hm.1
    have hjl := join_len l hm
    have hsz : ∀ k (h : k < l.length), l[k].size ≤ 32 := fun k h => by
      rw [L_size]
      simp only [mayL, Bool.and_eq_true] at hm
      exact name_short (List.all_eq_true.1 hm.2 (L l[k]) (by rw [← LL_get l k h]; exact List.getElem_mem _))
    have HV := Lib.hid hv
    have HJ := Lib.hid hjl
    have HS := Lib.hid hsz
    have HR := Lib.hid hr
    clear hv hjl hsz hm hr hT
    go_enter Tryd.func14, Tryd.ntmps14
    go_wp2_with fail
    refine hmay.mono ?_
    clear hmay
    rintro e w2 ⟨rfl, hb2⟩
    have hR2 := HR.out.below hb2
    have HR2 := Lib.hid hR2
    have hI0 : WrI l w2.heap.size 0 w2 (w2.alloc (.cells #[.pointer none, .slice none 0 0] 49)) := ⟨Lib.IsBuilderF.of (Lib.fresh_isBuilder _ _ w2), (Below.refl _ _).alloc (Nat.le_refl _) _⟩
    have HI0 := Lib.hid hI0
    clear hI0 hR2
    go_wp2_with fail
    go_loopw [12] (fun j wr => ∃ k : Nat, j = .int .i64 k ∧ k ≤ l.length ∧ WrI l w2.heap.size k w2 wr) (fun j _ => l.length - (RowKit.intOf j).toNat)
    case atStart => exact ⟨0, rfl, Nat.zero_le _, HI0.out⟩
    case round =>
      obtain ⟨k, rfl, hkl, hI, hB⟩ := hrel
      have hBs := hB.size
      by_cases hk : k < l.length
      · obtain ⟨b, off, rfl, hc⟩ : ∃ b off, A = some ⟨b, off, none⟩ ∧ ∀ j (h : j < l.length), wr.cell? ⟨b, off + j, none⟩ = some (.string l[j]) := by
          rcases HR2.out.below hB with h | h
          · rw [h] at hk; simp at hk
          · exact h
        have hcell := hc k hk
        have hss := HS.out k hk
        have hlen := HJ.out k hkl
        by_cases h0 : k = 0
        · subst h0
          simp only [Nat.add_zero] at hcell
          have hst := WriteString_k w2.heap.size w2.heap.size _ l[0] wr hI (by rw [Lib.byteCells_length]; omega) hBs
          rw [strCells_L, ← Lib.byteCells_append, show joinL ((LL l).take 0) ++ L l[0] = joinL ((LL l).take (0 + 1)) by rw [Nat.zero_add, join_first l hk]; simp [joinL]] at hst
          generalize hsx : l[0] = sx at *
          clear hc hI hsx
          go_wp2_with fail
          refine hst.mono ?_
          clear hst
          rintro e w3 ⟨rfl, hb3, hbel3, -⟩
          have HB3 := Lib.hid hb3
          clear hb3
          go_wp2
          go_roundw
          case rel => exact ⟨1, by go_num, by omega, .inr HB3.out, hB.trans hbel3⟩
          case measure => simp [RowKit.intOf]; omega
        · have d0 : 0 < k := by omega
          have hst := WriteString_k w2.heap.size w2.heap.size _ ⟨#[47]⟩ wr hI (by rw [Lib.byteCells_length, slash_size]; omega) hBs
          rw [slash_cells, ← Lib.byteCells_append] at hst
          have hjn := join_next l k hk (by omega)
          generalize hsx : l[k] = sx at *
          clear hc hI hsx h0
          have HJN := Lib.hid hjn
          clear hjn
          go_wp2_with fail
          refine hst.mono ?_
          clear hst
          rintro e w3 ⟨rfl, hb3, hbel3, -⟩
          have hB3 := hB.trans hbel3
          have hst := WriteString_k w2.heap.size w2.heap.size _ sx w3 (.inr hb3) (by rw [Lib.byteCells_length, List.length_append]; simp; omega) hB3.size
          rw [strCells_L, ← Lib.byteCells_append, List.append_assoc, show ([47] : List UInt8) ++ L sx = 47 :: L sx from rfl, ← HJN.out] at hst
          clear hb3
          go_wp2_with fail
          refine hst.mono ?_
          clear hst
          rintro e w4 ⟨rfl, hb4, hbel4, -⟩
          have HB4 := Lib.hid hb4
          clear hb4
          go_wp2
          go_roundw
          case rel => exact ⟨k + 1, by go_num, by omega, .inr HB4.out, hB3.trans hbel4⟩
          case measure => simp [RowKit.intOf]; omega
      · have hstr := Tryd.Builder_String_any_k w2.heap.size w2.heap.size (joinL ((LL l).take k)) wr hI hBs
        rw [List.take_of_length_le (by rw [LL_length]; omega)] at hstr
        clear hI
        go_wp2_with fail
        refine hstr.mono ?_
        clear hstr
        rintro e w3 ⟨rfl, -, hbel3, -⟩
        go_wp2
        go_ret2
        exact ⟨by rw [HV.out]; first | done | rfl, hb2.trans ((hB.trans hbel3).mono hb2.size)⟩

/-- the text so far -/
def WrT (l : List ByteArray) (k : Nat) (s : ByteArray) : Prop := L s = joinL ((LL l).take k) ∧ k ≤ l.length

set_option maxHeartbeats 2000000 in
theorem Write_ref (l : List ByteArray) (A : Option Addr) (c : Nat) (w : World) (hl : l.length ≤ 140737488355328) (hr : RdS w A l) :
    Calls Tryd.prog 15 #[.slice A l.length c] w fun e w' => e = .returned (writeV (LL l)) ∧ w = w' := by
  have hmay := May_ref l A c w hl hr
  cases hm : mayL (LL l)
  · have hv : writeV (LL l) = .tuple #[.string ⟨#[]⟩, .int .i64 2] := by simp [writeV, writeL, hm]
    rw [hv]
    rw [hm] at hmay
    clear hm hv hr
    go_enter Tryd.func15, Tryd.ntmps15
    go_wp2_with fail
    refine hmay.mono ?_
    clear hmay
    rintro e _ ⟨rfl, rfl⟩
    go_wp2
    go_ret2
    exact ⟨rfl, rfl⟩
  · have hv : writeV (LL l) = .tuple #[.string ⟨(joinL (LL l)).toArray⟩, .int .i64 0] := by simp [writeV, writeL, hm]
    rw [hm] at hmay
    have h4 : l.length ≤ 4 := by rw [mayL_def] at hm; simp at hm; exact hm.1
    have hjl := join_len l hm
    have hsz : ∀ k (h : k < l.length), l[k].size ≤ 32 := fun k h => by
      rw [L_size]
      simp only [mayL, Bool.and_eq_true] at hm
      exact name_short (List.all_eq_true.1 hm.2 (L l[k]) (by rw [← LL_get l k h]; exact List.getElem_mem _))
    have HV := Lib.hid hv
    have HJ := Lib.hid hjl
    have HS := Lib.hid hsz
    have HR := Lib.hid hr
    clear hv hjl hsz hm hr
    go_enter Tryd.func15, Tryd.ntmps15
    go_wp2_with fail
    refine hmay.mono ?_
    clear hmay
    rintro e _ ⟨rfl, rfl⟩
    go_wp2_with fail
    go_loop [4, 5] (fun v j => ∃ (k : Nat) (s : ByteArray), v = .string s ∧ j = .int .i64 k ∧ WrT l k s) (fun _ j => l.length - (RowKit.intOf j).toNat)
    case atStart => exact ⟨0, ⟨#[]⟩, rfl, rfl, rfl, Nat.zero_le _⟩
    case round =>
      obtain ⟨k, s, rfl, rfl, hI, hkl⟩ := hrel
      by_cases hk : k < l.length
      · obtain ⟨b, off, rfl, hc⟩ : ∃ b off, A = some ⟨b, off, none⟩ ∧ ∀ j (h : j < l.length), w.cell? ⟨b, off + j, none⟩ = some (.string l[j]) := by
          rcases HR.out with h | h
          · rw [h] at hk; simp at hk
          · exact h
        have hcell := hc k hk
        have hss := HS.out k hk
        have hlen := HJ.out k hkl
        rw [← hI, ← L_size] at hlen
        by_cases h0 : k = 0
        · subst h0
          simp only [Nat.add_zero] at hcell
          have hnew : L (s ++ l[0]) = joinL ((LL l).take 1) := by
            rw [join_first l hk]
            have : L s = [] := by rw [hI]; simp [joinL]
            simp only [L] at this ⊢
            rw [ByteArray.data_append, Array.toList_append, this, List.nil_append]
          generalize hsx : l[0] = sx at *
          have HN := Lib.hid hnew
          clear hc hI hsx hnew
          go_wp2
          go_round
          case rel => exact ⟨1, _, rfl, by go_num, HN.out, by omega⟩
          case measure => simp [RowKit.intOf]; omega
        · have d0 : 0 < k := by omega
          have hnew : L (s ++ ⟨#[47]⟩ ++ l[k]) = joinL ((LL l).take (k + 1)) := by
            rw [join_next l k hk d0, ← hI]
            simp only [L]
            rw [ByteArray.data_append, Array.toList_append, ByteArray.data_append, Array.toList_append]
            simp
          generalize hsx : l[k] = sx at *
          have HN := Lib.hid hnew
          clear hc hI hsx hnew h0
          go_wp2
          go_round
          case rel => exact ⟨k + 1, _, rfl, by go_num, HN.out, by omega⟩
          case measure => simp [RowKit.intOf]; omega
      · have hfin : (⟨(joinL (LL l)).toArray⟩ : ByteArray) = s := by
          rw [List.take_of_length_le (by rw [LL_length]; omega)] at hI
          rw [← hI]
        have HF := Lib.hid hfin
        clear hI hfin
        go_wp2
        go_ret2
        exact ⟨by rw [HV.out, HF.out]; first | done | rfl, rfl⟩
end Go.Proofs.YtmmkoonnklfjkaaDoor
