/- Which names of a reply may be. -/
import Derived.Test.YtboalmmpcfiicaaDoorBac1
import Derived.Test.YtboalmmpcfiicaaDoorNameStrs
namespace Go.Proofs.YtboalmmpcfiicaaDoor
open Go.RowKit Go.Shelf Go.Lib
set_option linter.unusedVariables false
set_option maxRecDepth 100000
set_option linter.unusedSimpArgs false

theorem less_is : ∀ a b : List UInt8, Op.bytesLess a b = lessB a b
  | [], [] => by simp [Op.bytesLess, lessB]
  | [], b :: q => by simp [Op.bytesLess, lessB]
  | a :: p, [] => by simp [Op.bytesLess, lessB]
  | a :: p, b :: q => by
    have ih := less_is p q
    unfold lessB at ih
    unfold Op.bytesLess lessB
    rw [ih]
    by_cases h1 : a < b
    · simp [h1, List.cons_lt_cons_iff]
    · by_cases h2 : a = b
      · subst h2
        simp [List.cons_lt_cons_iff]
      · simp [h1, h2, List.cons_lt_cons_iff]
theorem leq_is (a b : List UInt8) : (Op.bytesLess a b || (a == b)) = !lessB b a := by
  rw [less_is]
  unfold lessB
  by_cases h : a < b
  · simp [h, List.lt_asymm h]
  · by_cases e : a = b
    · subst e
      simp [List.lt_irrefl]
    · have : b < a := by
        by_cases h2 : b < a
        · exact h2
        · exact absurd (List.le_antisymm (List.not_lt.1 h2) (List.not_lt.1 h)) e
      simp [h, e, this]
/-- the first k are names, and rise -/
def NamesR (l : List ByteArray) (k : Nat) : Prop := k ≤ l.length ∧ (List.range k).all (nameAtB l) = true
theorem NamesR.start (l : List ByteArray) : NamesR l 0 := ⟨Nat.zero_le _, rfl⟩
theorem NamesR.next {l : List ByteArray} {k : Nat} (h : NamesR l k) (hk : k < l.length) (hc : nameAtB l k = true) : NamesR l (k + 1) := by
  refine ⟨hk, ?_⟩
  rw [List.range_succ, List.all_append, h.2]
  simp [hc]
theorem namesR_no {l : List ByteArray} {k : Nat} (hk : k < l.length) (hc : nameAtB l k = false) : namesB l = false := by
  unfold namesB
  rw [List.all_eq_false]
  exact ⟨k, List.mem_range.2 hk, by rw [hc]; decide⟩
theorem NamesR.over {l : List ByteArray} {k : Nat} (h : NamesR l k) (hk : ¬ k < l.length) : namesB l = true := by
  have : k = l.length := by have := h.1; omega
  subst this
  exact h.2
theorem txAt_is (l : List ByteArray) (k : Nat) (h : k < l.length) : txAt l k = L l[k] := by
  unfold txAt
  rw [List.getD_eq_getElem?_getD, List.getElem?_eq_getElem h]
  rfl
theorem nameAt_zero (l : List ByteArray) (h : 0 < l.length) : nameAtB l 0 = nameL (L l[0]) := by
  unfold nameAtB
  rw [txAt_is l 0 h]
  simp
theorem nameAt_succ (l : List ByteArray) (k : Nat) (h : k + 1 < l.length) : nameAtB l (k + 1) = (nameL (L l[k + 1]) && lessB (L l[k]) (L l[k + 1])) := by
  unfold nameAtB
  rw [txAt_is l (k + 1) h, Nat.add_sub_cancel, txAt_is l k (by omega)]
  have : ((k + 1 : Nat) == 0) = false := by simp
  rw [this, Bool.false_or]
theorem RdS.get {w : World} {A : Option Addr} {l : List ByteArray} (h : RdS w A l) {k : Nat} (hk : k < l.length) : ∃ b off, A = some ⟨b, off, none⟩ ∧ ∀ j (h : j < l.length), w.cell? ⟨b, off + j, none⟩ = some (.string l[j]) := by
  rcases h with h | h
  · rw [h] at hk; simp at hk
  · exact h
set_option maxHeartbeats 4000000 in
theorem mayNames_v (l : List ByteArray) (A : Option Addr) (c : Nat) (w : World) (hr : RdS w A l) (hT : Tabs w) :
    Calls Tryd.prog 44 #[.slice A l.length c] w fun e w' => e = .returned (.bool (decide (l.length ≤ 32) && namesB l)) ∧ Below w.heap.size w w' := by
  by_cases h4 : (32 : Int) < (l.length : Int)
  · rw [decide_eq_false (show ¬ l.length ≤ 32 by omega), Bool.false_and]
    go_enter Tryd.func44, Tryd.ntmps44
    go_wp2
    go_ret
    exact ⟨rfl, Below.refl _ _⟩
  rw [decide_eq_true (show l.length ≤ 32 by omega), Bool.true_and]
  have d4 : decide ((32 : Int) < (l.length : Int)) = false := by simpa using h4
  have hl : l.length ≤ 32 := by omega
  have HT := Lib.hid hT
  have HR := Lib.hid hr
  clear hT hr h4
  go_enter Tryd.func44, Tryd.ntmps44
  go_wp2
  go_loopw [10] (fun j wr => ∃ k : Nat, j = .int .i64 k ∧ NamesR l k ∧ Below w.heap.size w wr) (fun j _ => l.length - (RowKit.intOf j).toNat)
  case atStart => exact ⟨0, rfl, NamesR.start l, Below.refl _ _⟩
  case round =>
    obtain ⟨k, rfl, hI, hB⟩ := hrel
    by_cases hk : k < l.length
    · obtain ⟨b, off, rfl, hc⟩ := (HR.out.below hB).get hk
      have hcell := hc k hk
      have his := Is_any l[k] wr (HT.out.below hB)
      cases hn : nameL (L l[k])
      · have hf := Lib.hid (namesR_no hk (show nameAtB l k = false by unfold nameAtB; rw [txAt_is l k hk, hn]; rfl))
        rw [hn] at his
        generalize l[k] = s at *
        clear hn hc hI
        go_wp2_with fail
        refine his.mono ?_
        clear his
        rintro e w2 ⟨rfl, hb2⟩
        go_wp2
        go_ret
        exact ⟨by rw [hf.out]; first | done | rfl, hB.trans (hb2.mono hB.size)⟩
      · rw [hn] at his
        rcases k with _ | k
        · simp only [Nat.add_zero] at hcell
          have hf := Lib.hid (hI.next hk (by rw [nameAt_zero l hk]; exact hn))
          generalize l[0] = s at *
          clear hn hc hI
          go_wp2_with fail
          refine his.mono ?_
          clear his
          rintro e w2 ⟨rfl, hb2⟩
          go_wp2
          go_roundw
          case rel => exact ⟨0 + 1, by go_num, hf.out, hB.trans (hb2.mono hB.size)⟩
          case measure => simp [RowKit.intOf]; omega
        · have hk' : k < l.length := by omega
          have hprev := hc k hk'
          have hs := nameAt_succ l k hk
          rw [hn, Bool.true_and] at hs
          have hle := leq_is (L l[k + 1]) (L l[k])
          have hnx := fun hc => hI.next hk hc
          have hno := fun hc => namesR_no hk hc
          rw [hs] at hnx hno
          have HX := Lib.hid hnx
          have HN := Lib.hid hno
          rw [← toList_L, ← toList_L] at hle
          clear hnx hno hs hn hc hI
          generalize l[k] = s0 at *
          generalize l[k + 1] = s1 at *
          cases hls : lessB (L s0) (L s1)
          · have hf := Lib.hid (HN.out hls)
            rw [toList_L s0, toList_L s1, hls, ← toList_L, ← toList_L] at hle
            clear HX HN hls
            go_wp2_with fail
            refine his.mono ?_
            clear his
            rintro e w2 ⟨rfl, hb2⟩
            have hp2 := cell_b (hb2.mono (Nat.le_refl _)) hprev
            go_wp2
            go_ret
            exact ⟨by rw [hf.out]; first | done | rfl, hB.trans (hb2.mono hB.size)⟩
          · have hf := Lib.hid (HX.out hls)
            rw [toList_L s0, toList_L s1, hls, ← toList_L, ← toList_L] at hle
            clear HX HN hls
            go_wp2_with fail
            refine his.mono ?_
            clear his
            rintro e w2 ⟨rfl, hb2⟩
            have hp2 := cell_b (hb2.mono (Nat.le_refl _)) hprev
            go_wp2
            go_roundw
            case rel => exact ⟨k + 1 + 1, by go_num, hf.out, hB.trans (hb2.mono hB.size)⟩
            case measure => simp [RowKit.intOf]; omega
    · have hv := Lib.hid (hI.over hk)
      clear hI
      go_wp2
      go_ret
      exact ⟨by rw [hv.out]; first | done | rfl, hB⟩

end Go.Proofs.YtboalmmpcfiicaaDoor
