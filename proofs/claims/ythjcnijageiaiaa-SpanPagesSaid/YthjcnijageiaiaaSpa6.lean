/- The reference: Has, Holds, Len, Pages. -/
import Derived.Test.YthjcnijageiaiaaSpa4
namespace Go.Proofs.Ythjcnijageiaiaa
open Go.RowKit Go.Shelf
set_option linter.unusedVariables false
set_option maxRecDepth 100000
set_option linter.unusedSimpArgs false

def hasP (l : List Sp) (x : Nat) : Bool := mayS l && memS l x
def holdsP (l : List Sp) (s : Sp) : Bool := mayS l && holdsS l s
def lenP (l : List Sp) : Nat := if mayS l then lenS l else 0
def touches (s : Sp) (n : Nat) : Bool := decide (s.1 < (n + 1) * 64) && decide (n * 64 < s.2)
def pagesP (s : Sp) : List Nat := if s.1 < s.2 ∧ s.2 ≤ 4096 then (List.range 64).filter (touches s) else []
set_option maxHeartbeats 4000000 in
theorem HasR_v (l : List Sp) (x : Nat) (A : Option Addr) (c : Nat) (F : Nat → Prop) (w : World) (hl : l.length ≤ 140737488355328) (r : RdX spE w F A l) :
    Calls Try.prog 16 #[.slice A l.length c, .int .u32 (x : Int)] w fun e w' => e = .returned (.bool (hasP l x)) ∧ Below w.heap.size w w' := by
  have HM := Lib.hid (MayR_v l A c F w hl r)
  have HI := Lib.hid fun (u : World) (hb : Below w.heap.size w u) => inR_v l x A c F u hl (r.below hb)
  clear r
  have HH := Lib.hid (show hasP l x = (mayS l && memS l x) from rfl)
  go_enter Try.func16, Try.ntmps16
  go_wp2_with fail
  refine HM.out.mono ?_
  rintro e u1 ⟨rfl, hb⟩
  have B1 := Lib.hid hb
  clear hb
  cases hm : mayS l
  · rw [hm] at HH
    clear hm
    go_wp2_with fail
    go_ret
    exact ⟨by rw [HH.out]; rfl, B1.out⟩
  · rw [hm] at HH
    clear hm
    go_wp2_with fail
    refine (HI.out _ B1.out).mono ?_
    rintro e u2 ⟨rfl, hb⟩
    have B2 := Lib.hid (below_chain B1.out hb)
    clear hb
    go_wp2_with fail
    go_ret
    exact ⟨by rw [HH.out]; first | rfl | simp, B2.out⟩
/-- none of the first k holds s -/
def HoI (l : List Sp) (s : Sp) (k : Nat) : Prop := k ≤ l.length ∧ ((l.take k).any fun t => decide (t.1 ≤ s.1) && decide (s.2 ≤ t.2)) = false
theorem HoI.next {l : List Sp} {s : Sp} {k : Nat} (h : HoI l s k) (hk : k < l.length) (h1 : ¬ (l[k].1 ≤ s.1 ∧ s.2 ≤ l[k].2)) : HoI l s (k + 1) := ⟨hk, by
  rw [List.take_succ_eq_append_getElem hk, List.any_append, h.2, Bool.false_or]
  simp only [List.any_cons, List.any_nil, Bool.or_false]
  rw [← Bool.not_eq_true]
  simpa using h1⟩
theorem HoI.over {l : List Sp} {s : Sp} {k : Nat} (h : HoI l s k) (hk : ¬ k < l.length) (hm : mayS l = true) (hs : s.1 ≤ s.2) : holdsP l s = (s.1 == s.2) := by
  have h1 := h.2
  rw [List.take_of_length_le (by omega)] at h1
  unfold holdsP holdsS
  rw [hm, h1, decide_eq_true hs, Bool.true_and, Bool.true_and, Bool.false_or]
theorem holds_yes {l : List Sp} {s : Sp} {k : Nat} (hk : k < l.length) (hm : mayS l = true) (hs : s.1 ≤ s.2) (h1 : l[k].1 ≤ s.1 ∧ s.2 ≤ l[k].2) : holdsP l s = true := by
  unfold holdsP holdsS
  rw [hm, decide_eq_true hs, Bool.true_and, Bool.true_and, Bool.or_eq_true]
  exact .inl (List.any_eq_true.2 ⟨l[k], List.getElem_mem hk, by simpa using h1⟩)
set_option maxHeartbeats 8000000 in
theorem HoldsR_v (l : List Sp) (s : Sp) (A : Option Addr) (c : Nat) (F : Nat → Prop) (w : World) (hl : l.length ≤ 140737488355328) (r : RdX spE w F A l) :
    Calls Try.prog 18 #[.slice A l.length c, .agg (spC s).toArray] w fun e w' => e = .returned (.bool (holdsP l s)) ∧ Below w.heap.size w w' := by
  have HM := Lib.hid fun (u : World) (hb : Below w.heap.size w u) => MayR_v l A c F u hl (r.below hb)
  have HP := Lib.hid r
  clear r
  go_enter Try.func18, Try.ntmps18
  go_wp2_with (first
    | ((with_reducible show wpList _ _ _ _ _ w); refine wpList_boxS rfl 25 _ rfl (spC s) rfl ?_; intro g1 w1 hk1 hb1 hg1; go_frame; have C1 := Lib.hid hk1; have B1 := Lib.hid hb1; have G1 := Lib.hid hg1; clear hk1 hb1 hg1)
    | fail)
  refine (HM.out _ B1.out).mono ?_
  rintro e w2 ⟨rfl, hb⟩
  have B2 := Lib.hid (below_chain B1.out hb)
  have C2 := Lib.hid (C1.out.below hb C1.out.lt)
  clear hb
  have q0 : w2.cell? ⟨g1, 0, none⟩ = some (.int .u32 (s.1 : Int)) := C2.out.cell 0 rfl
  have q1 : w2.cell? ⟨g1, 1, none⟩ = some (.int .u32 (s.2 : Int)) := C2.out.cell 1 rfl
  have HPD := Lib.hid (show holdsP l s = (mayS l && holdsS l s) from rfl)
  cases hm : mayS l
  · rw [hm] at HPD
    go_wp2_with fail
    go_ret
    exact ⟨by rw [HPD.out]; rfl, B2.out⟩
  · by_cases hs : s.1 ≤ s.2
    · have HS := Lib.hid (fun k hk h1 => holds_yes (l := l) (s := s) (k := k) hk hm hs h1)
      have HO := Lib.hid (fun k (h : HoI l s k) hk => h.over hk hm hs)
      have e1 : ¬ s.2 < s.1 := by omega
      have e1' : s.1 ≤ s.2 := hs
      clear hm hs HPD
      go_wp2_with fail
      go_loopw [5] (fun j wr => ∃ k : Nat, j = .int .i64 k ∧ HoI l s k ∧ Below w2.heap.size w2 wr) (fun j _ => l.length - (RowKit.intOf j).toNat)
      case atStart => exact ⟨0, rfl, ⟨Nat.zero_le _, rfl⟩, Below.refl _ _⟩
      case round =>
        obtain ⟨k, rfl, hI, hb2⟩ := hrel
        clear q0 q1
        have q0 : wr.cell? ⟨g1, 0, none⟩ = some (.int .u32 (s.1 : Int)) := (C2.out.below hb2 C2.out.lt).cell 0 rfl
        have q1 : wr.cell? ⟨g1, 1, none⟩ = some (.int .u32 (s.2 : Int)) := (C2.out.below hb2 C2.out.lt).cell 1 rfl
        by_cases hk : k < l.length
        · obtain ⟨b, off, rfl, hc1, hd1, -⟩ := sp_at ((HP.out.below B2.out).below hb2) k hk
          have HX := Lib.hid (fun e => HS.out k hk e)
          have HY := Lib.hid (fun e => hI.next hk e)
          have HB := Lib.hid (below_chain B2.out hb2)
          have HB2 := Lib.hid hb2
          clear hI hb2
          generalize l[k] = y at *
          obtain ⟨y1, y2⟩ := y
          obtain ⟨s1, s2⟩ := s
          dsimp only at *
          by_cases h1 : y1 ≤ s1
          · have e2 : (y1 : Int) ≤ s1 := by omega
            by_cases h2 : s2 ≤ y2
            · have e3 : (s2 : Int) ≤ y2 := by omega
              have hf := Lib.hid (HX.out ⟨h1, h2⟩)
              clear HX HY h1 h2
              go_wp2_with fail
              go_quiet (fail)
              go_wp2_with fail
              go_ret
              exact ⟨by rw [hf.out]; first | done | rfl, below_drewN HB.out _⟩
            · have e3 : ¬ (s2 : Int) ≤ y2 := by omega
              have hf := Lib.hid (HY.out fun h => h2 h.2)
              clear HX HY h1 h2
              go_wp2_with fail
              go_quiet (fail)
              go_wp2_with fail
              go_roundw
              case rel => exact ⟨k + 1, by go_num, hf.out, below_drewN HB2.out _⟩
              case measure => simp [RowKit.intOf]; omega
          · have e2 : ¬ y1 ≤ s1 := h1
            have hf := Lib.hid (HY.out fun h => h1 h.1)
            clear HX HY h1
            go_wp2_with fail
            go_quiet (fail)
            go_wp2_with fail
            go_roundw
            case rel => exact ⟨k + 1, by go_num, hf.out, below_drewN HB2.out _⟩
            case measure => simp [RowKit.intOf]; omega
        · have hv := Lib.hid (HO.out k hI hk)
          have HB := Lib.hid (below_chain B2.out hb2)
          clear hI hb2
          obtain ⟨s1, s2⟩ := s
          dsimp only at *
          by_cases h3 : s1 = s2
          · subst h3
            go_wp2_with fail
            try go_quiet (fail)
            go_wp2_with fail
            go_ret
            exact ⟨by rw [hv.out]; simp, by first | exact HB.out | exact below_drewN HB.out _⟩
          · have e3 : ¬ (s1 : Int) = s2 := by omega
            go_wp2_with fail
            try go_quiet (fail)
            go_wp2_with fail
            go_ret
            exact ⟨by rw [hv.out, show (s1 == s2) = false by simpa using h3]; first | done | rfl | (simp; omega), by first | exact HB.out | exact below_drewN HB.out _⟩
    · have e1 : s.2 < s.1 := by omega
      have hf := Lib.hid (show holdsP l s = false by rw [HPD.out]; unfold holdsS; rw [decide_eq_false hs]; simp)
      clear hm hs HPD
      go_wp2_with fail
      go_ret
      exact ⟨by rw [hf.out]; first | done | rfl, B2.out⟩
theorem lenS_snoc : ∀ (l : List Sp) (s : Sp), lenS (l ++ [s]) = lenS l + (s.2 - s.1)
  | [], s => by simp [lenS]
  | t :: l, s => by
    show t.2 - t.1 + lenS (l ++ [s]) = t.2 - t.1 + lenS l + (s.2 - s.1)
    rw [lenS_snoc l s, Nat.add_assoc]
theorem lenS_le : ∀ (l : List Sp) (b : Nat), mayFS b l = true → lenS l + b ≤ endS b l
  | [], b, _ => by simp [lenS, endS]
  | t :: l, b, h => by
    rw [mayFS_cons] at h
    have := lenS_le l (t.2 + 1) h.2.2
    show t.2 - t.1 + lenS l + b ≤ endS (t.2 + 1) l
    omega
theorem endS_bound (n : Nat) : ∀ (l : List Sp) (b : Nat), b ≤ n → (∀ t ∈ l, t.2 < n) → endS b l ≤ n
  | [], b, h, _ => h
  | t :: l, b, h, k => endS_bound n l (t.2 + 1) (k t (by simp)) fun u hu => k u (by simp [hu])
theorem RdX.lt32 {w : World} {F : Nat → Prop} {A : Option Addr} {l : List Sp} (h : RdX spE w F A l) : ∀ t ∈ l, t.1 < 4294967296 ∧ t.2 < 4294967296 := by
  intro t ht
  obtain ⟨j, hj, rfl⟩ := List.getElem_of_mem ht
  obtain ⟨_, _, _, _, _, h1⟩ := sp_at h j hj
  exact h1
theorem lenS_32 {l : List Sp} (hm : mayS l = true) (h : ∀ t ∈ l, t.2 < 4294967296) : lenS l ≤ 4294967296 := by
  have h1 := lenS_le l 0 hm
  have h2 := endS_bound 4294967296 l 0 (by decide) h
  omega
theorem mayS_get {l : List Sp} (hm : mayS l = true) {k : Nat} (hk : k < l.length) : l[k].1 < l[k].2 := (mem_end hm (List.getElem_mem hk)).2.1
set_option maxHeartbeats 8000000 in
theorem LenR_v (l : List Sp) (A : Option Addr) (c : Nat) (F : Nat → Prop) (w : World) (hl : l.length ≤ 140737488355328) (r : RdX spE w F A l) :
    Calls Try.prog 20 #[.slice A l.length c] w fun e w' => e = .returned (.int .u64 (lenP l : Int)) ∧ Below w.heap.size w w' := by
  have HM := Lib.hid fun (u : World) (hb : Below w.heap.size w u) => MayR_v l A c F u hl (r.below hb)
  have HP := Lib.hid r
  have H32 := Lib.hid r.lt32
  clear r
  go_enter Try.func20, Try.ntmps20
  go_wp2_with fail
  go_loopw [3, 4] (fun n j wr => ∃ k : Nat, j = .int .i64 k ∧ k ≤ l.length ∧ n = .int .u64 (lenS (l.take k) : Int) ∧ (0 < k → mayS l = true) ∧ Below w.heap.size w wr) (fun _ j _ => l.length - (RowKit.intOf j).toNat)
  case atStart => exact ⟨0, rfl, Nat.zero_le _, rfl, fun h => absurd h (Nat.lt_irrefl _), Below.refl _ _⟩
  case round =>
    obtain ⟨k, rfl, hk, rfl, hm0, hb⟩ := hrel
    by_cases hlt : k < l.length
    · have HB := Lib.hid hb
      have HMB := Lib.hid (HM.out _ hb)
      clear hb
      go_wp2_with fail
      refine HMB.out.mono ?_
      rintro e u1 ⟨rfl, hb1⟩
      have HB1 := Lib.hid (below_chain HB.out hb1)
      clear hb1
      cases hm : mayS l
      · have HK := Lib.hid (show k = 0 by
          rcases Nat.eq_zero_or_pos k with h | h
          · exact h
          · rw [hm0 h] at hm; cases hm)
        have HF := Lib.hid (show lenP l = lenS (l.take k) by rw [HK.out]; unfold lenP; rw [hm]; rfl)
        clear hm hm0 hk
        go_wp2_with fail
        go_ret
        exact ⟨by rw [HF.out]; first | done | rfl, HB1.out⟩
      · obtain ⟨b, off, rfl, hc1, hd1, hx1, hx2⟩ := sp_at (HP.out.below HB1.out) k hlt
        have h12 := mayS_get hm hlt
        have hn : lenS (l.take k) + (l[k].2 - l[k].1) = lenS (l.take (k + 1)) := by rw [List.take_succ_eq_append_getElem hlt, lenS_snoc]
        have hle : lenS (l.take (k + 1)) ≤ 4294967296 := lenS_32 (mayFS_take l 0 (k + 1) hm) fun t ht => (H32.out t (List.mem_of_mem_take ht)).2
        have HMM := Lib.hid hm
        generalize l[k] = y at *
        obtain ⟨y1, y2⟩ := y
        dsimp only at *
        generalize lenS (l.take k) = n0 at *
        generalize hn1 : lenS (l.take (k + 1)) = n1 at *
        have HN := Lib.hid hn
        have HN1 := Lib.hid hn1
        have i1 : (y1 : Int) < y2 := by omega
        have i2 : (y2 : Int) < 4294967296 := by omega
        have i3 : (n0 : Int) + ((y2 : Int) - (y1 : Int)) ≤ 4294967296 := by omega
        have i4 : (y1 : Int) < 4294967296 := by omega
        clear hn hn1 hle hm hm0 hx1 hx2 hk h12
        go_wp2_with fail
        go_quiet (fail)
        go_wp2_with fail
        go_roundw
        case rel => exact ⟨k + 1, by go_num, hlt, by rw [HN1.out]; congr 1; have := HN.out; omega, fun _ => HMM.out, below_drewN HB1.out _⟩
        case measure => simp [RowKit.intOf]; omega
    · have HB := Lib.hid hb
      have HF := Lib.hid (show lenP l = lenS (l.take k) by
        have h1 : k = l.length := by omega
        rw [List.take_of_length_le (by omega)]
        unfold lenP
        rcases Nat.eq_zero_or_pos k with h | h
        · have : l = [] := List.eq_nil_of_length_eq_zero (by omega)
          subst this
          rfl
        · rw [hm0 h]; rfl)
      clear hb hm0 hk
      go_wp2_with fail
      go_ret
      exact ⟨by rw [HF.out]; first | done | rfl, HB.out⟩

end Go.Proofs.Ythjcnijageiaiaa
