/- strings.SplitSeq at a slash: the iterator's contract. -/
import Derived.Test.YtmmkoonnklfjkaaDoorNameParts
import Derived.Test.YtmmkoonnklfjkaaDoorRangeBox
import Derived.Shelf.Abstract
import Derived.Shelf.RegionOpen
import Derived.OwnWalkIn
import Derived.TacticsInMore
import Derived.LoopNIn
import Derived.LoopIn
namespace Go.Proofs.YtmmkoonnklfjkaaDoor
open Go.RowKit Go.Shelf Go.Lib Go.ChangeShapes Go.WideShapes Go.ChangeAt
set_option linter.unusedVariables false

attribute [local go_sem] Oper.semAt_some

theorem index_ge : ∀ (l : List UInt8) (c : UInt8), -1 ≤ Lib.indexByte l c := Lib.indexByte_ge
theorem split_index_no : ∀ {l : List UInt8}, Lib.indexByte l 47 = -1 → splitL l = [l]
  | [], _ => rfl
  | c :: r, h => by
    have hg := Lib.indexByte_ge r 47
    simp only [Lib.indexByte] at h
    by_cases hc : c = 47
    · subst hc; simp at h
    · simp only [beq_eq_false_iff_ne.2 hc] at h
      have h1 : Lib.indexByte r 47 = -1 := by
        by_cases h2 : Lib.indexByte r 47 = -1
        · exact h2
        · exfalso
          simp at h
          repeat' split at h
          all_goals omega
      simp only [splitL]
      rw [if_neg hc, split_index_no h1]
theorem split_index_yes : ∀ {l : List UInt8} {o : Nat}, Lib.indexByte l 47 = (o : Int) → o < l.length ∧ splitL l = l.take o :: splitL (l.drop (o + 1))
  | [], o, h => by
    simp only [Lib.indexByte] at h
    omega
  | c :: r, o, h => by
    have hg := Lib.indexByte_ge r 47
    simp only [Lib.indexByte] at h
    by_cases hc : c = 47
    · subst hc
      simp only [beq_self_eq_true, if_true] at h
      obtain rfl : o = 0 := by omega
      exact ⟨by simp, by simp [splitL]⟩
    · rw [if_neg (by simpa using hc)] at h
      by_cases h2 : Lib.indexByte r 47 = -1
      · rw [h2] at h
        simp at h
      · rw [if_neg (by simpa using h2)] at h
        obtain ⟨q, rfl⟩ : ∃ q, o = q + 1 := ⟨o - 1, by omega⟩
        have hq : Lib.indexByte r 47 = (q : Int) := by omega
        obtain ⟨k1, k2⟩ := split_index_yes hq
        refine ⟨by simp; omega, ?_⟩
        simp only [splitL]
        rw [if_neg hc, k2]
        simp

/-- the length of what is left in a box -/
def boxLen (b : Nat) (w : World) : Nat := match w.cell? ⟨b, 0, none⟩ with | some (.string r) => r.size | _ => 0
theorem boxLen_cs {b : Nat} {w : World} {t : TypeId} {r : ByteArray} (h : Cs w b t #[.string r]) : boxLen b w = r.size := by
  unfold boxLen
  rw [h.cell 0 (v := .string r) rfl]

/-- the three boxes of SplitSeq's closure -/
structure Boxes (Bs Bq Bv : Nat) (rest : ByteArray) (W : World) : Prop where
  s : Cs W Bs 9 #[.string rest]
  q : Cs W Bq 9 #[.string ⟨#[47]⟩]
  v : Cs W Bv 3 #[.int .i64 0]
theorem Boxes.keep {Bs Bq Bv : Nat} {rest : ByteArray} {X Y : World} (h : Boxes Bs Bq Bv rest X) (k : KeepsBlk [Bs, Bq, Bv] X Y) : Boxes Bs Bq Bv rest Y :=
  ⟨k Bs (by simp) _ h.s, k Bq (by simp) _ h.q, k Bv (by simp) _ h.v⟩
theorem Boxes.store {Bs Bq Bv : Nat} {rest : ByteArray} {X : World} (h : Boxes Bs Bq Bv rest X) (h1 : Bq ≠ Bs) (h2 : Bv ≠ Bs) (r : ByteArray) : Boxes Bs Bq Bv r (X.setCell ⟨Bs, 0, none⟩ (.string r)) :=
  ⟨h.s.set 0 (.string r), h.q.far h1 _, h.v.far h2 _⟩

/-- what has come, and what is left -/
def SeqI (s0 rest : ByteArray) (pre : List ByteArray) : Prop := splitL (L s0) = LL pre ++ splitL (L rest) ∧ rest.size ≤ s0.size
theorem LL_snoc (pre : List ByteArray) (x : ByteArray) : LL (pre ++ [x]) = LL pre ++ [L x] := by simp [LL]
theorem SeqI.len {s0 rest : ByteArray} {pre : List ByteArray} (h : SeqI s0 rest pre) : pre.length < (splitL (L s0)).length := by
  rw [h.1, List.length_append, LL_length]
  have := List.length_pos_iff.2 (splitL_ne (L rest))
  omega
theorem SeqI.last {s0 rest : ByteArray} {pre : List ByteArray} (h : SeqI s0 rest pre) (hi : Lib.indexByte (L rest) 47 = -1) : splitL (L s0) = LL (pre ++ [rest]) := by
  rw [h.1, split_index_no hi, LL_snoc]
theorem SeqI.next {s0 rest : ByteArray} {pre : List ByteArray} {o : Nat} (h : SeqI s0 rest pre) (hi : Lib.indexByte (L rest) 47 = (o : Int)) :
    SeqI s0 (rest.extract (o + 1) rest.size) (pre ++ [rest.extract 0 o]) ∧ o < rest.size := by
  obtain ⟨h1, h2⟩ := split_index_yes hi
  rw [← L_size] at h1
  refine ⟨⟨?_, ?_⟩, h1⟩
  · rw [h.1, h2, LL_snoc, List.append_assoc]
    congr 1
    have e1 : L (rest.extract 0 o) = (L rest).take o := by rw [L_extract, List.drop_zero, Nat.sub_zero]
    have e2 : L (rest.extract (o + 1) rest.size) = (L rest).drop (o + 1) := by
      rw [L_extract, List.take_of_length_le]
      rw [List.length_drop, ← L_size]
      exact Nat.le_refl _
    rw [e1, e2]
    rfl
  · have := h.2
    rw [ByteArray.size_extract]
    omega
theorem SeqI.part {s0 rest : ByteArray} {pre : List ByteArray} (h : SeqI s0 rest pre) : ∃ r, splitL (L s0) = LL pre ++ r := ⟨_, h.1⟩

set_option maxRecDepth 100000 in
set_option maxHeartbeats 4000000 in
theorem split1_in (n : Nat) (hn : 1 ≤ n) (l Bs Bq Bv : Nat) (h1 : Bq ≠ Bs) (h2 : Bv ≠ Bs) (s0 : ByteArray) (hs0 : s0.size ≤ 281474976710656) (J Jx : List ByteArray → World → Prop)
    (hJB : ∀ p X v, J p X → J p (X.setCell ⟨Bs, 0, none⟩ v))
    (hY : ∀ pre (x : ByteArray) X, J pre X → pre.length < (splitL (L s0)).length → YieldAt Fence.wide (n - 1) Tryd.prog l #[.string x] X fun e W' =>
      (e = .returned (.bool true) ∧ J (pre ++ [x]) W' ∧ KeepsBlk [Bs, Bq, Bv] X W') ∨ (e = .returned (.bool false) ∧ Jx (pre ++ [x]) W'))
    (W : World) (hb : Boxes Bs Bq Bv s0 W) (h0 : J [] W) :
    CallsIn Fence.wide n Tryd.prog 33 #[.func (.yield l) #[] #[], .pointer (some ⟨Bq, 0, none⟩), .pointer (some ⟨Bs, 0, none⟩), .pointer (some ⟨Bv, 0, none⟩)] W fun e W' => (∃ v, e = .returned v) ∧
      ((∃ ys, LL ys = splitL (L s0) ∧ J ys W') ∨ (∃ pre, (∃ r, splitL (L s0) = LL pre ++ r) ∧ Jx pre W')) := by
  refine callsIn_of_wp Tryd.func33 rfl trivial ?_ rfl
  simp only [Tryd.ntmps33, List.size_toArray, List.length_cons, List.length_nil, Nat.reduceAdd, Nat.reduceSub, Array.replicate_succ, Array.replicate_zero, List.push_toArray, List.append_toArray, List.nil_append, List.cons_append]
  have cq := hb.q.cell 0 rfl
  gi_wp2
  clear cq
  gi_loopw [] (fun wr => ∃ (rest : ByteArray) (pre : List ByteArray), SeqI s0 rest pre ∧ J pre wr ∧ Boxes Bs Bq Bv rest wr) (fun wr => boxLen Bs wr)
  case atStart => exact ⟨s0, [], ⟨by simp [LL], Nat.le_refl _⟩, h0, hb⟩
  case round =>
    obtain ⟨rest, pre, hI, hJ, hbx⟩ := hrel
    have hle := hI.2
    have hlen := hI.len
    have cs := hbx.s.cell 0 rfl
    have cq := hbx.q.cell 0 rfl
    have cv := hbx.v.cell 0 rfl
    have fs := hbx.s.frozen 0
    have hix := Tryd.strings_Index_one rest 47 wr
    have hge := Lib.indexByte_ge (L rest) 47
    by_cases hi : Lib.indexByte (L rest) 47 = -1
    · rw [show Lib.indexByte rest.data.toList 47 = -1 from hi] at hix
      have HL := Lib.hid (hI.last hi)
      obtain ⟨fn, tmps, assign, body, hy, hR⟩ := hY pre rest wr hJ hlen
      clear hI hi hge
      gi_wp2_with fail
      refine ⟨trivial, ?_⟩
      refine (callsIn_wide.2 hix).mono ?_
      clear hix
      rintro e _ ⟨rfl, rfl⟩
      gi_wp2
      refine hR.mono ?_
      rintro e W3 (⟨rfl, hJ3, hk3⟩ | ⟨rfl, hJx3⟩)
      · gi_wp2
        go_end0
        exact ⟨⟨_, rfl⟩, .inl ⟨_, HL.out.symm, hJ3⟩⟩
      · gi_wp2
        go_end0
        exact ⟨⟨_, rfl⟩, .inr ⟨_, ⟨[], by rw [HL.out, List.append_nil]⟩, hJx3⟩⟩
    · obtain ⟨o, ho⟩ := Int.eq_ofNat_of_zero_le (show 0 ≤ Lib.indexByte (L rest) 47 by omega)
      rw [show Lib.indexByte rest.data.toList 47 = (o : Int) from ho] at hix
      obtain ⟨hN, hos⟩ := hI.next ho
      obtain ⟨fn, tmps, assign, body, hy, hR⟩ := hY pre (rest.extract 0 o) wr hJ hlen
      have HN := Lib.hid hN
      have hm : boxLen Bs wr = rest.size := boxLen_cs hbx.s
      have HM := Lib.hid hm
      have HBX := Lib.hid hbx
      clear hI hi hge ho hN hm
      have hz0 : (0 : Int) ≤ (o : Int) := by omega
      have hz1 : (o : Int) ≤ (rest.size : Int) := by omega
      have hz2 : (o : Int) + 1 ≤ (rest.size : Int) := by omega
      gi_wp2_with fail
      refine ⟨trivial, ?_⟩
      refine (callsIn_wide.2 hix).mono ?_
      clear hix
      rintro e _ ⟨rfl, rfl⟩
      gi_wp2
      refine hR.mono ?_
      rintro e W3 (⟨rfl, hJ3, hk3⟩ | ⟨rfl, hJx3⟩)
      · have hb3 := HBX.out.keep hk3
        have cs3 := hb3.s.cell 0 rfl
        have cq3 := hb3.q.cell 0 rfl
        have fs3 := hb3.s.frozen 0
        have hst := hb3.store h1 h2 (rest.extract (o + 1) rest.size)
        have hJ4 := hJB _ _ (.string (rest.extract (o + 1) rest.size)) hJ3
        have HST := Lib.hid hst
        clear hst hb3 cs cq cv fs
        gi_wp2
        go_roundw
        case rel => exact ⟨_, _, HN.out, hJ4, HST.out⟩
        case measure =>
          rw [boxLen_cs HST.out.s, HM.out, ByteArray.size_extract]
          omega
      · gi_wp2
        refine bodyPost_ret (results_none rfl _ _ _) rfl ?_
        exact ⟨⟨_, rfl⟩, .inr ⟨_, HN.out.part, hJx3⟩⟩

theorem split_box (n : Nat) (hn : 1 ≤ n) (Bs Bq Bv : Nat) (h1 : Bq ≠ Bs) (h2 : Bv ≠ Bs) (s0 : ByteArray) (hs0 : s0.size ≤ 281474976710656) (w : World) (hb : Boxes Bs Bq Bv s0 w) :
    SeqBox Fence.wide n Tryd.prog 33 #[.pointer (some ⟨Bq, 0, none⟩), .pointer (some ⟨Bs, 0, none⟩), .pointer (some ⟨Bv, 0, none⟩)] (fun x : ByteArray => #[.string x]) (KeepsBlk [Bs, Bq, Bv])
      (fun ys => LL ys = splitL (L s0)) (fun pre => ∃ r, splitL (L s0) = LL pre ++ r) (splitL (L s0)).length Bs w := fun l J Jx W hW _ _ hJB hY h0 =>
  split1_in n hn l Bs Bq Bv h1 h2 s0 hs0 J Jx hJB hY W ⟨hb.s.below hW hb.s.lt, hb.q.below hW hb.q.lt, hb.v.below hW hb.v.lt⟩ h0

set_option maxHeartbeats 1000000 in
theorem splitSeq_in (n : Nat) (s q : ByteArray) (w : World) :
    CallsIn Fence.wide n Tryd.prog 29 #[.string s, .string q, .int .i64 0] w fun e w' => e = .returned (.func (.func 33) #[] #[.pointer (some ⟨w.heap.size + 1, 0, none⟩), .pointer (some ⟨w.heap.size, 0, none⟩), .pointer (some ⟨w.heap.size + 1 + 1, 0, none⟩)]) ∧
      w' = ((w.alloc (.cells #[.string s] 9)).alloc (.cells #[.string q] 9)).alloc (.cells #[.int .i64 0] 3) := by
  refine callsIn_of_wp Tryd.func29 rfl trivial ?_ rfl
  simp only [Tryd.ntmps29, List.size_toArray, List.length_cons, List.length_nil, Nat.reduceAdd, Nat.reduceSub, Array.replicate_succ, Array.replicate_zero, List.push_toArray, List.append_toArray, List.nil_append, List.cons_append]
  gi_wp2
  go_ret
  exact ⟨rfl, rfl⟩
set_option maxHeartbeats 1000000 in
theorem SplitSeq_in (n : Nat) (hn : 1 ≤ n) (s q : ByteArray) (w : World) :
    CallsIn Fence.wide n Tryd.prog 23 #[.string s, .string q] w fun e w' => e = .returned (.func (.func 33) #[] #[.pointer (some ⟨w.heap.size + 1, 0, none⟩), .pointer (some ⟨w.heap.size, 0, none⟩), .pointer (some ⟨w.heap.size + 1 + 1, 0, none⟩)]) ∧
      w' = ((w.alloc (.cells #[.string s] 9)).alloc (.cells #[.string q] 9)).alloc (.cells #[.int .i64 0] 3) := by
  refine callsIn_of_wp Tryd.func23 rfl trivial ?_ rfl
  simp only [Tryd.ntmps23, List.size_toArray, List.length_cons, List.length_nil, Nat.reduceAdd, Nat.reduceSub, Array.replicate_succ, Array.replicate_zero, List.push_toArray, List.append_toArray, List.nil_append, List.cons_append]
  gi_wp2_with fail
  refine ⟨trivial, ?_⟩
  refine (splitSeq_in _ _ _ _).mono ?_
  rintro e w' ⟨rfl, rfl⟩
  gi_wp2
  go_ret
  exact ⟨rfl, rfl⟩

set_option maxHeartbeats 1000000 in
theorem Clone_any (s : ByteArray) (hs : s.size ≤ 281474976710656) (w : World) :
    Calls Tryd.prog 24 #[.string s] w fun e w' => e = .returned (.string s) ∧ Below w.heap.size w w' := by
  have hc := Tryd.stringslite_Clone s w hs
  go_enter Tryd.func24, Tryd.ntmps24
  go_wp2_with fail
  refine hc.mono ?_
  clear hc
  rintro e w2 ⟨rfl, hb⟩
  go_wp2
  go_ret
  exact ⟨rfl, hb⟩
end Go.Proofs.YtmmkoonnklfjkaaDoor
