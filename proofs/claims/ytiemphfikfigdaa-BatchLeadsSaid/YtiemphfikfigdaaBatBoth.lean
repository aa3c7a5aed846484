/- Layer 7: what program and reference both answer, in one form. -/
import Derived.Test.YtiemphfikfigdaaBatLives
namespace Go.Proofs.Ytiemphfikfigdaa
open Go.RowKit Go.Shelf
set_option linter.unusedVariables false
set_option maxRecDepth 100000
set_option linter.unusedSimpArgs false

def putR (l : List Ch) : List UInt8 := if mayCP l then putFrom [] l else []
def putE (l : List Ch) : Int := if mayCP l then 0 else 2
def getR (b : List UInt8) : List Ch := match getC b with
  | .error _ => []
  | .ok l => l
def getE7 (b : List UInt8) : Int := match getC b with
  | .error er => er
  | .ok _ => 0
def applyR (t : List Rw) (l : List Ch) : List Rw := if mayP t && mayCP l then applyP t l else []
def applyE (t : List Rw) (l : List Ch) : Int := if mayP t && mayCP l then 0 else 2
def betwR (a b : List Rw) : List Ch := if mayP a && mayP b then betweenP a b else []
def betwE (a b : List Rw) : Int := if mayP a && mayP b then 0 else 2
theorem one_four (last : Key) (x : Ch) : 4 ≤ (oneP last x).length := by
  simp only [oneP, List.length_append, List.length_cons, List.length_nil, beL_length]
  omega
theorem put_four : ∀ (l : List Ch) (last : Key), l.length * 4 ≤ (putFrom last l).length
  | [], last => by simp
  | x :: r, last => by
    have h1 := one_four last x
    have h2 := put_four r x.1
    simp only [putFrom, List.length_append, List.length_cons]
    omega
theorem get_four (b : List UInt8) : (getR b).length * 4 ≤ b.length := by
  unfold getR
  cases h : getC b with
  | error er => simp
  | ok l =>
    have h1 := put_four l []
    rw [(get_back h).2] at h1
    exact h1
theorem between_len7 (a b : List Rw) : (betwR a b).length ≤ a.length + b.length := by
  unfold betwR betweenP
  have h1 := keys_len (a ++ b)
  rw [List.length_append] at h1
  split
  · exact Nat.le_trans (List.length_filterMap_le _ _) h1
  · simp
def B7Put (l : List Ch) (w : World) (e : Ending) (w' : World) : Prop := ∃ A c, e = .returned (.tuple #[.slice A (putR l).length c, .int .i64 (putE l)]) ∧ BsV w' anyB (.slice A (putR l).length c) (putR l) ∧ Below w.heap.size w w'
def B7Get (b : List UInt8) (w : World) (e : Ending) (w' : World) : Prop := ∃ A c, e = .returned (.tuple #[.slice A (getR b).length c, .int .i64 (getE7 b)]) ∧ LsV chgE w' anyB (.slice A (getR b).length c) (getR b) ∧ Below w.heap.size w w'
def B7Apply (t : List Rw) (l : List Ch) (w : World) (e : Ending) (w' : World) : Prop := ∃ A c, e = .returned (.tuple #[.slice A (applyR t l).length c, .int .i64 (applyE t l)]) ∧ LsV rowE w' anyB (.slice A (applyR t l).length c) (applyR t l) ∧ Below w.heap.size w w'
def B7Betw (a b : List Rw) (w : World) (e : Ending) (w' : World) : Prop := ∃ A c, e = .returned (.tuple #[.slice A (betwR a b).length c, .int .i64 (betwE a b)]) ∧ LsV chgE w' anyB (.slice A (betwR a b).length c) (betwR a b) ∧ Below w.heap.size w w'
def B7Find (t : List Rw) (key : Key) (w : World) (e : Ending) (w' : World) : Prop := ∃ A c, e = .returned (.tuple #[.slice A ((findP t key).getD []).length c, .bool (findP t key).isSome]) ∧ BsV w' anyB (.slice A ((findP t key).getD []).length c) ((findP t key).getD []) ∧ Below w.heap.size w w'
theorem LsV.any {α : Type} {E : Elem α} {w : World} {F : Nat → Prop} {v : Value} {ls : List α} (h : LsV E w F v ls) : LsV E w anyB v ls := by
  obtain ⟨A, c, h1, h2, h3⟩ := h
  exact ⟨A, c, h1, h2.mono fun _ _ _ => trivial, h3⟩
theorem BsV.any {w : World} {F : Nat → Prop} {v : Value} {l : List UInt8} (h : BsV w F v l) : BsV w anyB v l := h.mono fun _ _ _ => trivial
section
variable {F G : Nat → Prop} {w : World}
theorem put_p (K : K7) {l : List Ch} {v : Value} (hs : SmallC l) (hl : l.length ≤ 100000) (h : LsV chgE w F v l) : Calls Try.prog 10 #[v] w fun e w' => B7Put l w e w' :=
  (K.put _ _ _ _ hs hl h).mono fun e w' ⟨hb, v, he, hv⟩ => by
    obtain ⟨A, c, rfl, r⟩ := id hv
    exact ⟨A, c, he, hv, hb⟩
theorem get_p (K : K7) {b : List UInt8} {v : Value} (hl : b.length ≤ 10000000) (h : BsV w F v b) : Calls Try.prog 12 #[v] w fun e w' => B7Get b w e w' :=
  (K.get _ _ _ _ hl h).mono fun e w' ⟨hb, hv⟩ => by
    unfold B7Get getR getE7
    cases hc : getC b with
    | error er =>
      rw [hc] at hv
      obtain ⟨v, rfl, hv⟩ := hv
      obtain ⟨A, c, rfl, r⟩ := id hv
      exact ⟨A, c, rfl, hv, hb⟩
    | ok l =>
      rw [hc] at hv
      obtain ⟨v, rfl, hv⟩ := hv
      obtain ⟨A, c, rfl, r⟩ := id hv
      exact ⟨A, c, rfl, hv, hb⟩
theorem apply_p (K : K7) {t : List Rw} {l : List Ch} {v u : Value} (hs : SmallR t) (hs' : SmallC l) (ht : t.length ≤ 1000) (hl : l.length ≤ 1000) (h : LsV rowE w F v t) (k : LsV chgE w G u l) : Calls Try.prog 21 #[v, u] w fun e w' => B7Apply t l w e w' :=
  (K.apply _ _ _ _ _ _ _ hs hs' ht hl h k).mono fun e w' ⟨hb, v, he, hv⟩ => by
    obtain ⟨A, c, rfl, r⟩ := id hv
    exact ⟨A, c, he, hv.rowE.any, hb⟩
theorem betw_p (K : K7) {a b : List Rw} {v u : Value} (hs : SmallR a) (hs' : SmallR b) (ht : a.length ≤ 1000) (hl : b.length ≤ 1000) (h : LsV rowE w F v a) (k : LsV rowE w G u b) : Calls Try.prog 26 #[v, u] w fun e w' => B7Betw a b w e w' :=
  (K.betw _ _ _ _ _ _ _ hs hs' ht hl h k).mono fun e w' ⟨hb, v, he, hv⟩ => by
    obtain ⟨A, c, rfl, r⟩ := id hv
    exact ⟨A, c, he, hv.chgE.any, hb⟩
theorem find_p (K : K7) {t : List Rw} {key : Key} {v : Value} (hs : SmallR t) (ht : t.length ≤ 1000) (hk : key.length ≤ 9223372036854775807) (h : LsV rowE w F v t) : Calls Try.prog 28 #[v, .string ⟨key.toArray⟩] w fun e w' => B7Find t key w e w' :=
  (K.find _ _ _ _ _ hs ht hk h).mono fun e w' ⟨hb, v, he, hv⟩ => by
    obtain ⟨A, c, rfl, r⟩ := id hv.1
    exact ⟨A, c, he, hv.1.any, hb⟩
theorem put_r {l : List Ch} {A : Option Addr} {c : Nat} (hs : SmallC l) (hl : l.length ≤ 100000) (h : RdX chgE w F A l) : Calls Try.prog 11 #[.slice A l.length c] w fun e w' => B7Put l w e w' :=
  (PutCRef_any l A c F w hs hl h).mono fun e w' ⟨hb, hv⟩ => by
    unfold B7Put putR putE
    cases hm : mayCP l
    · rw [hm] at hv
      exact ⟨none, 0, hv, BsV.nil _ _, hb⟩
    · rw [hm, if_pos rfl] at hv
      obtain ⟨v, rfl, ho⟩ := hv
      have hB := (BsV.own ho).any
      obtain ⟨A, c, rfl, r⟩ := id hB
      exact ⟨A, c, rfl, hB, hb⟩
theorem get_r {b : List UInt8} {A : Option Addr} {c : Nat} (hl : b.length ≤ 1000000) (h : Rd w A b) (hlc : b.length ≤ c) (hc : c ≤ maxLen) : Calls Try.prog 13 #[.slice A b.length c] w fun e w' => B7Get b w e w' :=
  (GetCRef_any b A c w hl h hlc hc).mono fun e w' ⟨hb, hv⟩ => by
    unfold B7Get getR getE7
    cases hg : getC b with
    | error er =>
      rw [hg] at hv
      exact ⟨none, 0, hv, LsV.nil _ _, hb⟩
    | ok l =>
      rw [hg] at hv
      obtain ⟨v, rfl, ho⟩ := hv
      have hL := ho.ls.any
      obtain ⟨A, c, rfl, r⟩ := id hL
      exact ⟨A, c, rfl, hL, hb⟩
theorem apply_r {t : List Rw} {l : List Ch} {A B : Option Addr} {ca cb : Nat} (hs : SmallR t) (hs' : SmallC l) (ht : t.length ≤ 100000) (hl : l.length ≤ 100000) (h : RdX rowE w F A t) (k : RdX chgE w G B l) : Calls Try.prog 22 #[.slice A t.length ca, .slice B l.length cb] w fun e w' => B7Apply t l w e w' :=
  (ApplyRef_any t l A B ca cb F G w hs hs' ht hl h k).mono fun e w' ⟨hb, hv⟩ => by
    unfold B7Apply applyR applyE
    cases hm : (mayP t && mayCP l)
    · rw [hm] at hv
      exact ⟨none, 0, hv, LsV.nil _ _, hb⟩
    · rw [hm, if_pos rfl] at hv
      obtain ⟨v, rfl, ho⟩ := hv
      have hL := ho.ls.any
      obtain ⟨A, c, rfl, r⟩ := id hL
      exact ⟨A, c, rfl, hL, hb⟩
theorem betw_r {a b : List Rw} {A B : Option Addr} {ca cb : Nat} (hs : SmallR a) (hs' : SmallR b) (ht : a.length ≤ 100000) (hl : b.length ≤ 100000) (h : RdX rowE w F A a) (k : RdX rowE w G B b) : Calls Try.prog 27 #[.slice A a.length ca, .slice B b.length cb] w fun e w' => B7Betw a b w e w' :=
  (BetwRef_any a b A B ca cb F G w hs hs' ht hl h k).mono fun e w' ⟨hb, hv⟩ => by
    unfold B7Betw betwR betwE
    cases hm : (mayP a && mayP b)
    · rw [hm] at hv
      exact ⟨none, 0, hv, LsV.nil _ _, hb⟩
    · rw [hm, if_pos rfl] at hv
      obtain ⟨v, rfl, ho⟩ := hv
      have hL := ho.ls.any
      obtain ⟨A, c, rfl, r⟩ := id hL
      exact ⟨A, c, rfl, hL, hb⟩
theorem find_r {t : List Rw} {key : Key} {A : Option Addr} {c : Nat} (hs : SmallR t) (h : RdX rowE w F A t) : Calls Try.prog 29 #[.slice A t.length c, .string ⟨key.toArray⟩] w fun e w' => B7Find t key w e w' :=
  (FindRef_any t key A c F w hs h).mono fun e w' ⟨hb, hv⟩ => by
    unfold B7Find
    cases hm : findP t key with
    | none =>
      rw [hm] at hv
      exact ⟨none, 0, hv, BsV.nil _ _, hb⟩
    | some x =>
      rw [hm] at hv
      obtain ⟨v, rfl, ho⟩ := hv
      have hL := (BsV.own ho).any
      obtain ⟨A, c, rfl, r⟩ := id hL
      exact ⟨A, c, rfl, hL, hb⟩
end

end Go.Proofs.Ytiemphfikfigdaa
