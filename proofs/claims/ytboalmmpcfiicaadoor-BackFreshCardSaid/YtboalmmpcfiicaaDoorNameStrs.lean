/- Lists of texts: a slice that reads as texts; May, Texts. -/
import Derived.Deep.Strs
import Derived.Test.YtboalmmpcfiicaaDoorNameRefIs
import Derived.WalkSmall
namespace Go.Proofs.YtboalmmpcfiicaaDoor
open Go.RowKit Go.Shelf Go.Lib Go.ChangeShapes Go.WideShapes Go.ChangeAt
set_option linter.unusedVariables false
set_option maxRecDepth 100000

/-- A slice at A reads as the texts l. -/
def RdS (W : World) (A : Option Addr) (l : List ByteArray) : Prop :=
  l = [] ∨ ∃ b off, A = some ⟨b, off, none⟩ ∧ ∀ j (h : j < l.length), W.cell? ⟨b, off + j, none⟩ = some (.string l[j])
theorem RdS.keep {W W' : World} {A : Option Addr} {l : List ByteArray} (h : RdS W A l) (hk : ∀ p v, W.cell? p = some v → W'.cell? p = some v) : RdS W' A l := by
  rcases h with h | ⟨b, off, e, hc⟩
  · exact .inl h
  · exact .inr ⟨b, off, e, fun j hj => hk _ _ (hc j hj)⟩
theorem RdS.below {W W' : World} {A : Option Addr} {l : List ByteArray} (h : RdS W A l) (hb : Below W.heap.size W W') : RdS W' A l :=
  h.keep fun p v hv => (hb.cell (lt_of_cell hv)).trans hv
theorem rds_cs {W : World} {g : Nat} {t : TypeId} {l : List ByteArray} {cs : Array Value} (h : Cs W g t cs) (e : cs = (l.map Value.string).toArray) : RdS W (some ⟨g, 0, none⟩) l :=
  .inr ⟨g, 0, rfl, fun j hj => by
    rw [Nat.zero_add]
    exact h.cell j (by rw [e]; simp [List.getElem?_eq_getElem hj])⟩
/-- the texts as lists of bytes -/
def LL (l : List ByteArray) : List (List UInt8) := l.map fun s => L s
theorem LL_length (l : List ByteArray) : (LL l).length = l.length := by simp [LL]
theorem LL_get (l : List ByteArray) (k : Nat) (h : k < l.length) : (LL l)[k]'(by rw [LL_length]; exact h) = L l[k] := by simp [LL]
theorem L_inj {a b : ByteArray} (h : L a = L b) : a = b := by
  cases a; cases b
  simp only [L] at h
  congr 1
  exact Array.toList_inj.1 h
theorem LL_inj : ∀ {a b : List ByteArray}, LL a = LL b → a = b
  | [], [], _ => rfl
  | [], _ :: _, h => by simp [LL] at h
  | _ :: _, [], h => by simp [LL] at h
  | x :: a, y :: b, h => by
    simp only [LL, List.map_cons, List.cons.injEq] at h
    rw [L_inj h.1, LL_inj (show LL a = LL b from h.2)]

/-- the first k are names -/
def NamesI (l : List ByteArray) (k : Nat) : Prop := k ≤ l.length ∧ ((LL l).take k).all nameL = true
theorem NamesI.start (l : List ByteArray) : NamesI l 0 := ⟨Nat.zero_le _, by simp⟩
theorem NamesI.next {l : List ByteArray} {k : Nat} (h : NamesI l k) (hk : k < l.length) (hc : nameL (L l[k]) = true) : NamesI l (k + 1) := by
  refine ⟨hk, ?_⟩
  rw [List.take_succ_eq_append_getElem (by rw [LL_length]; exact hk), List.all_append, h.2, LL_get l k hk]
  simp [hc]
theorem names_no (l : List ByteArray) (k : Nat) (hk : k < l.length) (hc : nameL (L l[k]) = false) : (LL l).all nameL = false := by
  rw [List.all_eq_false]
  refine ⟨(LL l)[k]'(by rw [LL_length]; exact hk), List.getElem_mem _, ?_⟩
  rw [LL_get l k hk, hc]
  decide
theorem NamesI.over {l : List ByteArray} {k : Nat} (h : NamesI l k) (hk : ¬ k < l.length) : (LL l).all nameL = true := by
  have := h.2
  rwa [List.take_of_length_le (by rw [LL_length]; omega)] at this
theorem mayL_def (l : List ByteArray) : mayL (LL l) = (decide (l.length ≤ 4) && (LL l).all nameL) := by
  unfold mayL; rw [LL_length]

/-- the first k are the same -/
def SameI (p q : List ByteArray) (k : Nat) : Prop := k ≤ p.length ∧ p.take k = q.take k
theorem SameI.next {p q : List ByteArray} {k : Nat} (h : SameI p q k) (hk : k < p.length) (hq : k < q.length) (e : p[k] = q[k]) : SameI p q (k + 1) := by
  refine ⟨hk, ?_⟩
  rw [List.take_succ_eq_append_getElem hk, List.take_succ_eq_append_getElem hq, h.2, e]
theorem same_no {p q : List ByteArray} {k : Nat} (hk : k < p.length) (hq : k < q.length) (e : p[k] ≠ q[k]) : (LL p == LL q) = false := by
  rw [beq_eq_false_iff_ne]
  intro h
  have := LL_inj h
  subst this
  exact e rfl
theorem SameI.over {p q : List ByteArray} {k : Nat} (h : SameI p q k) (hk : ¬ k < p.length) (hl : p.length = q.length) : (LL p == LL q) = true := by
  have h1 := h.2
  rw [List.take_of_length_le (by omega), List.take_of_length_le (by omega)] at h1
  subst h1
  simp
theorem len_no {p q : List ByteArray} (hl : p.length ≠ q.length) : (LL p == LL q) = false := by
  rw [beq_eq_false_iff_ne]
  intro h
  exact hl (by rw [LL_inj h])

set_option maxHeartbeats 1000000 in
theorem Texts_any (p q : List ByteArray) (A B : Option Addr) (ca cb : Nat) (w : World) (hp : p.length ≤ 140737488355328) (hq : q.length ≤ 140737488355328) (rp : RdS w A p) (rq : RdS w B q) :
    Calls Tryd.prog 20 #[.slice A p.length ca, .slice B q.length cb] w fun e w' => e = .returned (.bool (LL p == LL q)) ∧ Below w.heap.size w w' := by
  by_cases hl : p.length = q.length
  · have el : ((p.length : Int) == (q.length : Int)) = true := by simp [hl]
    have el' : ((p.length : Int) != (q.length : Int)) = false := by simp [hl]
    have HP := Lib.hid rp
    have HQ := Lib.hid rq
    have HL := Lib.hid hl
    clear rp rq hl
    go_enter Tryd.func20, Tryd.ntmps20
    go_wp2
    clear el el'
    go_loopw [5] (fun j wr => ∃ k : Nat, j = .int .i64 k ∧ SameI p q k ∧ Below w.heap.size w wr) (fun j _ => p.length - (RowKit.intOf j).toNat)
    case atStart => exact ⟨0, rfl, ⟨Nat.zero_le _, by simp⟩, Below.refl _ _⟩
    case round =>
      obtain ⟨k, rfl, hI, hB⟩ := hrel
      by_cases hk : k < p.length
      · have hk2 : k < q.length := by rw [← HL.out]; exact hk
        obtain ⟨b, off, rfl, hc⟩ : ∃ b off, A = some ⟨b, off, none⟩ ∧ ∀ j (h : j < p.length), wr.cell? ⟨b, off + j, none⟩ = some (.string p[j]) := by
          rcases HP.out.below hB with h | h
          · rw [h] at hk; simp at hk
          · exact h
        obtain ⟨b', off', rfl, hc'⟩ : ∃ b off, B = some ⟨b, off, none⟩ ∧ ∀ j (h : j < q.length), wr.cell? ⟨b, off + j, none⟩ = some (.string q[j]) := by
          rcases HQ.out.below hB with h | h
          · rw [h] at hk2; simp at hk2
          · exact h
        have hc1 := hc k hk
        have hc2 := hc' k hk2
        have hx := fun e => same_no hk hk2 e
        have hy := fun e => hI.next hk hk2 e
        generalize p[k] = x at *
        generalize q[k] = y at *
        have HX := Lib.hid hx
        have HY := Lib.hid hy
        clear hx hy hc hc' hI
        by_cases he : x = y
        · have hf := Lib.hid (HY.out he)
          subst he
          clear HX HY
          go_wp2
          go_quiet (fail)
          go_wp2
          go_roundw
          case rel => exact ⟨k + 1, by go_num, hf.out, below_drewN hB _⟩
          case measure => simp [RowKit.intOf]; omega
        · have hf := Lib.hid (HX.out he)
          have hb : (x.toList == y.toList) = false := by
            rw [beq_eq_false_iff_ne, toList_L, toList_L]
            exact fun h => he (L_inj h)
          have hb' : (x.toList != y.toList) = true := by rw [bne, hb]; rfl
          clear HX HY he
          go_wp2
          go_quiet (fail)
          go_wp2
          go_ret
          exact ⟨by rw [hf.out]; first | done | rfl, below_drewN hB _⟩
      · have hv := Lib.hid (hI.over hk HL.out)
        clear hI
        go_wp2
        go_ret
        exact ⟨by rw [hv.out]; first | done | rfl, hB⟩
  · have el : ((p.length : Int) == (q.length : Int)) = false := by simp; omega
    have el' : ((p.length : Int) != (q.length : Int)) = true := by simp; omega
    have hv := Lib.hid (len_no hl)
    clear hl rp rq
    go_enter Tryd.func20, Tryd.ntmps20
    go_wp2
    go_ret
    exact ⟨by rw [hv.out]; first | done | rfl, Below.refl _ _⟩

end Go.Proofs.YtboalmmpcfiicaaDoor
