/- SWEPT -/
import Derived.Lib.AppendStr
import Derived.Sort.Walk0
import Derived.Test.YtfgbpinfplllgaaGreatDoorNPutRef
import Derived.Test.YtfgbpinfplllgaaGreatDoorTblK
import Derived.Test.YtfgbpinfplllgaaGreatDoorWordsK
set_option linter.unusedVariables false
set_option linter.unusedSimpArgs false
namespace Go.Proofs.YtfgbpinfplllgaaGreatDoor
open Go.RowKit Go.Shelf
set_option maxRecDepth 100000
theorem less_bytes (a b : Key) : Op.bytesLess a b = lessK a b := bytesLess_eq a b
def endC : Key → List Ch → Key
  | last, [] => last
  | _, x :: r => endC x.1 r
theorem endC_snoc : ∀ (t : List Ch) (last : Key) (x : Ch), endC last (t ++ [x]) = x.1
  | [], _, _ => rfl
  | y :: t, last, x => endC_snoc t y.1 x
theorem mayCFrom_snoc : ∀ (t : List Ch) (last : Key) (x : Ch), mayCFrom last (t ++ [x]) = (mayCFrom last t && okC (endC last t) x)
  | [], last, x => by simp [mayCFrom, endC]
  | y :: t, last, x => by simp only [List.cons_append, mayCFrom, mayCFrom_snoc t y.1 x, Bool.and_assoc, endC]
def aheadC (t : List Ch) (k : Nat) : Key := endC [] (t.take k)
theorem aheadC_succ {t : List Ch} {k : Nat} (h : k < t.length) : aheadC t (k + 1) = t[k].1 := by
  unfold aheadC
  rw [List.take_succ_eq_append_getElem h, endC_snoc]
theorem aheadC_zero (t : List Ch) : aheadC t 0 = [] := rfl
theorem mayC_take {t : List Ch} {k : Nat} (h : k < t.length) : mayCP (t.take (k + 1)) = (mayCP (t.take k) && okC (aheadC t k) t[k]) := by
  unfold mayCP
  rw [List.take_succ_eq_append_getElem h, mayCFrom_snoc]
  rfl
theorem mayCFrom_take : ∀ (t : List Ch) (last : Key) (k : Nat), mayCFrom last t = true → mayCFrom last (t.take k) = true
  | [], last, k, h => by simpa using h
  | x :: t, last, 0, h => rfl
  | x :: t, last, k + 1, h => by
    simp only [mayCFrom, Bool.and_eq_true, List.take_succ_cons] at h ⊢
    exact ⟨h.1, mayCFrom_take t x.1 k h.2⟩
theorem mayC_no {t : List Ch} {k : Nat} (h : k < t.length) (hf : okC (aheadC t k) t[k] = false) : mayCP t = false := by
  cases hm : mayCP t
  · rfl
  · have := mayCFrom_take t [] (k + 1) hm
    rw [show mayCFrom [] (t.take (k + 1)) = mayCP (t.take (k + 1)) from rfl, mayC_take h, hf, Bool.and_false] at this
    cases this
def SmallR (t : List Rw) : Prop := t.length ≤ 140737488355328 ∧ ∀ x ∈ t, x.1.length ≤ 9223372036854775807
def SmallC (t : List Ch) : Prop := t.length ≤ 140737488355328 ∧ ∀ x ∈ t, x.1.length ≤ 9223372036854775807
end Go.Proofs.YtfgbpinfplllgaaGreatDoor
namespace Go.Proofs.YtfgbpinfplllgaaGreatDoor
open Go.RowKit Go.Shelf
set_option maxRecDepth 100000
theorem take_next {a b : Key} {n : Nat} (h : a.take n = b.take n) (h1 : n < a.length) (h2 : n < b.length) (e : a[n] = b[n]) : a.take (n + 1) = b.take (n + 1) := by
  rw [List.take_succ_eq_append_getElem h1, List.take_succ_eq_append_getElem h2, h, e]
theorem sv_lt {a : Key} {n : Nat} (h : n < a.length) : n < (⟨a.toArray⟩ : ByteArray).size := by rw [ba_size]; exact h
theorem sv_get {a : Key} {n : Nat} (h : n < a.length) : (⟨a.toArray⟩ : ByteArray)[n]'(sv_lt h) = a[n] := by
  show a.toArray[n]'(by simpa using h) = a[n]
  simp
theorem str_cells (s : ByteArray) : Lib.strCells s = cellsOf s.data.toList := rfl
theorem append_str {w : World} {ops : Array Oper} {rest : List Oper} {o : Oper} {a : Act} {Q : Exit → Act → World → Prop} (hgd : o.guard = none) (sl x : Operand)
    (ho : o.op = .call { callee := .builtin .append, args := #[sl, x], argTypes := #[60, 9] })
    (base : Nat) (v : Value) (n : Nat) (xs : List UInt8) (hs : a.eval sl = v) (hown : w.ownsRow base 5 1 v n (cellsOf xs))
    (s : ByteArray) (l : List UInt8) (hl : s.data.toList = l) (hx : a.eval x = .string s) (hb : n + l.length ≤ 140737488355328) (hbase : base ≤ w.heap.size)
    (h : ∀ v' w', w'.ownsRow base 5 1 v' (n + l.length) (cellsOf (xs ++ l)) → w.grownBy w' v.ownBlock → wpList Tryz.prog ops Q rest (a.put o.dst v') w') : wpList Tryz.prog ops Q (o :: rest) a w := by
  obtain ⟨i0, hi, hz0, hz1, hz2⟩ := info_parts Try_info5
  have hsz : s.size = l.length := by rw [← hl]; exact (Array.length_toList (xs := s.data)).symm
  refine Lib.wpList_append_own_string w hgd sl x 60 9 ho base 5 i0 Tryz.underlying60 Tryz.underlying9 hi hz0 hz1 hz2 v n (cellsOf xs) hs hown s hx (by simp only [maxLen]; omega) (by omega) hbase ?_
  intro v' w' h1 h2 _
  rw [hsz, str_cells, hl, ← cellsOf_append] at h1
  exact h v' w' h1 h2
theorem sv_drop (k : Key) (n : Nat) : ((⟨k.toArray⟩ : ByteArray).extract n k.length).data.toList = k.drop n := by
  simp [ByteArray.data_extract]
  exact List.take_of_length_le (by simp)
theorem ch_c0 {w : World} {g : Nat} {k v : List UInt8} {A : Option Addr} {c : Nat} {b : Bool} (h : Cs w g 73 #[.string ⟨k.toArray⟩, .slice A v.length c, .bool b]) : w.cell? ⟨g, 0, none⟩ = some (.string ⟨k.toArray⟩) := h.cell 0 rfl
theorem own_ne {w : World} {base n size g : Nat} {e t : TypeId} {v : Value} {xs : List Value} {cs : Array Value} (ho : w.ownsRow base e size v n xs) (hc : Cs w g t cs) (ht : t ≠ e) (he : v.ownBlock = some g) : False := by
  rcases ho.2 with ⟨rfl, _⟩ | ⟨g', cap', cur, rfl, _, hg', _⟩
  · cases he
  · cases he
    exact Cs.ne hc (show Cs w g' e cur from hg') ht rfl
theorem own_as {w : World} {B n : Nat} {v : Value} {xs l : List UInt8} (h : w.ownsRow B 5 1 v n (cellsOf xs)) (e : xs = l) (hn : n = l.length) : w.ownsRow B 5 1 v l.length (cellsOf l) := by
  subst e hn
  exact h
def chCells (x : Ch) (A : Option Addr) (c : Nat) : List Value := [.string ⟨x.1.toArray⟩, .slice A x.2.1.length c, .bool x.2.2]
theorem infoCh (x : Ch) (A : Option Addr) (c : Nat) : (Tryz.prog.info? 73).map (·.size) = some (chCells x A c).length := by kernel_rfl
end Go.Proofs.YtfgbpinfplllgaaGreatDoor
namespace Go.Proofs.YtfgbpinfplllgaaGreatDoor
open Go.RowKit Go.Shelf
set_option maxRecDepth 100000
theorem putFrom_snoc : ∀ (t : List Ch) (last : Key) (x : Ch), putFrom last (t ++ [x]) = putFrom last t ++ oneP (endC last t) x
  | [], last, x => by simp [putFrom, endC]
  | y :: t, last, x => by simp only [List.cons_append, putFrom, putFrom_snoc t y.1 x, List.append_assoc, endC]
theorem put_take {t : List Ch} {k : Nat} (h : k < t.length) : putFrom [] (t.take (k + 1)) = putFrom [] (t.take k) ++ oneP (aheadC t k) t[k] := by
  rw [List.take_succ_eq_append_getElem h, putFrom_snoc]
  rfl
theorem one_most {last : Key} {x : Ch} (h : okC last x = true) : (oneP last x).length ≤ 8300 := by
  obtain ⟨⟨h1, h2, h3, h4⟩, h5⟩ := okC_iff.1 h
  unfold oneP
  simp [beL_length]
  omega
theorem put_most : ∀ (t : List Ch) (last : Key), mayCFrom last t = true → (putFrom last t).length ≤ 8300 * t.length
  | [], last, _ => by simp [putFrom]
  | x :: t, last, h => by
    simp only [mayCFrom, Bool.and_eq_true] at h
    have h1 := one_most h.1
    have h2 := put_most t x.1 h.2
    simp only [putFrom, List.length_append, List.length_cons]
    omega
theorem chg_rd {w : World} {F : Nat → Prop} {A : Option Addr} {ls : List Ch} (h : RdX chgE w F A ls) (j : Nat) (hj : j < ls.length) : ∃ b off A' c, A = some ⟨b, off, none⟩ ∧ At w b (off + j * 3) (chCells ls[j] A' c) ∧ RdF w F A' ls[j].2.1 ∧ (A' = none → ls[j].2.1 = [] ∧ c = 0) ∧ ls[j].2.1.length ≤ c ∧ c ≤ maxLen := by
  obtain ⟨b, off, cs, e, ⟨v, rfl, A', c, rfl, h1⟩, hat⟩ := h.get j hj
  exact ⟨b, off, A', c, e, hat, h1⟩
theorem mayC_ok {t : List Ch} (h : mayCP t = true) {k : Nat} (hk : k < t.length) : okC (aheadC t k) t[k] = true := by
  cases e : okC (aheadC t k) t[k]
  · rw [mayC_no hk e] at h; cases h
  · rfl
theorem ahead_len {t : List Ch} (h : mayCP t = true) {k : Nat} (hk : k ≤ t.length) : (aheadC t k).length ≤ 16 := by
  cases k with
  | zero => simp [aheadC_zero]
  | succ k =>
    rw [aheadC_succ (by omega)]
    exact okC_len (mayC_ok h (k := k) (by omega))
end Go.Proofs.YtfgbpinfplllgaaGreatDoor
namespace Go.Proofs.YtfgbpinfplllgaaGreatDoor
open Go.RowKit Go.Shelf
set_option maxRecDepth 100000
theorem rd_off {w : World} {g o : Nat} {b : List UInt8} (h : Rd w (some ⟨g, o, none⟩) b) (n : Nat) : Rd w (some ⟨g, o + n, none⟩) (b.drop n) := by
  rcases h with h | ⟨g', o', e, hc⟩
  · left; rw [h]; simp
  · cases e
    refine .inr ⟨g, o + n, rfl, fun j hj => ?_⟩
    rw [List.length_drop] at hj
    have := hc (n + j) (by omega)
    rw [← Nat.add_assoc] at this
    rw [this, List.getElem_drop]
end Go.Proofs.YtfgbpinfplllgaaGreatDoor
namespace Go.Proofs.YtfgbpinfplllgaaGreatDoor
open Go.RowKit Go.Shelf
set_option maxRecDepth 100000
def chZero : List Value := [.string ⟨#[]⟩, .slice none 0 0, .bool false]
theorem zeroCh (w : World) : (zeroValue 73).run Tryz.prog w = .ok (.agg chZero.toArray) w := by kernel_rfl
theorem infoCh3 (a b c : Value) : (Tryz.prog.info? 73).map (·.size) = some [a, b, c].length := by kernel_rfl
theorem one3c {a b c : Value} (h1 : a.oneCell' = true) (h2 : b.oneCell' = true) (h3 : c.oneCell' = true) : ∀ v ∈ [a, b, c], v.oneCell' = true := by
  intro v hv
  simp at hv
  rcases hv with rfl | rfl | rfl <;> assumption
theorem ch_d0 {w : World} {g : Nat} {k : List UInt8} {v : Value} {b : Bool} (h : Cs w g 73 [.string ⟨k.toArray⟩, v, .bool b].toArray) : w.cell? ⟨g, 0, none⟩ = some (.string ⟨k.toArray⟩) := h.cell 0 rfl
def NextRet (last : Key) (b : List UInt8) (g2 : Nat) (w : World) (e : Ending) (w' : World) : Prop := Below w.heap.size w w' ∧ match nextP last b with
  | .error er => e = .returned (.tuple #[.agg chZero.toArray, .slice none 0 0, .int .i64 er])
  | .ok (c, r) => ∃ v o2 c2, e = .returned (.tuple #[.agg #[.string ⟨c.1.toArray⟩, v, .bool c.2.2], .slice (some ⟨g2, o2, none⟩) r.length c2, .int .i64 0]) ∧ BsV w' (w.heap.size ≤ ·) v c.2.1 ∧ Rd w' (some ⟨g2, o2, none⟩) r ∧ r.length ≤ c2 ∧ c2 ≤ maxLen
theorem NextRet.err {last : Key} {b : List UInt8} {g2 : Nat} {w w' : World} {er : Int} (h : nextP last b = .error er) (hb : Below w.heap.size w w') : NextRet last b g2 w (.returned (.tuple #[.agg #[.string ⟨#[]⟩, .slice none 0 0, .bool false], .slice none 0 0, .int .i64 er])) w' := ⟨hb, by rw [h]; rfl⟩
theorem NextRet.has {last : Key} {b : List UInt8} {w w' : World} {k val r : List UInt8} {z : Bool} {v : Value} {g2 o2 c2 n2 : Nat} (h : nextP last b = .ok ((k, val, z), r)) (hb : Below w.heap.size w w') (hv : BsV w' (w.heap.size ≤ ·) v val) (hr : Rd w' (some ⟨g2, o2, none⟩) r) (hn : n2 = r.length) (h1 : n2 ≤ c2) (h2 : c2 ≤ maxLen) :
    NextRet last b g2 w (.returned (.tuple #[.agg #[.string ⟨k.toArray⟩, v, .bool z], .slice (some ⟨g2, o2, none⟩) n2 c2, .int .i64 0])) w' := by
  subst hn
  exact ⟨hb, by rw [h]; exact ⟨v, o2, c2, rfl, hv, hr, h1, h2⟩⟩
theorem next_e1 {last : Key} {s : UInt8} {b : List UInt8} (h : last.length < s.toNat) : nextP last (s :: b) = .error 5 := by simp only [nextP]; rw [if_pos h]
theorem next_e2 {last : Key} {s : UInt8} (h : ¬ last.length < s.toNat) : nextP last [s] = .error 4 := by simp only [nextP]; rw [if_neg h]
theorem next_e3 {last : Key} {s m : UInt8} {b : List UInt8} (h : ¬ last.length < s.toNat) (h2 : b.length < m.toNat) : nextP last (s :: m :: b) = .error 4 := by simp only [nextP]; rw [if_neg h, if_pos h2]
theorem next_e4 {last : Key} {s m : UInt8} {b : List UInt8} (h : ¬ last.length < s.toNat) (h2 : ¬ b.length < m.toNat) (h3 : (b.drop m.toNat).length < 2) : nextP last (s :: m :: b) = .error 4 := by simp only [nextP]; rw [if_neg h, if_neg h2, if_pos h3]
theorem next_rest {last : Key} {s m x y : UInt8} {b r : List UInt8} (h : ¬ last.length < s.toNat) (h2 : ¬ b.length < m.toNat) (h3 : b.drop m.toNat = x :: y :: r) : nextP last (s :: m :: b) =
    if r.length < 256 * x.toNat + y.toNat - 1 then .error 4 else
    if !fitsK last (last.take s.toNat ++ b.take m.toNat) (r.take (256 * x.toNat + y.toNat - 1)) || decide (s.toNat < sharedP last (last.take s.toNat ++ b.take m.toNat)) then .error 5 else .ok ((last.take s.toNat ++ b.take m.toNat, r.take (256 * x.toNat + y.toNat - 1), decide (256 * x.toNat + y.toNat = 0)), r.drop (256 * x.toNat + y.toNat - 1)) := by
  simp only [nextP]
  rw [if_neg h, if_neg h2, if_neg (by rw [h3]; simp), h3]
  rfl
theorem sv_take (k : Key) (n : Nat) : (⟨k.toArray⟩ : ByteArray).extract 0 n = ⟨(k.take n).toArray⟩ := by
  apply ByteArray.ext
  simp [ByteArray.data_extract]
theorem sv_add (a b : Key) : (⟨a.toArray⟩ : ByteArray) ++ ⟨b.toArray⟩ = ⟨(a ++ b).toArray⟩ := by
  apply ByteArray.ext
  simp [ByteArray.data_append]
end Go.Proofs.YtfgbpinfplllgaaGreatDoor
namespace Go.Proofs.YtfgbpinfplllgaaGreatDoor
open Go.RowKit Go.Shelf
set_option maxRecDepth 100000
def glue (acc : List Ch) : Except Int (List Ch) → Except Int (List Ch)
  | .error e => .error e
  | .ok l => .ok (acc ++ l)
theorem glue_nil (x : Except Int (List Ch)) : glue [] x = x := by cases x <;> rfl
def GotI (b0 : List UInt8) (acc : List Ch) (last : Key) (b : List UInt8) : Prop := getC b0 = glue acc (getF (b.length + 1) last b) ∧ last.length ≤ 16
theorem GotI.start (b : List UInt8) : GotI b [] [] b := ⟨(glue_nil _).symm, by simp⟩
theorem GotI.over {b0 : List UInt8} {acc : List Ch} {last : Key} (h : GotI b0 acc last []) : getC b0 = .ok acc := by
  have := h.1
  simpa [getF, glue] using this
theorem GotI.err {b0 : List UInt8} {acc : List Ch} {last : Key} {s : UInt8} {b : List UInt8} {er : Int} (h : GotI b0 acc last (s :: b)) (hn : nextP last (s :: b) = .error er) : getC b0 = .error er := by
  have := h.1
  simpa [getF, glue, hn] using this
theorem GotI.next {b0 : List UInt8} {acc : List Ch} {last : Key} {s : UInt8} {b r : List UInt8} {c : Ch} (h : GotI b0 acc last (s :: b)) (hn : nextP last (s :: b) = .ok (c, r)) : GotI b0 (acc ++ [c]) c.1 r := by
  have h1 := h.1
  have hl := nextP_short hn
  refine ⟨?_, okC_len (next_back hn).1⟩
  rw [h1]
  have e1 : getF ((s :: b).length + 1) last (s :: b) = glue [c] (getF (r.length + 1) c.1 r) := by
    rw [show getF ((s :: b).length + 1) last (s :: b) = _ from by unfold getF; rfl, hn]
    simp only
    rw [getF_more (s :: b).length (r.length + 1) c.1 r hl (by omega)]
    cases getF (r.length + 1) c.1 r <;> rfl
  rw [e1]
  cases getF (r.length + 1) c.1 r <;> simp [glue]
def GetCRet (b : List UInt8) (w : World) (e : Ending) (w' : World) : Prop := Below w.heap.size w w' ∧ match getC b with
  | .error er => e = .returned (.tuple #[.slice none 0 0, .int .i64 er])
  | .ok l => ∃ v, e = .returned (.tuple #[v, .int .i64 0]) ∧ OwnX chgE w' w.heap.size (w.heap.size ≤ ·) v l
theorem GetCRet.err {b : List UInt8} {w w' : World} {er : Int} (h : getC b = .error er) (hb : Below w.heap.size w w') : GetCRet b w (.returned (.tuple #[.slice none 0 0, .int .i64 er])) w' := ⟨hb, by rw [h]⟩
theorem GetCRet.has {b : List UInt8} {w w' : World} {l : List Ch} {v : Value} (h : getC b = .ok l) (hb : Below w.heap.size w w') (hv : OwnX chgE w' w.heap.size (w.heap.size ≤ ·) v l) : GetCRet b w (.returned (.tuple #[v, .int .i64 0])) w' := ⟨hb, by rw [h]; exact ⟨v, rfl, hv⟩⟩
theorem next_some {last : Key} {b : List UInt8} {er : Int} (h : nextP last b = .error er) : er = 4 ∨ er = 5 := by
  unfold nextP at h
  split at h
  · cases h; exact .inl rfl
  · split at h
    · cases h; exact .inr rfl
    · split at h
      · cases h; exact .inl rfl
      · split at h
        · cases h; exact .inl rfl
        · split at h
          · cases h; exact .inl rfl
          · dsimp only at h
            split at h
            · cases h; exact .inl rfl
            · split at h
              · cases h; exact .inr rfl
              · cases h
theorem GotI.few {b0 : List UInt8} {acc : List Ch} {last : Key} {b : List UInt8} (h : acc.length + b.length ≤ b0.length) {s : UInt8} {b1 r : List UInt8} {c : Ch} (hb : b = s :: b1) (hn : nextP last b = .ok (c, r)) : (acc ++ [c]).length + r.length ≤ b0.length := by
  have := nextP_short hn
  rw [List.length_append, List.length_singleton]
  omega
theorem rd_old {w : World} {A : Option Addr} {b : List UInt8} (h : Rd w A b) : b = [] ∨ ∃ g o, A = some ⟨g, o, none⟩ ∧ g < w.heap.size := by
  by_cases h0 : b = []
  · exact .inl h0
  rcases h with h | ⟨g, o, e, hc⟩
  · exact absurd h h0
  · exact .inr ⟨g, o, e, lt_of_cell (hc 0 (List.length_pos_iff.2 h0))⟩
end Go.Proofs.YtfgbpinfplllgaaGreatDoor
namespace Go.Proofs.YtfgbpinfplllgaaGreatDoor
open Go.RowKit Go.Shelf
set_option maxRecDepth 100000
def findP (t : List Rw) (k : Key) : Option (List UInt8) := if mayP t then lookR t k else none
def FindRet (t : List Rw) (key : Key) (w : World) (e : Ending) (w' : World) : Prop := Below w.heap.size w w' ∧ match findP t key with
  | none => e = .returned (.tuple #[.slice none 0 0, .bool false])
  | some x => ∃ v, e = .returned (.tuple #[v, .bool true]) ∧ w'.ownsRow w.heap.size 5 1 v x.length (cellsOf x)
theorem FindRet.no {t : List Rw} {key : Key} {w w' : World} (h : findP t key = none) (hb : Below w.heap.size w w') : FindRet t key w (.returned (.tuple #[.slice none 0 0, .bool false])) w' := ⟨hb, by rw [h]⟩
theorem FindRet.yes {t : List Rw} {key : Key} {w w' : World} {x : List UInt8} {v : Value} (h : findP t key = some x) (hb : Below w.heap.size w w') (ho : w'.ownsRow w.heap.size 5 1 v x.length (cellsOf x)) : FindRet t key w (.returned (.tuple #[v, .bool true])) w' := ⟨hb, by rw [h]; exact ⟨v, rfl, ho⟩⟩
def rwCells (x : Rw) (A : Option Addr) (c : Nat) : List Value := [.string ⟨x.1.toArray⟩, .slice A x.2.length c]
theorem infoRw (x : Rw) (A : Option Addr) (c : Nat) : (Tryz.prog.info? 78).map (·.size) = some (rwCells x A c).length := by kernel_rfl
theorem rwCells_one (x : Rw) (A : Option Addr) (c : Nat) : ∀ v ∈ rwCells x A c, v.oneCell' = true := by
  intro v hv
  simp [rwCells] at hv
  rcases hv with rfl | rfl <;> rfl
theorem wp_buildRow {w : World} {o : Oper} {a : Act} {Q : Exit → Act → World → Prop} {K : Act → World → Prop} (x : Operand) (ho : o.op = .buildSlice 64 1 #[(0, x)]) (r : Rw) (A : Option Addr) (c : Nat) (hx : a.eval x = .agg (rwCells r A c).toArray)
    (hK : ∀ g w', Cs w' g 78 (rwCells r A c).toArray → Below w.heap.size w w' → w.heap.size ≤ g → K (a.put o.dst (.slice (some ⟨g, 0, none⟩) 1 1)) w') : o.wp Tryz.prog a w K Q := by
  refine wp_of_run2 (v := .slice (some ⟨w.heap.size, 0, none⟩) 1 1) (w' := w.alloc (.cells (rwCells r A c).toArray 78)) ?_ (hK _ _ (Cs.new _ _ _) ((Below.refl _ _).alloc (Nat.le_refl _) _) (Nat.le_refl _))
  unfold execOp
  simp only [ho, hx, List.map_toArray, List.map_cons, List.map_nil, rwCells]
  go_simp
theorem kept_bsv (F : Nat → Prop) (v : Value) (l : List UInt8) : Kept (fun u => BsV u F v l) := fun u u' h hb => h.below hb
theorem kept_ownX {α : Type} {E : Elem α} (B : Nat) (F : Nat → Prop) (v : Value) (ls : List α) : Kept (fun u => OwnX E u B F v ls) := fun u u' h hb => h.below hb
theorem without_len (t : List Rw) (key : Key) : (withoutP t key).length ≤ t.length := List.length_filter_le _ _
end Go.Proofs.YtfgbpinfplllgaaGreatDoor
namespace Go.Proofs.YtfgbpinfplllgaaGreatDoor
open Go.RowKit Go.Shelf
set_option maxRecDepth 100000
section
variable {α : Type} {E : Elem α}
structure OwnO (E : Elem α) (w : World) (B : Nat) (F : Nat → Prop) (v : Value) (ls : List α) : Prop where
  row : ∃ xs, w.ownsRow B E.ety E.n v ls.length xs ∧ RowX E w F xs ls
  old : ∀ k, F k → k < B
theorem OwnO.nil (w : World) (B : Nat) (F : Nat → Prop) (hF : ∀ k, F k → k < B) : OwnO E w B F (.slice none 0 0) [] := ⟨⟨[], World.ownsRow_nil _ _ _ _, RowX.nil _ _⟩, hF⟩
theorem OwnO.lt {w : World} {B : Nat} {F : Nat → Prop} {v : Value} {ls : List α} (h : OwnO E w B F v ls) : ∀ k, v.ownBlock = some k → B ≤ k ∧ k < w.heap.size := by
  obtain ⟨⟨vs, h1, h2⟩, h3⟩ := h
  exact h1.lt
theorem OwnO.turn {w w' : World} {B : Nat} {F G : Nat → Prop} {v : Value} {ls : List α} (h : OwnO E w B F v ls) (ht : Turn w w' G) (h1 : ∀ k, F k → ¬ G k) (h2 : ∀ k, v.ownBlock = some k → ¬ G k) : OwnO E w' B F v ls := by
  obtain ⟨⟨vs, hr, hx⟩, h3⟩ := h
  exact ⟨⟨vs, ownsRow_turn' hr ht h2, hx.turn ht h1⟩, h3⟩
theorem OwnO.below {w w' : World} {B : Nat} {F : Nat → Prop} {v : Value} {ls : List α} (h : OwnO E w B F v ls) (hb : Below w.heap.size w w') : OwnO E w' B F v ls := h.turn (Turn.of_below hb fun _ => False) (fun _ _ h => h) fun _ _ h => h
theorem OwnO.x {w : World} {B : Nat} {F : Nat → Prop} {v : Value} {ls : List α} (h : OwnO E w B F v ls) : OwnX E w B (fun q => F q ∨ B ≤ q) v ls := by
  obtain ⟨⟨vs, hr, hx⟩, h3⟩ := id h
  exact ⟨⟨vs, hr, hx.mono fun k _ hk => ⟨.inl hk, fun e => by have := (h.lt k e).1; have := h3 k hk; omega⟩⟩, fun k hk => .inr (h.lt k hk).1⟩
theorem OwnO.form {w : World} {B : Nat} {F : Nat → Prop} {v : Value} {ls : List α} (h : OwnO E w B F v ls) : ∃ A c, v = .slice A ls.length c ∧ RdX E w (fun q => F q ∨ B ≤ q) A ls ∧ ls.length ≤ c ∧ c ≤ maxLen ∧ (A = none → ls = [] ∧ c = 0) := h.x.form
variable {w : World} {ops : Array Oper} {rest : List Oper} {o : Oper} {a : Act} {Q : Exit → Act → World → Prop} {K : Act → World → Prop}
end
def aheadP (t : List Rw) (k : Key) : List Rw := t.filter fun y => lessK y.1 k
def behindP (t : List Rw) (k : Key) : List Rw := t.filter fun y => !lessK y.1 k
theorem withP_parts (t : List Rw) (x : Rw) : withP t x = aheadP t x.1 ++ [x] ++ behindP t x.1 := by simp [withP, aheadP, behindP]
theorem row_rd {w : World} {F : Nat → Prop} {A : Option Addr} {ls : List Rw} (h : RdX rowE w F A ls) (j : Nat) (hj : j < ls.length) : ∃ b off A' c, A = some ⟨b, off, none⟩ ∧ At w b (off + j * 2) (rwCells ls[j] A' c) ∧ BsV w F (.slice A' ls[j].2.length c) ls[j].2 := by
  obtain ⟨b, off, cs, e, ⟨v, rfl, A', c, rfl, h1⟩, hat⟩ := h.get j hj
  exact ⟨b, off, A', c, e, hat, A', c, rfl, h1⟩
theorem rw_c0 {w : World} {g : Nat} {x : Rw} {A : Option Addr} {c : Nat} (h : Cs w g 78 (rwCells x A c).toArray) : w.cell? ⟨g, 0, none⟩ = some (.string ⟨x.1.toArray⟩) := h.cell 0 rfl
end Go.Proofs.YtfgbpinfplllgaaGreatDoor
namespace Go.Proofs.YtfgbpinfplllgaaGreatDoor
open Go.RowKit Go.Shelf
set_option maxRecDepth 100000
theorem step_len (t : List Rw) (c : Ch) : (stepP t c).length ≤ t.length + 1 := by
  unfold stepP
  have h1 := without_len t c.1
  split
  · omega
  · rw [withP_parts]
    have h2 : (aheadP (withoutP t c.1) c.1).length + (behindP (withoutP t c.1) c.1).length = (withoutP t c.1).length := by
      unfold aheadP behindP
      generalize withoutP t c.1 = u
      induction u with
      | nil => rfl
      | cons y u ih => cases e : lessK y.1 c.1 <;> simp [e] <;> omega
    simp
    omega
theorem apply_len : ∀ (l : List Ch) (t : List Rw), (applyP t l).length ≤ t.length + l.length
  | [], t => by simp [applyP]
  | c :: l, t => by
    have h1 := apply_len l (stepP t c)
    have h2 := step_len t c
    show (applyP (stepP t c) l).length ≤ _
    simp only [List.length_cons]
    omega
def ApplyRet (t : List Rw) (l : List Ch) (w : World) (e : Ending) (w' : World) : Prop := Below w.heap.size w w' ∧
  if mayP t && mayCP l then ∃ v, e = .returned (.tuple #[v, .int .i64 0]) ∧ OwnX rowE w' w.heap.size (w.heap.size ≤ ·) v (applyP t l) else e = .returned (.tuple #[.slice none 0 0, .int .i64 2])
theorem ApplyRet.no {t : List Rw} {l : List Ch} {w w' : World} (h : (mayP t && mayCP l) = false) (hb : Below w.heap.size w w') : ApplyRet t l w (.returned (.tuple #[.slice none 0 0, .int .i64 2])) w' := ⟨hb, by rw [h]; rfl⟩
theorem ApplyRet.yes {t : List Rw} {l : List Ch} {w w' : World} {v : Value} (h : (mayP t && mayCP l) = true) (hb : Below w.heap.size w w') (ho : OwnX rowE w' w.heap.size (w.heap.size ≤ ·) v (applyP t l)) : ApplyRet t l w (.returned (.tuple #[v, .int .i64 0])) w' := ⟨hb, by rw [h, if_pos rfl]; exact ⟨v, rfl, ho⟩⟩
end Go.Proofs.YtfgbpinfplllgaaGreatDoor
namespace Go.Proofs.YtfgbpinfplllgaaGreatDoor
open Go.RowKit Go.Shelf
set_option maxRecDepth 100000
def rwZero : List Value := [.string ⟨#[]⟩, .slice none 0 0]
theorem zeroRw (w : World) : (zeroValue 78).run Tryz.prog w = .ok (.agg rwZero.toArray) w := by kernel_rfl
def BetwRet (a b : List Rw) (w : World) (e : Ending) (w' : World) : Prop := Below w.heap.size w w' ∧
  if mayP a && mayP b then ∃ v, e = .returned (.tuple #[v, .int .i64 0]) ∧ OwnX chgE w' w.heap.size (w.heap.size ≤ ·) v (betweenP a b) else e = .returned (.tuple #[.slice none 0 0, .int .i64 2])
theorem BetwRet.no {a b : List Rw} {w w' : World} (h : (mayP a && mayP b) = false) (hb : Below w.heap.size w w') : BetwRet a b w (.returned (.tuple #[.slice none 0 0, .int .i64 2])) w' := ⟨hb, by rw [h]; rfl⟩
theorem BetwRet.yes {a b : List Rw} {w w' : World} {v : Value} (h : (mayP a && mayP b) = true) (hb : Below w.heap.size w w') (ho : OwnX chgE w' w.heap.size (w.heap.size ≤ ·) v (betweenP a b)) : BetwRet a b w (.returned (.tuple #[v, .int .i64 0])) w' := ⟨hb, by rw [h, if_pos rfl]; exact ⟨v, rfl, ho⟩⟩
end Go.Proofs.YtfgbpinfplllgaaGreatDoor
