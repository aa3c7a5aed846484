/- What layer 7's program answers, in words that its laws take: values of new memory, lists; nothing of how it is done. -/
import Derived.Test.YtiemphfikfigdaaTblK
import Derived.Test.YtiemphfikfigdaaBatRK
namespace Go.Proofs.Ytiemphfikfigdaa
open Go.RowKit Go.Shelf
set_option linter.unusedVariables false
set_option maxRecDepth 100000
set_option linter.unusedSimpArgs false

/-- bytes in a block of F, the room behind them bytes, too -/
def NewV (w : World) (F : Nat → Prop) (v : Value) (l : List UInt8) : Prop := BsV w F v l ∧ TyB w v ∧ ∀ k, v.ownBlock = some k → F k ∧ k < w.heap.size
theorem NewV.turn {w w' : World} {F G : Nat → Prop} {v : Value} {l : List UInt8} (h : NewV w F v l) (ht : Turn w w' G) (hG : ∀ k, F k → ¬ G k) : NewV w' F v l := ⟨h.1.turn ht hG, h.2.1.turn ht fun k hk => hG k (h.2.2 k hk).1, fun k hk => ⟨(h.2.2 k hk).1, Nat.lt_of_lt_of_le (h.2.2 k hk).2 ht.size⟩⟩
theorem NewV.mono {w : World} {F G : Nat → Prop} {v : Value} {l : List UInt8} (h : NewV w F v l) (hF : ∀ k, k < w.heap.size → F k → G k) : NewV w G v l := ⟨h.1.mono hF, h.2.1, fun k hk => ⟨hF k (h.2.2 k hk).2 (h.2.2 k hk).1, (h.2.2 k hk).2⟩⟩
theorem NewV.below {w w' : World} {F : Nat → Prop} {v : Value} {l : List UInt8} (h : NewV w F v l) (hb : Below w.heap.size w w') : NewV w' F v l := h.turn (Turn.of_below hb fun _ => False) fun _ _ h => h
/-- bytes of one's own, typed -/
theorem NewV.own {w : World} {base : Nat} {F : Nat → Prop} {v : Value} {l : List UInt8} (h : w.ownsRow base 5 1 v l.length (cellsOf l)) (ht : TyB w v) (hF : ∀ k, base ≤ k → F k) : NewV w F v l := by
  refine ⟨?_, ht, fun k hk => ⟨hF k (h.lt k hk).1, (h.lt k hk).2⟩⟩
  rcases h.2 with ⟨rfl, h0⟩ | ⟨g, cap, cur, rfl, hb, hg, hl, hm, r⟩
  · have : l = [] := List.eq_nil_of_length_eq_zero h0
    subst this
    exact BsV.nil _ _
  · exact ⟨_, cap, rfl, (own_rd h).f (fun b off e _ => by cases e; exact hF _ hb), (fun e => by cases e), hl, hm⟩
def rowN : Elem Rw where
  ety := 50
  sty := 36
  n := 2
  bytes := 40
  rd w F cs x := ∃ v, cs = [sv x.1, v] ∧ NewV w F v x.2
  und := Try.underlying36
  info := ⟨_, _, rfl, rfl, rfl, rfl, rfl⟩
  pos := by decide
  byt := by decide
  len := by rintro w F cs x ⟨v, rfl, _⟩; rfl
  one := by
    rintro w F cs x ⟨v, rfl, h⟩ u hu
    simp at hu
    rcases hu with rfl | rfl
    · rfl
    · exact h.1.one
  turn := by rintro w w' F G cs x ⟨v, h, hv⟩ ht hG; exact ⟨v, h, hv.turn ht hG⟩
  mono := by rintro w F G cs x ⟨v, h, hv⟩ hF; exact ⟨v, h, hv.mono hF⟩
def chgN : Elem Ch where
  ety := 52
  sty := 22
  n := 3
  bytes := 48
  rd w F cs x := ∃ v, cs = [sv x.1, v, .bool x.2.2] ∧ NewV w F v x.2.1
  und := Try.underlying22
  info := ⟨_, _, rfl, rfl, rfl, rfl, rfl⟩
  pos := by decide
  byt := by decide
  len := by rintro w F cs x ⟨v, rfl, _⟩; rfl
  one := by
    rintro w F cs x ⟨v, rfl, h⟩ u hu
    simp at hu
    rcases hu with rfl | rfl | rfl
    · rfl
    · exact h.1.one
    · rfl
  turn := by rintro w w' F G cs x ⟨v, h, hv⟩ ht hG; exact ⟨v, h, hv.turn ht hG⟩
  mono := by rintro w F G cs x ⟨v, h, hv⟩ hF; exact ⟨v, h, hv.mono hF⟩
theorem RdX.rowE {w : World} {F : Nat → Prop} {A : Option Addr} {ls : List Rw} (h : RdX rowN w F A ls) : RdX rowE w F A ls := by
  rcases h with h | ⟨b, off, xs, e, hF, ⟨hl, hr⟩, hc⟩
  · exact .inl h
  · exact .inr ⟨b, off, xs, e, hF, ⟨hl, fun j hj => by obtain ⟨v, h1, h2⟩ := hr j hj; exact ⟨v, h1, h2.1⟩⟩, hc⟩
theorem RdX.chgE {w : World} {F : Nat → Prop} {A : Option Addr} {ls : List Ch} (h : RdX chgN w F A ls) : RdX chgE w F A ls := by
  rcases h with h | ⟨b, off, xs, e, hF, ⟨hl, hr⟩, hc⟩
  · exact .inl h
  · exact .inr ⟨b, off, xs, e, hF, ⟨hl, fun j hj => by obtain ⟨v, h1, h2⟩ := hr j hj; exact ⟨v, h1, h2.1⟩⟩, hc⟩
/-- a value that is a list -/
def LsV {α : Type} (E : Elem α) (w : World) (F : Nat → Prop) (v : Value) (ls : List α) : Prop := ∃ A c, v = .slice A ls.length c ∧ RdX E w F A ls ∧ ls.length ≤ c ∧ c ≤ maxLen ∧ (A = none → ls = [] ∧ c = 0)
theorem LsV.turn {α : Type} {E : Elem α} {w w' : World} {F G : Nat → Prop} {v : Value} {ls : List α} (h : LsV E w F v ls) (ht : Turn w w' G) (hG : ∀ k, F k → ¬ G k) : LsV E w' F v ls := by
  obtain ⟨A, c, h1, h2, h3⟩ := h
  exact ⟨A, c, h1, h2.turn ht hG, h3⟩
theorem LsV.below {α : Type} {E : Elem α} {w w' : World} {F : Nat → Prop} {v : Value} {ls : List α} (h : LsV E w F v ls) (hb : Below w.heap.size w w') : LsV E w' F v ls := h.turn (Turn.of_below hb fun _ => False) fun _ _ h => h
theorem LsV.nil {α : Type} {E : Elem α} (w : World) (F : Nat → Prop) : LsV E w F (.slice none 0 0) [] := ⟨none, 0, rfl, .inl rfl, Nat.le_refl _, Nat.zero_le _, fun _ => ⟨rfl, rfl⟩⟩
theorem OwnX.ls {α : Type} {E : Elem α} {w : World} {base : Nat} {F : Nat → Prop} {v : Value} {ls : List α} (h : OwnX E w base F v ls) : LsV E w F v ls := h.form
theorem LsV.rowE {w : World} {F : Nat → Prop} {v : Value} {ls : List Rw} (h : LsV rowN w F v ls) : LsV rowE w F v ls := by
  obtain ⟨A, c, h1, h2, h3⟩ := h
  exact ⟨A, c, h1, h2.rowE, h3⟩
theorem LsV.chgE {w : World} {F : Nat → Prop} {v : Value} {ls : List Ch} (h : LsV chgN w F v ls) : LsV chgE w F v ls := by
  obtain ⟨A, c, h1, h2, h3⟩ := h
  exact ⟨A, c, h1, h2.chgE, h3⟩
def anyB (k : Nat) : Prop := True
/-- the bytes of changes, or 2 -/
def P7Put (l : List Ch) (w : World) (e : Ending) (w' : World) : Prop := Below w.heap.size w w' ∧ ∃ v, e = .returned (.tuple #[v, .int .i64 (if mayCP l then 0 else 2)]) ∧ BsV w' anyB v (if mayCP l then putFrom [] l else [])
def P7Get (b : List UInt8) (w : World) (e : Ending) (w' : World) : Prop := Below w.heap.size w w' ∧ match getC b with
  | .error er => ∃ v, e = .returned (.tuple #[v, .int .i64 er]) ∧ LsV chgE w' anyB v []
  | .ok l => ∃ v, e = .returned (.tuple #[v, .int .i64 0]) ∧ LsV chgE w' anyB v l
def P7Find (t : List Rw) (key : Key) (w : World) (e : Ending) (w' : World) : Prop := Below w.heap.size w w' ∧ ∃ v, e = .returned (.tuple #[v, .bool (findP t key).isSome]) ∧ NewV w' (w.heap.size ≤ ·) v ((findP t key).getD [])
def P7Apply (t : List Rw) (l : List Ch) (w : World) (e : Ending) (w' : World) : Prop := Below w.heap.size w w' ∧ ∃ v, e = .returned (.tuple #[v, .int .i64 (if mayP t && mayCP l then 0 else 2)]) ∧ LsV rowN w' (w.heap.size ≤ ·) v (if mayP t && mayCP l then applyP t l else [])
def P7Betw (a b : List Rw) (w : World) (e : Ending) (w' : World) : Prop := Below w.heap.size w w' ∧ ∃ v, e = .returned (.tuple #[v, .int .i64 (if mayP a && mayP b then 0 else 2)]) ∧ LsV chgN w' (w.heap.size ≤ ·) v (if mayP a && mayP b then betweenP a b else [])
theorem P7Put.yes {l : List Ch} {w w' : World} {e : Ending} (h : P7Put l w e w') (hm : mayCP l = true) : ∃ A c, e = .returned (.tuple #[.slice A (putFrom [] l).length c, .int .i64 0]) ∧ BsV w' anyB (.slice A (putFrom [] l).length c) (putFrom [] l) ∧ Below w.heap.size w w' := by
  obtain ⟨hb, v, rfl, hv⟩ := h
  rw [hm, if_pos rfl] at *
  obtain ⟨A, c, rfl, r⟩ := id hv
  exact ⟨A, c, rfl, hv, hb⟩
theorem P7Put.no {l : List Ch} {w w' : World} {e : Ending} (h : P7Put l w e w') (hm : mayCP l = false) : ∃ A c, e = .returned (.tuple #[.slice A 0 c, .int .i64 2]) ∧ BsV w' anyB (.slice A 0 c) [] ∧ Below w.heap.size w w' := by
  obtain ⟨hb, v, rfl, hv⟩ := h
  rw [hm, if_neg (by decide)] at *
  obtain ⟨A, c, rfl, r⟩ := id hv
  exact ⟨A, c, rfl, hv, hb⟩
theorem P7Get.err {b : List UInt8} {w w' : World} {e : Ending} {er : Int} (h : P7Get b w e w') (hm : getC b = .error er) : ∃ A c, e = .returned (.tuple #[.slice A 0 c, .int .i64 er]) ∧ LsV chgE w' anyB (.slice A 0 c) [] ∧ Below w.heap.size w w' := by
  obtain ⟨hb, h⟩ := h
  rw [hm] at h
  obtain ⟨v, rfl, hv⟩ := h
  obtain ⟨A, c, rfl, r⟩ := id hv
  exact ⟨A, c, rfl, hv, hb⟩
theorem P7Get.has {b : List UInt8} {w w' : World} {e : Ending} {l : List Ch} (h : P7Get b w e w') (hm : getC b = .ok l) : ∃ A c, e = .returned (.tuple #[.slice A l.length c, .int .i64 0]) ∧ LsV chgE w' anyB (.slice A l.length c) l ∧ Below w.heap.size w w' := by
  obtain ⟨hb, h⟩ := h
  rw [hm] at h
  obtain ⟨v, rfl, hv⟩ := h
  obtain ⟨A, c, rfl, r⟩ := id hv
  exact ⟨A, c, rfl, hv, hb⟩
theorem P7Find.is {t : List Rw} {key : Key} {w w' : World} {e : Ending} {x : Option (List UInt8)} (h : P7Find t key w e w') (hm : findP t key = x) : ∃ A c, e = .returned (.tuple #[.slice A (x.getD []).length c, .bool x.isSome]) ∧ NewV w' (w.heap.size ≤ ·) (.slice A (x.getD []).length c) (x.getD []) ∧ Below w.heap.size w w' := by
  obtain ⟨hb, v, rfl, hv⟩ := h
  rw [hm] at *
  obtain ⟨A, c, rfl, r⟩ := id hv.1
  exact ⟨A, c, rfl, hv, hb⟩
theorem P7Apply.yes {t : List Rw} {l : List Ch} {w w' : World} {e : Ending} (h : P7Apply t l w e w') (hm : (mayP t && mayCP l) = true) : ∃ A c, e = .returned (.tuple #[.slice A (applyP t l).length c, .int .i64 0]) ∧ LsV rowN w' (w.heap.size ≤ ·) (.slice A (applyP t l).length c) (applyP t l) ∧ Below w.heap.size w w' := by
  obtain ⟨hb, v, rfl, hv⟩ := h
  rw [hm, if_pos rfl] at *
  obtain ⟨A, c, rfl, r⟩ := id hv
  exact ⟨A, c, rfl, hv, hb⟩
theorem P7Apply.no {t : List Rw} {l : List Ch} {w w' : World} {e : Ending} (h : P7Apply t l w e w') (hm : (mayP t && mayCP l) = false) : ∃ A c, e = .returned (.tuple #[.slice A 0 c, .int .i64 2]) ∧ LsV rowN w' (w.heap.size ≤ ·) (.slice A 0 c) [] ∧ Below w.heap.size w w' := by
  obtain ⟨hb, v, rfl, hv⟩ := h
  rw [hm, if_neg (by decide)] at *
  obtain ⟨A, c, rfl, r⟩ := id hv
  exact ⟨A, c, rfl, hv, hb⟩
theorem P7Betw.yes {a b : List Rw} {w w' : World} {e : Ending} (h : P7Betw a b w e w') (hm : (mayP a && mayP b) = true) : ∃ A c, e = .returned (.tuple #[.slice A (betweenP a b).length c, .int .i64 0]) ∧ LsV chgN w' (w.heap.size ≤ ·) (.slice A (betweenP a b).length c) (betweenP a b) ∧ Below w.heap.size w w' := by
  obtain ⟨hb, v, rfl, hv⟩ := h
  rw [hm, if_pos rfl] at *
  obtain ⟨A, c, rfl, r⟩ := id hv
  exact ⟨A, c, rfl, hv, hb⟩
theorem P7Betw.no {a b : List Rw} {w w' : World} {e : Ending} (h : P7Betw a b w e w') (hm : (mayP a && mayP b) = false) : ∃ A c, e = .returned (.tuple #[.slice A 0 c, .int .i64 2]) ∧ LsV chgN w' (w.heap.size ≤ ·) (.slice A 0 c) [] ∧ Below w.heap.size w w' := by
  obtain ⟨hb, v, rfl, hv⟩ := h
  rw [hm, if_neg (by decide)] at *
  obtain ⟨A, c, rfl, r⟩ := id hv
  exact ⟨A, c, rfl, hv, hb⟩
/-- a list's parts -/
theorem LsV.at {α : Type} {E : Elem α} {w : World} {F : Nat → Prop} {A : Option Addr} {n c : Nat} {ls : List α} (h : LsV E w F (.slice A n c) ls) : n = ls.length ∧ RdX E w F A ls ∧ ls.length ≤ c ∧ c ≤ maxLen ∧ (A = none → ls = [] ∧ c = 0) := by
  obtain ⟨A', c', e, h⟩ := h
  cases e
  exact ⟨rfl, h⟩
theorem BsV.at {w : World} {F : Nat → Prop} {A : Option Addr} {n c : Nat} {l : List UInt8} (h : BsV w F (.slice A n c) l) : n = l.length ∧ Rd w A l ∧ l.length ≤ c ∧ c ≤ maxLen ∧ (A = none → l = [] ∧ c = 0) := by
  obtain ⟨A', c', e, h1, h2, h3, h4⟩ := h
  cases e
  exact ⟨rfl, h1.rd, h3, h4, h2⟩
def K7Put : Prop := ∀ (l : List Ch) (v : Value) (F : Nat → Prop) (w : World), SmallC l → l.length ≤ 100000 → LsV chgE w F v l → Calls Try.prog 10 #[v] w fun e w' => P7Put l w e w'
def K7Get : Prop := ∀ (b : List UInt8) (v : Value) (F : Nat → Prop) (w : World), b.length ≤ 10000000 → BsV w F v b → Calls Try.prog 12 #[v] w fun e w' => P7Get b w e w'
def K7May : Prop := ∀ (t : List Rw) (v : Value) (F : Nat → Prop) (w : World), SmallR t → LsV rowE w F v t → Calls Try.prog 23 #[v] w fun e w' => e = .returned (.bool (mayP t)) ∧ Below w.heap.size w w'
def K7MayC : Prop := ∀ (t : List Ch) (v : Value) (F : Nat → Prop) (w : World), SmallC t → LsV chgE w F v t → Calls Try.prog 14 #[v] w fun e w' => e = .returned (.bool (mayCP t)) ∧ Below w.heap.size w w'
def K7Shared : Prop := ∀ (a b : Key) (w : World), a.length ≤ 9223372036854775807 → b.length ≤ 9223372036854775807 → Calls Try.prog 18 #[.string ⟨a.toArray⟩, .string ⟨b.toArray⟩] w fun e w' => e = .returned (.int .i64 (sharedP a b : Int)) ∧ Below w.heap.size w w'
def K7Find : Prop := ∀ (t : List Rw) (key : Key) (v : Value) (F : Nat → Prop) (w : World), SmallR t → t.length ≤ 1000 → key.length ≤ 9223372036854775807 → LsV rowE w F v t → Calls Try.prog 28 #[v, .string ⟨key.toArray⟩] w fun e w' => P7Find t key w e w'
def K7Apply : Prop := ∀ (t : List Rw) (l : List Ch) (v u : Value) (F G : Nat → Prop) (w : World), SmallR t → SmallC l → t.length ≤ 1000 → l.length ≤ 1000 → LsV rowE w F v t → LsV chgE w G u l → Calls Try.prog 21 #[v, u] w fun e w' => P7Apply t l w e w'
def K7Betw : Prop := ∀ (a b : List Rw) (v u : Value) (F G : Nat → Prop) (w : World), SmallR a → SmallR b → a.length ≤ 1000 → b.length ≤ 1000 → LsV rowE w F v a → LsV rowE w G u b → Calls Try.prog 26 #[v, u] w fun e w' => P7Betw a b w e w'
/-- what the laws take of the program -/
structure K7 : Prop where
  put : K7Put
  get : K7Get
  may : K7May
  mayC : K7MayC
  shared : K7Shared
  find : K7Find
  apply : K7Apply
  betw : K7Betw
/-- the values of a list, as far as Spoil wants them known: steps of n cells, the value in the second -/
def Spl (n : Nat) (w : World) (base : Nat) (A : Option Addr) (m : Nat) : Prop := ∀ j, j < m → ∃ b off v, A = some ⟨b, off, none⟩ ∧ w.cell? ⟨b, off + j * n + 1, none⟩ = some v ∧ TyB w v ∧ ∀ k, v.ownBlock = some k → base ≤ k ∧ k < w.heap.size
theorem RdX.splR {w : World} {base : Nat} {A : Option Addr} {ls : List Rw} (h : RdX rowN w (base ≤ ·) A ls) : Spl 2 w base A ls.length := fun j hj => by
  obtain ⟨b, off, cs, e, ⟨v, rfl, h1, h2, h3⟩, hat⟩ := h.get j hj
  exact ⟨b, off, v, e, hat 1 _ rfl, h2, h3⟩
theorem RdX.splC {w : World} {base : Nat} {A : Option Addr} {ls : List Ch} (h : RdX chgN w (base ≤ ·) A ls) : Spl 3 w base A ls.length := fun j hj => by
  obtain ⟨b, off, cs, e, ⟨v, rfl, h1, h2, h3⟩, hat⟩ := h.get j hj
  exact ⟨b, off, v, e, hat 1 _ rfl, h2, h3⟩
theorem Spl.below {n : Nat} {w w' : World} {base : Nat} {A : Option Addr} {m : Nat} (h : Spl n w base A m) (hb : Below w.heap.size w w') : Spl n w' base A m := fun j hj => by
  obtain ⟨b, off, v, e, hc, ht, hk⟩ := h j hj
  exact ⟨b, off, v, e, (hb.cell (lt_of_cell hc)).trans hc, ht.below hb, fun k e => ⟨(hk k e).1, Nat.lt_of_lt_of_le (hk k e).2 hb.size⟩⟩
theorem cs_mem {w : World} {g i : Nat} {t : TypeId} {cur : Array Value} {v : Value} (h : Cs w g t cur) (hc : w.cell? ⟨g, i, none⟩ = some v) : v ∈ cur.toList := by
  have := (cell_of_row w g i cur t (0, 0) h).symm.trans hc
  exact List.mem_of_getElem? (i := i) (by simpa using this)
/-- a value of bytes is spoilt: the list stands, its values are typed as they were -/
theorem Spl.spoilt {n : Nat} {w w' : World} {base : Nat} {A : Option Addr} {m : Nat} {u : Value} {e : Ending} (h : Spl n w base A m) (hu : TyB w u) (hs : SpoiltRet u w e w') : Spl n w' base A m := fun j hj => by
  obtain ⟨b, off, v, ea, hc, ht, hk⟩ := h j hj
  refine ⟨b, off, v, ea, ?_, hs.2.2 v ht, fun k e => ⟨(hk k e).1, Nat.lt_of_lt_of_le (hk k e).2 hs.2.1.size⟩⟩
  refine (World.cell?_of_block (w := w) (hs.2.1.block b (lt_of_cell hc) ?_)).trans hc
  intro hown
  rcases hu with rfl | ⟨g, n', cap, cur, rfl, hcs, h1, h2, h3⟩
  · cases hown
  · cases hown
    have hv := List.all_eq_true.1 h3 v (cs_mem hcs hc)
    rcases ht with rfl | ⟨g, _, _, _, rfl, _⟩ <;> cases hv

end Go.Proofs.Ytiemphfikfigdaa
