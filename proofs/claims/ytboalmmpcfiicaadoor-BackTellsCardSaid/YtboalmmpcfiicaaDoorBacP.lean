/- Replies, plain: which may be, their bytes, what is told of bytes; what is put is got, what is got is put. -/
import Derived.Test.YtboalmmpcfiicaaDoorFds
import Derived.Test.YtboalmmpcfiicaaDoorNameLeaf
namespace Go.Proofs.YtboalmmpcfiicaaDoor
open Go.RowKit Go.Shelf
set_option linter.unusedVariables false
set_option maxRecDepth 100000
set_option linter.unusedSimpArgs false

/-- a reply -/
structure BackX where
  client : Nat
  inc : Nat
  seq : Nat
  status : Nat
  ino : Nat
  gen : Nat
  dir : Bool
  size : Nat
  change : Nat
  before : Nat
  data : List UInt8
  names : List ByteArray
  boot : Nat
/-- a reply in memory, its bytes at v, its names at u -/
def bacCells (c : BackX) (v u : Value) : List Value := [.int .u8 (c.client : Int), .int .u32 (c.inc : Int), .int .u64 (c.seq : Int), .int .u8 (c.status : Int), .int .u32 (c.ino : Int), .int .u32 (c.gen : Int), .bool c.dir, .int .u32 (c.size : Int), .int .u64 (c.change : Int), .int .u64 (c.before : Int), v, u, .int .u32 (c.boot : Int)]
def bacOk (c : BackX) : Prop := c.client < 256 ∧ c.inc < 4294967296 ∧ c.seq < 18446744073709551616 ∧ c.status < 256 ∧ c.ino < 4294967296 ∧ c.gen < 4294967296 ∧ c.size < 4294967296 ∧ c.change < 18446744073709551616 ∧ c.before < 18446744073709551616 ∧ c.boot < 4294967296
def bacZero : BackX := ⟨0, 0, 0, 0, 0, 0, false, 0, 0, 0, [], [], 0⟩
/-- the text at a place -/
def txAt (l : List ByteArray) (i : Nat) : List UInt8 := L (l.getD i ⟨#[]⟩)
def lessB (a b : List UInt8) : Bool := decide (a < b)
/-- may the text at a place be a reply's? -/
def nameAtB (l : List ByteArray) (i : Nat) : Bool := nameL (txAt l i) && (i == 0 || lessB (txAt l (i - 1)) (txAt l i))
def namesB (l : List ByteArray) : Bool := (List.range l.length).all (nameAtB l)
def mayB (c : BackX) : Bool := decide (c.client < 4) && decide (0 < c.inc) && decide (0 < c.seq) && decide (c.status ≤ 9) && decide (c.size ≤ 4096) && decide (c.data.length ≤ 64) && decide (c.names.length ≤ 32) && namesB c.names
def namesSame (a b : List ByteArray) : Bool := a.map L == b.map L
def sameB (a b : BackX) : Bool := a.client == b.client && a.inc == b.inc && a.seq == b.seq && a.status == b.status && ((a.ino == b.ino && a.gen == b.gen) && a.dir == b.dir && a.size == b.size && a.change == b.change) && a.before == b.before && a.data == b.data && namesSame a.names b.names && a.boot == b.boot
theorem mapL_inj : ∀ {a b : List ByteArray}, a.map L = b.map L → a = b
  | [], [], _ => rfl
  | [], _ :: _, h => by simp at h
  | _ :: _, [], h => by simp at h
  | x :: a, y :: b, h => by
    simp only [List.map_cons, List.cons.injEq] at h
    have hx : x = y := by
      have : (⟨(L x).toArray⟩ : ByteArray) = ⟨(L y).toArray⟩ := by rw [h.1]
      exact this
    rw [hx, mapL_inj h.2]
theorem sameB_iff (a b : BackX) : sameB a b = true ↔ a = b := by
  constructor
  · intro h
    simp only [sameB, namesSame, Bool.and_eq_true, beq_iff_eq] at h
    obtain ⟨⟨⟨⟨⟨⟨⟨⟨h1, h2⟩, h3⟩, h4⟩, ⟨⟨⟨h5, h6⟩, h7⟩, h8⟩, h9⟩, h10⟩, h11⟩, h12⟩, h13⟩ := h
    obtain ⟨a1, a2, a3, a4, a5, a6, a7, a8, a9, a10, a11, a12, a13⟩ := a
    obtain ⟨b1, b2, b3, b4, b5, b6, b7, b8, b9, b10, b11, b12, b13⟩ := b
    have e12 := mapL_inj h12
    simp_all
  · rintro rfl
    simp [sameB, namesSame]
theorem sameB_self (a : BackX) : sameB a a = true := (sameB_iff a a).2 rfl
/- the bytes -/
def bacS : List Sh := [.n, .n, .g, .n, .n, .n, .n, .t, .n, .g, .g, .b, .n]
def bacD (c : BackX) : List Fd := [⟨c.client, []⟩, ⟨c.inc, []⟩, ⟨c.seq, []⟩, ⟨c.status, []⟩, ⟨c.boot, []⟩, ⟨c.ino, []⟩, ⟨c.gen, []⟩, ⟨if c.dir then 1 else 0, []⟩, ⟨c.size, []⟩, ⟨c.change, []⟩, ⟨c.before, []⟩, ⟨0, c.data⟩, ⟨c.names.length, []⟩]
def namS (n : Nat) : List Sh := List.replicate n .b
def namD (l : List ByteArray) : List Fd := l.map fun s => ⟨0, L s⟩
def putB (c : BackX) : List UInt8 := layL bacS (bacD c) ++ layL (namS c.names.length) (namD c.names)
/-- what is told of bytes: the head, then the names -/
def bheadR (l : List UInt8) : List Fd × RS := tellL 4096 bacS ⟨l, 0, 0⟩
def manyR (l : List UInt8) : Nat := ((bheadR l).1.getD 12 ⟨0, []⟩).n
def bnamR (l : List UInt8) : List Fd × RS := tellL 4096 (namS (manyR l)) (bheadR l).2
def bacC (xs ys : List Fd) : BackX := match xs with
  | [a, b, c, d, e, f, g, h, i, j, k, m, _] => ⟨a.n, b.n, c.n, d.n, f.n, g.n, h.n == 1, i.n, j.n, k.n, m.b, ys.map (fun y => ⟨y.b.toArray⟩), e.n⟩
  | _ => bacZero
def backR (l : List UInt8) : BackX := bacC (bheadR l).1 (bnamR l).1
/-- the reply that bytes are, or the error -/
def getB (l : List UInt8) : BackX × Int :=
  if 4096 < l.length then (bacZero, 3)
  else if (bheadR l).2.err = 0 ∧ 32 < manyR l then (bacZero, 3)
  else if (bnamR l).2.err ≠ 0 then (bacZero, (bnamR l).2.err)
  else if (bnamR l).2.pos < l.length ∨ mayB (backR l) = false then (bacZero, 5)
  else (backR l, 0)

theorem nameB_len {l : List UInt8} (h : nameL l = true) : l.length ≤ 32 := by
  simp only [nameL, Bool.and_eq_true, decide_eq_true_eq] at h
  exact h.1.1.1.2
theorem mayB_parts {c : BackX} (h : mayB c = true) : c.client < 4 ∧ c.data.length ≤ 64 ∧ c.names.length ≤ 32 ∧ ∀ s ∈ c.names, (L s).length ≤ 32 := by
  simp only [mayB, Bool.and_eq_true, decide_eq_true_eq] at h
  obtain ⟨⟨⟨⟨⟨⟨⟨h1, h2⟩, h3⟩, h4⟩, h5⟩, h6⟩, h7⟩, h8⟩ := h
  refine ⟨h1, h6, h7, fun s hs => ?_⟩
  obtain ⟨i, hi, rfl⟩ := List.mem_iff_getElem.1 hs
  have := List.all_eq_true.1 h8 i (List.mem_range.2 hi)
  unfold nameAtB txAt at this
  rw [Bool.and_eq_true, List.getD_eq_getElem?_getD, List.getElem?_eq_getElem hi, Option.getD_some] at this
  exact nameB_len this.1
theorem bacD_ok {c : BackX} (h : bacOk c) (hd : c.data.length ≤ 4096) (hn : c.names.length < 4294967296) : fdsOk 4096 bacS (bacD c) := by
  obtain ⟨h1, h2, h3, h4, h5, h6, h7, h8, h9, h10⟩ := h
  refine ⟨⟨?_, rfl⟩, ⟨h2, rfl⟩, ⟨h3, rfl⟩, ⟨?_, rfl⟩, ⟨h10, rfl⟩, ⟨h5, rfl⟩, ⟨h6, rfl⟩, ⟨?_, rfl⟩, ⟨h7, rfl⟩, ⟨h8, rfl⟩, ⟨h9, rfl⟩, ⟨hd, rfl⟩, ⟨hn, rfl⟩, trivial⟩
  · show c.client < 4294967296; omega
  · show c.status < 4294967296; omega
  · show (if c.dir then 1 else 0) < 2; split <;> omega
theorem namD_ok : ∀ {l : List ByteArray}, (∀ s ∈ l, (L s).length ≤ 4096) → fdsOk 4096 (namS l.length) (namD l)
  | [], _ => trivial
  | x :: l, h => ⟨⟨h x (by simp), rfl⟩, namD_ok fun s hs => h s (by simp [hs])⟩
theorem namD_len (l : List ByteArray) : (namD l).length = l.length := by simp [namD]
theorem lay_names : ∀ {l : List ByteArray}, (∀ s ∈ l, (L s).length ≤ 32) → (layL (namS l.length) (namD l)).length ≤ 40 * l.length
  | [], _ => by simp [namS, namD, layL]
  | x :: l, h => by
    have h1 := lay_names (l := l) fun s hs => h s (by simp [hs])
    have h2 := bytesX_length (L x)
    have h3 := padN_lt (L x).length
    have h4 := h x (by simp)
    show (bytesX (L x) ++ layL (namS l.length) (namD l)).length ≤ 40 * (l.length + 1)
    rw [List.length_append]
    omega
theorem putB_small {c : BackX} (h : mayB c = true) : (putB c).length ≤ 1412 := by
  obtain ⟨f1, f2, f3, f4⟩ := mayB_parts h
  have h1 := lay_names f4
  have h2 := bytesX_length c.data
  have h3 := padN_lt c.data.length
  have h4 : (layL bacS (bacD c)).length = 60 + (bytesX c.data).length := by
    simp [bacS, bacD, layL, layF, beL_length, truthX_length]
    omega
  unfold putB
  rw [List.length_append, h4]
  omega
theorem bhead_put {c : BackX} (h : bacOk c) (hd : c.data.length ≤ 4096) (hn : c.names.length < 4294967296) (q : List UInt8) : bheadR (layL bacS (bacD c) ++ q) = (bacD c, ⟨layL bacS (bacD c) ++ q, (layL bacS (bacD c)).length, 0⟩) := by
  have := okL 4096 (by decide) bacS (bacD c) [] q (bacD_ok h hd hn)
  simpa [bheadR] using this
theorem many_put {c : BackX} (h : bacOk c) (hd : c.data.length ≤ 4096) (hn : c.names.length < 4294967296) (q : List UInt8) : manyR (layL bacS (bacD c) ++ q) = c.names.length := by
  unfold manyR
  rw [bhead_put h hd hn]
  rfl
theorem bnam_put {c : BackX} (h : bacOk c) (hm : mayB c = true) (q : List UInt8) : bnamR (putB c ++ q) = (namD c.names, ⟨putB c ++ q, (putB c).length, 0⟩) := by
  obtain ⟨f1, f2, f3, f4⟩ := mayB_parts hm
  have hd : c.data.length ≤ 4096 := by omega
  have hn : c.names.length < 4294967296 := by omega
  unfold putB bnamR
  rw [List.append_assoc, many_put h hd hn, bhead_put h hd hn]
  have := okL 4096 (by decide) (namS c.names.length) (namD c.names) (layL bacS (bacD c)) q (namD_ok fun s hs => by have := f4 s hs; omega)
  rw [List.append_assoc] at this
  rw [this, List.length_append]
theorem names_back (l : List ByteArray) : ((namD l).map fun y => (⟨y.b.toArray⟩ : ByteArray)) = l := by
  unfold namD
  rw [List.map_map]
  conv => rhs; rw [← List.map_id l]
  rfl
theorem bacC_put (c : BackX) : bacC (bacD c) (namD c.names) = c := by
  unfold bacC bacD
  dsimp only
  rw [names_back]
  obtain ⟨a1, a2, a3, a4, a5, a6, a7, a8, a9, a10, a11, a12, a13⟩ := c
  cases a7 <;> rfl
theorem putB_get {c : BackX} (h : bacOk c) (hm : mayB c = true) (q : List UInt8) (hq : ¬ 4096 < (putB c ++ q).length) : getB (putB c ++ q) = if q = [] then (c, 0) else (bacZero, 5) := by
  obtain ⟨f1, f2, f3, f4⟩ := mayB_parts hm
  have hd : c.data.length ≤ 4096 := by omega
  have hn : c.names.length < 4294967296 := by omega
  have e1 : manyR (putB c ++ q) = c.names.length := by unfold putB; rw [List.append_assoc]; exact many_put h hd hn _
  have e2 : (bheadR (putB c ++ q)).1 = bacD c := by unfold putB; rw [List.append_assoc, bhead_put h hd hn]
  have e3 := bnam_put h hm q
  have e4 : backR (putB c ++ q) = c := by unfold backR; rw [e2, e3]; exact bacC_put c
  unfold getB
  rw [if_neg hq, if_neg (by rw [e1]; omega), e3, e4]
  dsimp only
  rw [if_neg (by simp), hm]
  by_cases h0 : q = []
  · subst h0
    rw [if_neg (by simp), if_pos rfl]
  · have := List.length_pos_iff.2 h0
    rw [if_pos (.inl (by rw [List.length_append]; omega)), if_neg h0]
theorem putB_more {c : BackX} (h : bacOk c) (hm : mayB c = true) (q : List UInt8) : ((getB (putB c ++ q)).2 = 0) = (q = []) := by
  by_cases hq : 4096 < (putB c ++ q).length
  · have hs := putB_small hm
    have : q ≠ [] := by rintro rfl; rw [List.append_nil] at hq; omega
    unfold getB
    rw [if_pos hq]
    simp [this]
  · rw [putB_get h hm q hq]
    by_cases h0 : q = []
    · simp [h0]
    · simp [h0]
theorem bnam_err (l : List UInt8) (h : (bheadR l).2.err ≠ 0) : (bnamR l).2 = (bheadR l).2 := badL 4096 _ _ h
/-- where the head is no good, no name is told of -/
theorem many_bad (l : List UInt8) (h : (bheadR l).2.err ≠ 0) : manyR l = 0 := by
  have e : bacS = [.n, .n, .g, .n, .n, .n, .n, .t, .n, .g, .g, .b] ++ [.n] := rfl
  unfold manyR bheadR at *
  rw [e, tellL_app] at h ⊢
  dsimp only at h ⊢
  have hl := tellL_len 4096 [.n, .n, .g, .n, .n, .n, .n, .t, .n, .g, .g, .b] ⟨l, 0, 0⟩
  generalize (tellL 4096 [.n, .n, .g, .n, .n, .n, .n, .t, .n, .g, .g, .b] ⟨l, 0, 0⟩).2 = s at *
  generalize (tellL 4096 [.n, .n, .g, .n, .n, .n, .n, .t, .n, .g, .g, .b] ⟨l, 0, 0⟩).1 = xs at *
  have hl' : xs.length = 12 := hl
  rw [List.getD_eq_getElem?_getD, List.getElem?_append_right (by omega), hl']
  show (numR s 4).1.toNat = 0
  have h' : (numR s 4).2.err ≠ 0 := h
  unfold numR at h' ⊢
  split at h'
  · rw [if_pos (by assumption)]; rfl
  · rw [if_neg (by assumption)]
    split at h'
    · rw [if_pos (by assumption)]; rfl
    · exact absurd rfl h'
theorem putB_cut {c : BackX} (h : bacOk c) (hm : mayB c = true) (n : Nat) (hn : n < (putB c).length) : getB ((putB c).take n) = (bacZero, 4) := by
  obtain ⟨f1, f2, f3, f4⟩ := mayB_parts hm
  have hd : c.data.length ≤ 4096 := by omega
  have hnn : c.names.length < 4294967296 := by omega
  have hs := putB_small hm
  unfold getB
  rw [if_neg (by rw [List.length_take]; omega)]
  unfold putB at hn ⊢
  by_cases h1 : n < (layL bacS (bacD c)).length
  · rw [List.take_append_of_le_length (by omega)]
    have hc := cutL 4096 (by decide) bacS (bacD c) [] n (bacD_ok h hd hnn) h1
    have hc : (bheadR ((layL bacS (bacD c)).take n)).2.err = 4 := by simpa [bheadR] using hc
    have hb := bnam_err _ (show (bheadR ((layL bacS (bacD c)).take n)).2.err ≠ 0 by rw [hc]; decide)
    rw [if_neg (by rw [hc]; simp), hb, hc, if_pos (by decide)]
  · rw [List.take_append, List.take_of_length_le (by omega)]
    rw [List.length_append] at hn
    have hc := cutL 4096 (by decide) (namS c.names.length) (namD c.names) (layL bacS (bacD c)) (n - (layL bacS (bacD c)).length) (namD_ok fun s hs => by have := f4 s hs; omega) (by omega)
    have hr : (bnamR (layL bacS (bacD c) ++ (layL (namS c.names.length) (namD c.names)).take (n - (layL bacS (bacD c)).length))).2.err = 4 := by
      unfold bnamR
      rw [many_put h hd hnn, bhead_put h hd hnn]
      exact hc
    rw [if_neg (by rw [many_put h hd hnn]; omega), if_pos (by rw [hr]; decide), hr]
theorem getB_zero {b : List UInt8} (h : (getB b).2 ≠ 0) : (getB b).1 = bacZero := by
  unfold getB at h ⊢
  split
  · rfl
  · split
    · rfl
    · split
      · rfl
      · split
        · rfl
        · rename_i a1 a2 a3 a4
          rw [if_neg a1, if_neg a2, if_neg a3, if_neg a4] at h
          exact absurd rfl h
theorem nam_back : ∀ (n : Nat) (ys : List Fd), fdsOk 4096 (namS n) ys → namD (ys.map fun y => (⟨y.b.toArray⟩ : ByteArray)) = ys ∧ ys.length = n
  | 0, [], _ => ⟨rfl, rfl⟩
  | n + 1, y :: ys, ⟨h1, h2⟩ => by
    obtain ⟨e1, e2⟩ := nam_back n ys h2
    refine ⟨?_, by simp [e2]⟩
    obtain ⟨k, b⟩ := y
    obtain ⟨-, hk⟩ := h1
    dsimp only at hk
    subst hk
    show (⟨0, b⟩ : Fd) :: _ = _
    rw [← e1]
    simp [namD]
  | 0, _ :: _, h => h.elim
  | n + 1, [], h => h.elim
theorem bac_back (xs ys : List Fd) (n : Nat) (h : fdsOk 4096 bacS xs) (hn : (xs.getD 12 ⟨0, []⟩).n = n) (hy : fdsOk 4096 (namS n) ys) : bacD (bacC xs ys) = xs ∧ namD (bacC xs ys).names = ys ∧ (bacC xs ys).names.length = n := by
  have num : ∀ (x : Fd), fdOk 4096 .n x → (⟨x.n, []⟩ : Fd) = x := fun x hx => by obtain ⟨n, b⟩ := x; obtain ⟨-, e⟩ := hx; dsimp only at e; rw [e]
  have gre : ∀ (x : Fd), fdOk 4096 .g x → (⟨x.n, []⟩ : Fd) = x := fun x hx => by obtain ⟨n, b⟩ := x; obtain ⟨-, e⟩ := hx; dsimp only at e; rw [e]
  have byt : ∀ (x : Fd), fdOk 4096 .b x → (⟨0, x.b⟩ : Fd) = x := fun x hx => by obtain ⟨n, b⟩ := x; obtain ⟨-, e⟩ := hx; dsimp only at e; rw [e]
  have tru : ∀ (x : Fd), fdOk 4096 .t x → (⟨if (x.n == 1) then 1 else 0, []⟩ : Fd) = x := fun x hx => by
    obtain ⟨n, b⟩ := x
    obtain ⟨hn, e⟩ := hx
    dsimp only at e hn ⊢
    subst e
    obtain rfl | rfl : n = 0 ∨ n = 1 := by omega
    · rfl
    · rfl
  obtain ⟨e1, e2⟩ := nam_back n ys hy
  match xs, h with
  | [a, b, c, d, e, f, g, i, j, k, m, o, p], ⟨ha, hb, hc, hd, he, hf, hg, hi, hj, hk, hm, ho, hp, _⟩ =>
    have hp2 : p.n = n := hn
    refine ⟨?_, e1, by show (ys.map _).length = n; rw [List.length_map, e2]⟩
    show [(⟨a.n, []⟩ : Fd), ⟨b.n, []⟩, ⟨c.n, []⟩, ⟨d.n, []⟩, ⟨e.n, []⟩, ⟨f.n, []⟩, ⟨g.n, []⟩, ⟨if (i.n == 1) then 1 else 0, []⟩, ⟨j.n, []⟩, ⟨k.n, []⟩, ⟨m.n, []⟩, ⟨0, o.b⟩, ⟨(ys.map _).length, []⟩] = _
    rw [List.length_map, e2, ← hp2, num a ha, num b hb, gre c hc, num d hd, num e he, num f hf, num g hg, tru i hi, num j hj, gre k hk, gre m hm, byt o ho, num p hp]
theorem backB {b : List UInt8} (h : (getB b).2 = 0) : mayB (getB b).1 = true ∧ putB (getB b).1 = b ∧ ((getB b).1.status < 256 → (getB b).1.client < 256 → bacOk (getB b).1) := by
  unfold getB at h ⊢
  by_cases h1 : 4096 < b.length
  · rw [if_pos h1] at h; exact absurd h (by simp)
  rw [if_neg h1] at h ⊢
  by_cases h2 : (bheadR b).2.err = 0 ∧ 32 < manyR b
  · rw [if_pos h2] at h; exact absurd h (by simp)
  rw [if_neg h2] at h ⊢
  by_cases h3 : (bnamR b).2.err ≠ 0
  · rw [if_pos h3] at h; exact absurd h h3
  rw [if_neg h3] at h ⊢
  by_cases h4 : (bnamR b).2.pos < b.length ∨ mayB (backR b) = false
  · rw [if_pos h4] at h; exact absurd h (by simp)
  rw [if_neg h4]
  have hm : mayB (backR b) = true := by
    cases e : mayB (backR b)
    · exact absurd (.inr e) h4
    · rfl
  have hh : (bheadR b).2.err = 0 := by
    by_cases hh : (bheadR b).2.err = 0
    · exact hh
    · exact absurd (by rw [bnam_err b hh]; exact hh) h3
  have h3' : (bnamR b).2.err = 0 := Decidable.of_not_not h3
  obtain ⟨p, e1, e2, e3, e4, e5⟩ := backL 4096 bacS ⟨b, 0, 0⟩ rfl (Nat.zero_le _) hh
  have e1' : (bheadR b).2 = ⟨b, p, 0⟩ := e1
  unfold bnamR at h3' h4
  rw [e1'] at h3' h4
  obtain ⟨p2, k1, k2, k3, k4, k5⟩ := backL 4096 (namS (manyR b)) ⟨b, p, 0⟩ rfl e3 h3'
  rw [k1] at h4
  dsimp only at h4 k2 k3 k4 e2 e3 e4
  have hp2 : p2 = b.length := by
    have : ¬ p2 < b.length := fun hc => h4 (.inl hc)
    omega
  have hbn : bnamR b = tellL 4096 (namS (manyR b)) ⟨b, p, 0⟩ := by unfold bnamR; rw [e1']
  obtain ⟨f1, f2, f3⟩ := bac_back (bheadR b).1 (bnamR b).1 (manyR b) e5 rfl (by rw [hbn]; exact k5)
  refine ⟨hm, ?_, ?_⟩
  · show putB (backR b) = b
    have e4' : b = layL bacS (bheadR b).1 ++ b.drop p := by have e := e4; rw [List.drop_zero] at e; exact e
    rw [hp2, List.drop_length, List.append_nil, ← hbn] at k4
    unfold putB backR
    rw [f1, f2, f3, ← k4]
    exact e4'.symm
  · intro hs hc
    have hx : (backR b) = bacC (bheadR b).1 (bnamR b).1 := rfl
    show bacOk (backR b)
    have hs' : (backR b).status < 256 := hs
    have hc' : (backR b).client < 256 := hc
    rw [hx] at hs' hc' ⊢
    have e5' : fdsOk 4096 bacS (bheadR b).1 := e5
    rw [← f1] at e5'
    obtain ⟨⟨q1, -⟩, ⟨q2, -⟩, ⟨q3, -⟩, ⟨q4, -⟩, ⟨q5, -⟩, ⟨q6, -⟩, ⟨q7, -⟩, -, ⟨q9, -⟩, ⟨q10, -⟩, ⟨q11, -⟩, -, -, -⟩ := e5'
    exact ⟨hc', q2, q3, hs', q6, q7, q9, q10, q11, q5⟩

end Go.Proofs.YtboalmmpcfiicaaDoor
