/- Calls, plain: what a kind has, which calls may be, their bytes, what is told of bytes. -/
import Derived.Test.YthfaemcpheecfaaDoorFds
import Derived.Test.YthfaemcpheecfaaDoorNameLeaf
namespace Go.Proofs.YthfaemcpheecfaaDoor
open Go.RowKit Go.Shelf
set_option linter.unusedVariables false
set_option maxRecDepth 100000
set_option linter.unusedSimpArgs false

/-- a call -/
structure CallX where
  client : Nat
  inc : Nat
  seq : Nat
  kind : Nat
  ino : Nat
  gen : Nat
  name : ByteArray
  tino : Nat
  tgen : Nat
  toname : ByteArray
  off : Nat
  size : Nat
  data : List UInt8
/-- a call in memory, its bytes at v -/
def calCells (c : CallX) (v : Value) : List Value := [.int .u8 (c.client : Int), .int .u32 (c.inc : Int), .int .u64 (c.seq : Int), .int .u8 (c.kind : Int), .int .u32 (c.ino : Int), .int .u32 (c.gen : Int), .string c.name, .int .u32 (c.tino : Int), .int .u32 (c.tgen : Int), .string c.toname, .int .u32 (c.off : Int), .int .u32 (c.size : Int), v]
def calOk (c : CallX) : Prop := c.client < 256 ∧ c.inc < 4294967296 ∧ c.seq < 18446744073709551616 ∧ c.kind < 256 ∧ c.ino < 4294967296 ∧ c.gen < 4294967296 ∧ c.tino < 4294967296 ∧ c.tgen < 4294967296 ∧ c.off < 4294967296 ∧ c.size < 4294967296
def noText : ByteArray := ⟨#[]⟩
def calZero : CallX := ⟨0, 0, 0, 0, 0, 0, noText, 0, 0, noText, 0, 0, []⟩
/-- what the calls of a kind have: the greatest Off and Size, a name, another directory and name, bytes -/
structure KRow where
  off : Nat
  size : Nat
  name : Bool
  to : Bool
  data : Bool
def kNone : KRow := ⟨0, 0, false, false, false⟩
def kRow (k : Nat) : KRow :=
  if k = 2 then ⟨0, 4096, false, false, false⟩ else if k = 3 ∨ k = 7 ∨ k = 8 ∨ k = 9 ∨ k = 10 then ⟨0, 0, true, false, false⟩ else if k = 4 then ⟨4096, 64, false, false, false⟩ else if k = 5 then ⟨4032, 0, false, false, true⟩ else if k = 11 then ⟨0, 0, true, true, false⟩ else kNone
def kindX (k : Nat) : Bool := decide (1 ≤ k ∧ k ≤ 12)
def kCells (r : KRow) : List Value := [.int .u32 (r.off : Int), .int .u32 (r.size : Int), .bool r.name, .bool r.to, .bool r.data]
theorem kind_cases (k : Nat) (h : kindX k = true) : k = 1 ∨ k = 2 ∨ k = 3 ∨ k = 4 ∨ k = 5 ∨ k = 6 ∨ k = 7 ∨ k = 8 ∨ k = 9 ∨ k = 10 ∨ k = 11 ∨ k = 12 := by
  have := of_decide_eq_true h
  omega
theorem kind_no (k : Nat) (h : kindX k = false) : ∀ j : Nat, 1 ≤ j → j ≤ 12 → k ≠ j := by
  intro j h1 h2 e
  have := of_decide_eq_false h
  omega
/-- may the name of a call be? -/
def mayNameX (b : Bool) (s : ByteArray) : Bool := if b then nameL (L s) else (L s).isEmpty
def mayToX (b : Bool) (c : CallX) : Bool := if b then nameL (L c.toname) else (c.tino == 0 && c.tgen == 0) && (L c.toname).isEmpty
def mayDataX (b : Bool) (l : List UInt8) : Bool := if b then decide (0 < l.length) && decide (l.length ≤ 64) else l.length == 0
/-- may a call be? -/
def mayX (c : CallX) : Bool := kindX c.kind && decide (c.client < 4) && decide (0 < c.inc) && decide (0 < c.seq) && decide (c.off ≤ (kRow c.kind).off) && decide (c.size ≤ (kRow c.kind).size) && mayNameX (kRow c.kind).name c.name && mayToX (kRow c.kind).to c && mayDataX (kRow c.kind).data c.data
def sameX (a b : CallX) : Bool := a.client == b.client && a.inc == b.inc && a.seq == b.seq && a.kind == b.kind && (a.ino == b.ino && a.gen == b.gen) && (L a.name == L b.name) && (a.tino == b.tino && a.tgen == b.tgen) && (L a.toname == L b.toname) && a.off == b.off && a.size == b.size && a.data == b.data
def changesX (k : Nat) : Bool := k == 2 || decide (5 ≤ k) && decide (k ≤ 11)
theorem L_mk (l : List UInt8) : L ⟨l.toArray⟩ = l := rfl
theorem mk_L (s : ByteArray) : (⟨(L s).toArray⟩ : ByteArray) = s := rfl
theorem L_inj {s t : ByteArray} (h : L s = L t) : s = t := by rw [← mk_L s, ← mk_L t, h]
theorem sameX_iff (a b : CallX) : sameX a b = true ↔ a = b := by
  constructor
  · intro h
    simp only [sameX, Bool.and_eq_true, beq_iff_eq] at h
    obtain ⟨⟨⟨⟨⟨⟨⟨⟨⟨⟨h1, h2⟩, h3⟩, h4⟩, h5, h6⟩, h7⟩, h8, h9⟩, h10⟩, h11⟩, h12⟩, h13⟩ := h
    obtain ⟨a1, a2, a3, a4, a5, a6, a7, a8, a9, a10, a11, a12, a13⟩ := a
    obtain ⟨b1, b2, b3, b4, b5, b6, b7, b8, b9, b10, b11, b12, b13⟩ := b
    have e7 := L_inj h7
    have e10 := L_inj h10
    simp_all
  · rintro rfl
    simp [sameX]
theorem sameX_self (a : CallX) : sameX a a = true := (sameX_iff a a).2 rfl
/- the bytes of a call -/
def headS : List Sh := [.n, .n, .g, .n]
def headD (c : CallX) : List Fd := [⟨c.client, []⟩, ⟨c.inc, []⟩, ⟨c.seq, []⟩, ⟨c.kind, []⟩]
/-- how the fields of a kind stand -/
def restS (r : KRow) : List Sh := [.n, .n] ++ (if 0 < r.off then [.n] else []) ++ (if 0 < r.size then [.n] else []) ++ (if r.data then [.b] else []) ++ (if r.name then [.b] else []) ++ (if r.to then [.n, .n, .b] else [])
def restD (r : KRow) (c : CallX) : List Fd := [⟨c.ino, []⟩, ⟨c.gen, []⟩] ++ (if 0 < r.off then [⟨c.off, []⟩] else []) ++ (if 0 < r.size then [⟨c.size, []⟩] else []) ++ (if r.data then [⟨0, c.data⟩] else []) ++ (if r.name then [⟨0, L c.name⟩] else []) ++ (if r.to then [⟨c.tino, []⟩, ⟨c.tgen, []⟩, ⟨0, L c.toname⟩] else [])
def putX (c : CallX) : List UInt8 := layL (headS ++ restS (kRow c.kind)) (headD c ++ restD (kRow c.kind) c)
/-- the call that has these fields -/
def textX (x : Fd) : ByteArray := ⟨x.b.toArray⟩
def headC (c : CallX) (xs : List Fd) : CallX := match xs with
  | [a, b, d, e] => { c with client := a.n, inc := b.n, seq := d.n, kind := e.n }
  | _ => c
def restC (k : Nat) (c : CallX) (xs : List Fd) : CallX :=
  if k = 2 then (match xs with | [a, b, d] => { c with ino := a.n, gen := b.n, size := d.n } | _ => c)
  else if k = 3 ∨ k = 7 ∨ k = 8 ∨ k = 9 ∨ k = 10 then (match xs with | [a, b, d] => { c with ino := a.n, gen := b.n, name := textX d } | _ => c)
  else if k = 4 then (match xs with | [a, b, d, e] => { c with ino := a.n, gen := b.n, off := d.n, size := e.n } | _ => c)
  else if k = 5 then (match xs with | [a, b, d, e] => { c with ino := a.n, gen := b.n, off := d.n, data := e.b } | _ => c)
  else if k = 11 then (match xs with | [a, b, d, e, f, g] => { c with ino := a.n, gen := b.n, name := textX d, tino := e.n, tgen := f.n, toname := textX g } | _ => c)
  else (match xs with | [a, b] => { c with ino := a.n, gen := b.n } | _ => c)
/-- what is told of bytes: the head, then the rest -/
def headR (l : List UInt8) : List Fd × RS := tellL 4096 headS ⟨l, 0, 0⟩
def kindR (l : List UInt8) : Nat := ((headR l).1.getD 3 ⟨0, []⟩).n
def restR (l : List UInt8) : List Fd × RS := tellL 4096 (restS (kRow (kindR l))) (headR l).2
def callR (l : List UInt8) : CallX := restC (kindR l) (headC calZero (headR l).1) (restR l).1
/-- the call that bytes are, or the error -/
def getX (l : List UInt8) : CallX × Int :=
  if 4096 < l.length then (calZero, 3)
  else if (headR l).2.err ≠ 0 then (calZero, (headR l).2.err)
  else if kindX (kindR l) = false then (calZero, 5)
  else if (restR l).2.err ≠ 0 then (calZero, (restR l).2.err)
  else if (restR l).2.pos < l.length ∨ mayX (callR l) = false then (calZero, 5)
  else (callR l, 0)

end Go.Proofs.YthfaemcpheecfaaDoor
