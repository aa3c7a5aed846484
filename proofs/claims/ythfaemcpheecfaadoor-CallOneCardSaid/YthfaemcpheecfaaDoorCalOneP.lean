/- CallOne: a call that has more than its row names. Plain; and a guarded load of a whole variable. -/
import Derived.Test.YthfaemcpheecfaaDoorAnyW
import Derived.Test.YthfaemcpheecfaaDoorCalL
namespace Go.Proofs.YthfaemcpheecfaaDoor
open Go.RowKit Go.Shelf
set_option linter.unusedVariables false
set_option maxRecDepth 100000
set_option linter.unusedSimpArgs false

theorem one_size {c : CallX} {n : Nat} (h : (kRow c.kind).size = 0) (hn : 0 < n) : mayX { c with size := n } = false := by
  unfold mayX
  dsimp only
  rw [h, show decide (n ≤ 0) = false from decide_eq_false (by omega)]
  simp
theorem one_off {c : CallX} {n : Nat} (h : (kRow c.kind).off = 0) (hn : 0 < n) : mayX { c with off := n } = false := by
  unfold mayX
  dsimp only
  rw [h, show decide (n ≤ 0) = false from decide_eq_false (by omega)]
  simp
theorem one_name {c : CallX} {s : ByteArray} (h : (kRow c.kind).name = false) (hs : (L s).isEmpty = false) : mayX { c with name := s } = false := by
  unfold mayX
  dsimp only
  rw [h, show mayNameX false s = false from hs]
  simp
theorem one_to {c : CallX} {n : Nat} (h : (kRow c.kind).to = false) (hn : 0 < n) : mayX { c with tino := n } = false := by
  unfold mayX
  dsimp only
  rw [h, show mayToX false { c with tino := n } = false from by unfold mayToX; dsimp only; rw [if_neg (by decide), show (n == 0) = false from by rw [beq_eq_false_iff_ne]; omega]; rfl]
  simp
theorem one_toname {c : CallX} {s : ByteArray} (h : (kRow c.kind).to = false) (hs : (L s).isEmpty = false) : mayX { c with toname := s } = false := by
  unfold mayX
  dsimp only
  rw [h, show mayToX false { c with toname := s } = false from by unfold mayToX; dsimp only; rw [if_neg (by decide), hs, Bool.and_false]]
  simp
theorem wpLoadG {P : Program} {w : World} {ops : Array Oper} {rest : List Oper} {o : Oper} {a : Act} {Q : Exit → Act → World → Prop} (hw : Region.wanted o (yielded ops a.tmps) = true) (t : TypeId) (x : Operand) (ho : o.op = .load t x) (g : Nat) (hx : a.eval x = .pointer (some ⟨g, 0, none⟩)) (cs : List Value) (hg : Cs w g t cs.toArray) (d : TypeDesc) (hu : P.underlying t = some d)
    (hd : (match d with | .struct _ | .array _ _ => true | _ => false) = true) (hi : (P.info? t).map (·.size) = some cs.length) (h : wpList P ops Q rest (a.put o.dst (.agg cs.toArray)) w) : wpList P ops Q (o :: rest) a w :=
  wpList_step fun K hk => by
    rw [if_pos hw]
    unfold Oper.wp execOp
    simp only [ho, hx, Instr.loadAt, Instr.sureAddr, Sem.run_bind, Sem.run_pure, Result.andThen_ok, run_loadVar_at w t g 0 cs (At.whole hg) d hu hd hi]
    exact hk _ _ h

theorem DoesV.loadD {P : Program} {ops : Array Oper} {T : World → Prop} {o : Oper} {a : Act} (hw : Region.wanted o (yielded ops a.tmps) = true) (ty : TypeId) (x : Operand) (ho : o.op = .load ty x) (b f : Nat) (hx : a.eval x = .pointer (some ⟨b, f, none⟩)) (cs : List Value) (hc : ∀ w, T w → At w b f cs) (d : TypeDesc) (hu : P.underlying ty = some d)
    (hd : (match d with | .struct _ | .array _ _ => true | _ => false) = true) (hi : (P.info? ty).map (·.size) = some cs.length) : DoesV P ops T o (.agg cs.toArray) a :=
  DoesV.reads hw fun w hT => by
    unfold execOp
    simp only [ho, hx, Instr.loadAt, Instr.sureAddr, Sem.run_bind, Sem.run_pure, Result.andThen_ok, run_loadVar_at w ty b f cs (hc w hT) d hu hd hi]
/-- five variables of one type -/
structure Five (w : World) (t : TypeId) (ga gb gd ge gf : Nat) (a b d e f : List Value) : Prop where
  a : Cs w ga t a.toArray
  b : Cs w gb t b.toArray
  d : Cs w gd t d.toArray
  e : Cs w ge t e.toArray
  f : Cs w gf t f.toArray
structure Apart5 (ga gb gd ge gf : Nat) : Prop where
  ab : ga ≠ gb
  ad : ga ≠ gd
  ae : ga ≠ ge
  af : ga ≠ gf
  bd : gb ≠ gd
  be : gb ≠ ge
  bf : gb ≠ gf
  de : gd ≠ ge
  df : gd ≠ gf
  ef : ge ≠ gf
section
variable {w w' : World} {t : TypeId} {ga gb gd ge gf : Nat} {a b d e f : List Value}
theorem Five.below (h : Five w t ga gb gd ge gf a b d e f) (hb : Below w.heap.size w w') : Five w' t ga gb gd ge gf a b d e f := ⟨h.a.below hb h.a.lt, h.b.below hb h.b.lt, h.d.below hb h.d.lt, h.e.below hb h.e.lt, h.f.below hb h.f.lt⟩
theorem Five.ta (h : Five w t ga gb gd ge gf a b d e f) (k : Apart5 ga gb gd ge gf) (ht : Turn w w' (· = ga)) {x : List Value} (hc : Cs w' ga t x.toArray) : Five w' t ga gb gd ge gf x b d e f := ⟨hc, h.b.other ht k.ab.symm, h.d.other ht k.ad.symm, h.e.other ht k.ae.symm, h.f.other ht k.af.symm⟩
theorem Five.tb (h : Five w t ga gb gd ge gf a b d e f) (k : Apart5 ga gb gd ge gf) (ht : Turn w w' (· = gb)) {x : List Value} (hc : Cs w' gb t x.toArray) : Five w' t ga gb gd ge gf a x d e f := ⟨h.a.other ht k.ab, hc, h.d.other ht k.bd.symm, h.e.other ht k.be.symm, h.f.other ht k.bf.symm⟩
theorem Five.td (h : Five w t ga gb gd ge gf a b d e f) (k : Apart5 ga gb gd ge gf) (ht : Turn w w' (· = gd)) {x : List Value} (hc : Cs w' gd t x.toArray) : Five w' t ga gb gd ge gf a b x e f := ⟨h.a.other ht k.ad, h.b.other ht k.bd, hc, h.e.other ht k.de.symm, h.f.other ht k.df.symm⟩
theorem Five.te (h : Five w t ga gb gd ge gf a b d e f) (k : Apart5 ga gb gd ge gf) (ht : Turn w w' (· = ge)) {x : List Value} (hc : Cs w' ge t x.toArray) : Five w' t ga gb gd ge gf a b d x f := ⟨h.a.other ht k.ae, h.b.other ht k.be, h.d.other ht k.de, hc, h.f.other ht k.ef.symm⟩
theorem Five.tf (h : Five w t ga gb gd ge gf a b d e f) (k : Apart5 ga gb gd ge gf) (ht : Turn w w' (· = gf)) {x : List Value} (hc : Cs w' gf t x.toArray) : Five w' t ga gb gd ge gf a b d e x := ⟨h.a.other ht k.af, h.b.other ht k.bf, h.d.other ht k.df, h.e.other ht k.ef, hc⟩
end

end Go.Proofs.YthfaemcpheecfaaDoor
