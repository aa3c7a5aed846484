/- What TreePlays' walk takes of plain trees. -/
import Derived.Test.YtenpmbfncnepgaaDoorTreDK
import Derived.Test.YtenpmbfncnepgaaDoorTreL
namespace Go.Proofs.YtenpmbfncnepgaaDoor
open Go.RowKit Go.Shelf
set_option linter.unusedVariables false
set_option maxRecDepth 100000
set_option linter.unusedSimpArgs false

theorem At.later {w w' : World} {b off : Nat} {cs : List Value} (h : At w b off cs) (hb : Below w.heap.size w w') : At w' b off cs := fun j v hv => (hb.cell (lt_of_cell (h j v hv))).trans (h j v hv)
theorem infoAct : (Tryd.prog.info? 42).map (·.size) = some 9 := by kernel_rfl
theorem wpList_loadH {P : Program} {w : World} {ops : Array Oper} {rest : List Oper} {o : Oper} {a : Act} {Q : Exit → Act → World → Prop} (hw : Region.wanted o (yielded ops a.tmps) = true) (t : TypeId) (x : Operand) (ho : o.op = .load t x) (g : Nat) (hx : a.eval x = .pointer (some ⟨g, 0, none⟩)) (cs : List Value) (hg : Cs w g t cs.toArray) (d : TypeDesc) (hu : P.underlying t = some d)
    (hd : (match d with | .struct _ | .array _ _ => true | _ => false) = true) (hi : (P.info? t).map (·.size) = some cs.length) (h : wpList P ops Q rest (a.put o.dst (.agg cs.toArray)) w) : wpList P ops Q (o :: rest) a w :=
  BigFrame.wpList_want hw fun K hK => wp_load_agg t x ho g 0 hx cs (At.whole hg) d hu hd hi (hK _ _ h)
theorem list_mono {P : Program} {ops : Array Oper} {Q Q' : Exit → Act → World → Prop} (hq : ∀ e a w, Q e a w → Q' e a w) : ∀ (l : List Oper) (a : Act) (w : World), wpList P ops Q l a w → wpList P ops Q' l a w
  | [], a, w, h => hq _ _ _ h
  | o :: rest, a, w, h => by
    unfold wpList at h ⊢
    split at h
    · rename_i hw
      rw [if_pos hw]
      rcases h with h | ⟨h1, a1, w1, h2⟩
      · refine .inl ?_
        have h3 := Oper.wp_mono (fun a w h => list_mono hq rest a w h) h
        unfold Oper.wp at h3 ⊢
        generalize (execOp a.eval o).run P w = r at *
        cases r with
        | ok x w' =>
          cases x <;> simp only [Oper.upon] at h3 ⊢
          case enter => exact Calls.mono h3 fun e w'' he => by
                          cases e with
                          | returned v => exact he
                          | panicked c => exact hq _ _ _ he
                          | outgrown => obtain ⟨a2, w2, h4⟩ := he; exact ⟨a2, w2, hq _ _ _ h4⟩
          all_goals exact h3
        | halt x w' =>
          cases x <;> simp only [Oper.upon] at h3 ⊢
          case panic => exact hq _ _ _ h3
          all_goals exact h3
      · exact .inr ⟨h1, a1, w1, hq _ _ _ h2⟩
    · rename_i hw
      rw [if_neg hw]
      exact list_mono hq rest _ w h
/-- a list of operations, cut off from what follows -/
theorem list_cut {P : Program} {ops : Array Oper} {Q : Exit → Act → World → Prop} {l : List Oper} {a : Act} {w : World} (R : Act → Act → World → Prop) (h1 : wpList P ops (fun e a' w' => e = .normal ∧ R a a' w') l a w) (h2 : ∀ a' w', R a a' w' → Q .normal a' w') : wpList P ops Q l a w :=
  list_mono (fun e a' w' ⟨e1, e2⟩ => by subst e1; exact h2 a' w' e2) l a w h1
/-- where the walk stops -/
def Stop (p : Prop) : Prop := p
theorem stop_here {p : Prop} (h : Stop p) : p := h
theorem go_on {p : Prop} (h : p) : Stop p := h
/-- what a call reaches, within a world -/
def GapF (F : Nat → Prop) (y u : World) : Nat → Prop := fun k => NewF F y k ∧ k < u.heap.size
theorem TrAt.gapF {F : Nat → Prop} {y u : World} {cs : List Value} {t : Tr} (h : TrAt u (NewF F y) cs t) : TrAt u (GapF F y u) cs t := h.mono fun k hk hh => ⟨hh, hk⟩
theorem NdAt.gapF {F : Nat → Prop} {y u : World} {cs : List Value} {n : Nd} (h : NdAt u (NewF F y) cs n) : NdAt u (GapF F y u) cs n := h.mono fun k hk hh => ⟨hh, hk⟩
theorem TrAt.nodes {w : World} {F : Nat → Prop} {cs : List Value} {t : Tr} (h : TrAt w F cs t) : ∃ A c, cs[0]? = some (.slice A t.nodes.length c) ∧ cs[2]? = some (.int .u32 (t.boot : Int)) ∧ cs[3]? = some (.int .u32 (t.count : Int)) ∧ RdX nodeE w F A t.nodes ∧ t.boot < 4294967296 ∧ t.count < 4294967296 := by
  obtain ⟨nv, ss, rfl, ⟨A, c, rfl, h1, -⟩, -, -, -, h2, h3, h4⟩ := h
  exact ⟨A, c, rfl, rfl, rfl, h1, h3, h4⟩
theorem nd_at {w : World} {F : Nat → Prop} {A : Option Addr} {ls : List Nd} (h : RdX nodeE w F A ls) (j : Nat) (hj : j < ls.length) : ∃ b off ds, A = some ⟨b, off, none⟩ ∧ NdAt w F ds ls[j] ∧ At w b (off + j * 6) ds := h.get j hj
theorem NdAt.head {w : World} {F : Nat → Prop} {ds : List Value} {n : Nd} (h : NdAt w F ds n) : ds[0]? = some (.int .u32 (n.ino : Int)) ∧ ds[1]? = some (.int .u32 (n.gen : Int)) ∧ ds[3]? = some (.int .u64 (n.chg : Int)) ∧ n.ino < 4294967296 ∧ n.gen < 4294967296 ∧ n.chg < 18446744073709551616 := by
  obtain ⟨dv, nv, rfl, -, -, h1, h2, h3⟩ := h
  exact ⟨rfl, rfl, rfl, h1, h2, h3⟩
theorem find_small {t : Tr} (h : MayT t) (hd : Nat × Nat) : ((findV t hd).getD nd0).names.length ≤ 140737488355328 := by
  cases e : findV t hd with
  | none => exact Nat.zero_le _
  | some d =>
    unfold findV at e
    rw [if_pos h] at e
    have := (h.ok d ((findT_some h.rise).1 e).1).many
    show d.names.length ≤ _
    omega

end Go.Proofs.YtenpmbfncnepgaaDoor
