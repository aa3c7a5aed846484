/- A region that draws its order: AN OPERATION THAT CALLS may be taken first, if what it yields is one value in every world that meets S, and S holds behind it (whatever memory it makes). Of no program. -/
import Derived.Test.YtlhbipommhljiaaWords
import Derived.Orders
namespace Go.Proofs.Ytlhbipommhljiaa
open Go.RowKit Go.Shelf
set_option linter.unusedVariables false

section
variable {P : Program} {ops : Array Oper} {Q : Exit → Act → World → Prop} {md : Region.Mode} {S : World → Prop}
/-- what comes of an operation: the value v, and a world that meets S -/
def Does (P : Program) (S : World → Prop) (v : Value) : Result Next → Prop
  | .ok (.value u) w => u = v ∧ S w
  | .ok (.enter f args) w => Calls P f args w fun e w' => e = .returned v ∧ S w'
  | _ => False
theorem Does.upon {v : Value} {r : Result Next} (h : Does P S v r) {o : Oper} {a : Act} {K : Act → World → Prop} (hK : ∀ w, S w → K (a.put o.dst v) w) : o.upon P a K Q r := by
  cases r with
  | ok n w =>
    cases n with
    | value u => obtain ⟨rfl, hs⟩ := h; exact hK w hs
    | enter f args => exact Calls.mono h fun e w' he => by obtain ⟨rfl, hs⟩ := he; exact hK w' hs
    | _ => exact h.elim
  | halt x w => exact h.elim
def DoesIf (P : Program) (ops : Array Oper) (S : World → Prop) (o : Oper) (v : Value) (a : Act) : Prop :=
  (Region.wanted o (yielded ops a.tmps) = true ∧ ∀ w, S w → Does P S v ((execOp a.eval o).run P w)) ∨ (Region.wanted o (yielded ops a.tmps) = false ∧ v = undef)
theorem DoesIf.same {o : Oper} {v : Value} {a a' : Act} (h : DoesIf P ops S o v a) (he : execOp a'.eval o = execOp a.eval o) (hw : Region.wanted o (yielded ops a'.tmps) = Region.wanted o (yielded ops a.tmps)) : DoesIf P ops S o v a' := by
  unfold DoesIf at *
  rw [he, hw]
  exact h
theorem DoesIf.op {i : Nat} {o : Oper} {v : Value} {a : Act} (hi : ops[i]? = some o) (h : DoesIf P ops S o v a) {K : Act → World → Prop} {w : World} (hS : S w) (hK : ∀ w', S w' → K (a.put o.dst v) w') : wpOp P ops Q i K a w := by
  unfold wpOp
  simp only [hi]
  rcases h with ⟨hw, hv⟩ | ⟨hw, rfl⟩
  · rw [if_pos hw]
    exact .inl (Does.upon (hv w hS) hK)
  · rw [if_neg (by rw [hw]; decide)]
    exact hK w hS
theorem DoesIf.put {o p : Oper} {v : Value} (hs : ∀ cs b, o.op ≠ .select cs b) (hf : ∀ d, p.dst = some d → d ∉ o.looksAt ops) (u : Value) {a : Act} (h : DoesIf P ops S o v a) : DoesIf P ops S o v (a.put p.dst u) :=
  h.same (execOp_put o hs a p.dst u hf) (wanted_put o a p.dst u hf)
/-- what p leads to, with the value v laid at d BEHIND it in the place of ahead of it; D is what p and a defer leave as it was -/
theorem upon_behind {p : Oper} {d : Option Tmp} {v : Value} {D : Act → Prop} {K : Act → World → Prop} {a : Act} (hD : D a) (keep : ∀ b u, D b → D (b.put p.dst u)) (keepD : ∀ x, D { a with defers := x :: a.defers })
    (swap : ∀ (b : Act) u, (b.put d v).put p.dst u = (b.put p.dst u).put d v) (hQ : ∀ c w, Q (.panic c) (a.put d v) w → Q (.panic c) a w) :
    ∀ r : Result Next, p.upon P (a.put d v) K Q r → p.upon P a (fun b w => D b ∧ K (b.put d v) w) Q r
  | .ok (.value u) w, h => ⟨keep a u hD, swap a u ▸ h⟩
  | .ok .skip w, h => ⟨keep a undef hD, swap a undef ▸ h⟩
  | .ok (.defer x) w, h => ⟨keep _ undef (keepD x), by
      have h' : K (({ a with defers := x :: a.defers }.put d v).put p.dst undef) w := by
        rw [← Act.put_defers]
        exact h
      exact swap _ undef ▸ h'⟩
  | .ok (.enter f args) w, h => Calls.mono h fun e w' he => by
      rcases e with u | c | _
      · exact ⟨keep a u hD, swap a u ▸ he⟩
      · exact hQ c w' he
      · exact he
  | .ok (.row row args) w, h => Rows.mono h fun u w' he => ⟨keep a u hD, swap a u ▸ he⟩
  | .ok (.round ..) w, h => h.elim
  | .halt x w, h => by
      cases x with
      | panic u => exact hQ _ w h
      | _ => exact h.elim
theorem op_behind {j : Nat} {o p : Oper} {v : Value} (hj : ops[j]? = some p) (hap : o.apart ops p = true) (ho : ∀ cs b, o.op ≠ .select cs b) (hp : ∀ cs b, p.op ≠ .select cs b) (hQ : ∀ c a w, Q (.panic c) (a.put o.dst v) w → Q (.panic c) a w)
    {K : Act → World → Prop} {a : Act} {w : World} (hd : DoesIf P ops S o v a) (h : wpOp P ops Q j K (a.put o.dst v) w) : wpOp P ops Q j (fun b w' => DoesIf P ops S o v b ∧ K (b.put o.dst v) w') a w := by
  have A := Oper.apart_spec hap
  have swap : ∀ (b : Act) u, (b.put o.dst v).put p.dst u = (b.put p.dst u).put o.dst v := fun b u => Act.put_comm b v u A.2.1
  have same := wanted_put p a o.dst v A.1
  have run := execOp_put p hp a o.dst v A.1
  unfold wpOp at h ⊢
  simp only [hj, same] at h ⊢
  split at h
  · rename_i hw
    rw [if_pos hw]
    refine h.imp (fun h => ?_) (fun h => ⟨?_, h.2⟩)
    · unfold Oper.wp at h ⊢
      rw [run] at h
      exact upon_behind hd (fun b u hb => DoesIf.put ho A.2.2 u hb) (fun x => DoesIf.same hd rfl rfl) swap (fun c w' => hQ c a w') _ h
    · have := h.1
      unfold Oper.asks at this ⊢
      rwa [run] at this
  · rename_i hw
    rw [if_neg hw]
    exact ⟨DoesIf.put ho A.2.2 undef hd, swap a undef ▸ h⟩
/-- whatever order is picked from here on, in whatever world that meets S -/
def wpAnyU (P : Program) (md : Region.Mode) (ops : Array Oper) (Q : Exit → Act → World → Prop) (S : World → Prop) : Nat → Array Bool → Act → Prop
  | 0, listed, a => Region.ready md ops listed = [] ∧ ∀ w, S w → Q .normal a w
  | fuel + 1, listed, a => (Region.ready md ops listed = [] → ∀ w, S w → Q .normal a w) ∧
      ∀ i ∈ Region.ready md ops listed, ∀ w, S w → wpOp P ops Q i (fun a' w' => S w' ∧ wpAnyU P md ops Q S fuel (listed.setIfInBounds i true) a') a w
theorem wpAny_of_U : ∀ (fuel : Nat) (listed : Array Bool) (a : Act) (w : World), S w → wpAnyU P md ops Q S fuel listed a → wpAny P md ops Q fuel listed a w
  | 0, _, _, w, hS, h => ⟨h.1, h.2 w hS⟩
  | fuel + 1, _, _, w, hS, h => ⟨fun hr => h.1 hr w hS, fun i hi => wpOp_mono (fun a' w' h' => wpAny_of_U fuel _ a' w' h'.1 h'.2) (h.2 i hi w hS)⟩
/-- those that are left and wait not for number i are apart from o -/
def Clear (md : Region.Mode) (ops : Array Oper) (i : Nat) (o : Oper) (listed : Array Bool) : Prop :=
  ∀ j p, ops[j]? = some p → j ≠ i → listed.getD j true = false → (∀ e ∈ p.after, Region.binds md e = true → e.on ≠ i) → o.apart ops p = true
theorem Clear.less {i j : Nat} {o : Oper} {listed : Array Bool} (h : Clear md ops i o listed) (hj : listed.getD j true = false) : Clear md ops i o (listed.setIfInBounds j true) := fun k p hk hki hl hw =>
  h k p hk hki (if e : j = k then e ▸ hj else (getD_set_ne true e) ▸ hl) hw
theorem getD_both {l : Array Bool} {i : Nat} (h : l.getD i true = false) (h' : l.getD i false = true) : False := by
  by_cases hi : i < l.size <;> simp_all [Array.getD]
/-- of two that may come up the one waits not for the other -/
theorem ready_two {i j : Nat} {listed : Array Bool} (hi : i ∈ Region.ready md ops listed) (hj : j ∈ Region.ready md ops listed) : listed.getD j true = false ∧ ∃ p, ops[j]? = some p ∧ ∀ e ∈ p.after, Region.binds md e = true → e.on ≠ i :=
  have ⟨l, p, hp, hall⟩ := mem_ready.1 hj
  ⟨l, p, hp, fun e he hb heq => getD_both (mem_ready.1 hi).1 (heq ▸ hall e he hb)⟩
theorem wpAnyU_first {i : Nat} {o : Oper} {v : Value} (hi : ops[i]? = some o) (hsel : ∀ (j : Nat) (p : Oper) cs b, ops[j]? = some p → p.op ≠ .select cs b) (hQ : ∀ c a w, Q (.panic c) (a.put o.dst v) w → Q (.panic c) a w) :
    ∀ (fuel : Nat) (listed : Array Bool) (a : Act), Clear md ops i o listed → i ∈ Region.ready md ops listed → DoesIf P ops S o v a → wpAnyU P md ops Q S fuel (listed.setIfInBounds i true) (a.put o.dst v) → wpAnyU P md ops Q S (fuel + 1) listed a
  | fuel, listed, a, hc, hr, hd, H => ⟨fun h => absurd h (List.ne_nil_of_mem hr), fun j hj w hS => by
      by_cases e : j = i
      · rw [e]
        exact hd.op hi hS fun w' hS' => ⟨hS', H⟩
      · have later := ready_mono hj e
        cases fuel with
        | zero => exact absurd H.1 (List.ne_nil_of_mem later)
        | succ fuel =>
          obtain ⟨hl, p, hp, hw⟩ := ready_two hr hj
          refine wpOp_mono (fun b w' hb => ?_) (op_behind hp (hc j p hp e hl hw) (hsel i o · · hi) (hsel j p · · hp) hQ hd (H.2 j later w hS))
          obtain ⟨hdb, hS', hrest⟩ := hb
          rw [Array.setIfInBounds_comm _ _ (Ne.symm e)] at hrest
          exact ⟨hS', wpAnyU_first hi hsel hQ fuel _ b (hc.less hl) (ready_mono hr (Ne.symm e)) hdb hrest⟩⟩
/-- number i is taken first -/
theorem wpAnyU_take {i : Nat} {oi : Oper} {v : Value} {fuel : Nat} {listed : Array Bool} {a : Act} (hi : ops[i]? = some oi) (hs : Region.noSelect ops = true) (hf : Region.free md ops listed i = true) (hr : (Region.ready md ops listed).contains i = true)
    (hQ : ∀ c a w, Q (.panic c) (a.put oi.dst v) w → Q (.panic c) a w) (hd : DoesIf P ops S oi v a) (h : wpAnyU P md ops Q S fuel (listed.setIfInBounds i true) (a.put oi.dst v)) : wpAnyU P md ops Q S (fuel + 1) listed a :=
  wpAnyU_first hi (Region.noSelect_spec hs) hQ fuel listed a (Region.free_spec hi hf) (by simpa using hr) hd h
theorem wpAnyU_done {listed : Array Bool} {a : Act} (hr : Region.ready md ops listed = []) (h : ∀ w, S w → Q .normal a w) : ∀ fuel, wpAnyU P md ops Q S fuel listed a
  | 0 => ⟨hr, h⟩
  | _ + 1 => ⟨fun _ => h, by rw [hr]; simp⟩
theorem wp_region_U {id : Nat} {a : Act} {w : World} (hm : P.follows .mixedOrders = true) (hS : S w.drew) (h : wpAnyU P .any ops Q S ops.size (Array.replicate ops.size false) a) : (Code.region id ops true).wp P Q a w :=
  wp_region_any hm (wpAny_of_U _ _ _ _ hS h)
/-- an operation that only reads -/
theorem DoesIf.reads {o : Oper} {v : Value} {a : Act} (hw : Region.wanted o (yielded ops a.tmps) = true) (h : ∀ w, S w → (execOp a.eval o).run P w = .ok (.value v) w) : DoesIf P ops S o v a :=
  .inl ⟨hw, fun w hS => by rw [h w hS]; exact ⟨rfl, hS⟩⟩
/-- an operation that calls -/
theorem DoesIf.calls {o : Oper} {v : Value} {a : Act} {f : FuncId} {args : Array Value} (hw : Region.wanted o (yielded ops a.tmps) = true) (h : ∀ w, S w → (execOp a.eval o).run P w = .ok (.enter f args) w) (hc : ∀ w, S w → Calls P f args w fun e w' => e = .returned v ∧ S w') : DoesIf P ops S o v a :=
  .inl ⟨hw, fun w hS => by rw [h w hS]; exact hc w hS⟩
end

end Go.Proofs.Ytlhbipommhljiaa
