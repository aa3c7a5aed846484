/- A region that draws its order, beside calls and stores that change memory: what is read (T0) no operation changes but the barriers bs, which all wait for the reader. Of no program. -/
import Derived.Test.YtenpmbfncnepgaaDoorWordsK
namespace Go.Proofs.YtenpmbfncnepgaaDoor
open Go.RowKit Go.Shelf
set_option linter.unusedVariables false
set_option maxRecDepth 100000

section
variable {P : Program} {ops : Array Oper} {Q : Exit → Act → World → Prop} {md : Region.Mode}
/-- whatever order is picked from here on, in whatever world that meets S; T0 is met until a barrier came -/
def wpAnyX (P : Program) (md : Region.Mode) (ops : Array Oper) (Q : Exit → Act → World → Prop) (bs : List Nat) (T0 : World → Prop) : (World → Prop) → Nat → Array Bool → Act → Prop
  | S, 0, listed, a => Region.ready md ops listed = [] ∧ ∀ w, S w → Q .normal a w
  | S, fuel + 1, listed, a => (Region.ready md ops listed = [] → ∀ w, S w → Q .normal a w) ∧
      ∀ i ∈ Region.ready md ops listed, ∀ w, S w → wpOp P ops Q i (fun a' w' => ∃ (S' : World → Prop), S' w' ∧ Kept S' ∧ (i ∉ bs → ∀ u, S' u → T0 u) ∧ wpAnyX P md ops Q bs T0 S' fuel (listed.setIfInBounds i true) a') a w
theorem wpAny_of_X {bs : List Nat} {T0 : World → Prop} : ∀ (fuel : Nat) (S : World → Prop) (listed : Array Bool) (a : Act) (w : World), S w → wpAnyX P md ops Q bs T0 S fuel listed a → wpAny P md ops Q fuel listed a w
  | 0, _, _, _, w, hS, h => ⟨h.1, h.2 w hS⟩
  | fuel + 1, _, _, _, w, hS, h => ⟨fun hr => h.1 hr w hS, fun i hi => wpOp_mono (fun a' w' ⟨S', h1, _, _, h2⟩ => wpAny_of_X fuel S' _ a' w' h1 h2) (h.2 i hi w hS)⟩
theorem wpAnyX_first {bs : List Nat} {T0 : World → Prop} {i : Nat} {o : Oper} {v : Value} (hi : ops[i]? = some o) (hib : i ∉ bs) (hsel : ∀ (j : Nat) (p : Oper) cs b, ops[j]? = some p → p.op ≠ .select cs b) (hQ : ∀ c a w, Q (.panic c) (a.put o.dst v) w → Q (.panic c) a w)
    (hbar : ∃ f, ∀ b ∈ bs, waitsR md ops f b i = true) :
    ∀ (fuel : Nat) (S : World → Prop) (listed : Array Bool) (a : Act), Kept S → (∀ w, S w → T0 w) → Whole md ops listed → Clear md ops i o listed → i ∈ Region.ready md ops listed → DoesV P ops T0 o v a → wpAnyX P md ops Q bs T0 S fuel (listed.setIfInBounds i true) (a.put o.dst v) → wpAnyX P md ops Q bs T0 S (fuel + 1) listed a
  | fuel, S, listed, a, hk, hST, hwh, hc, hr, hd, H => ⟨fun h => absurd h (List.ne_nil_of_mem hr), fun j hj w hS => by
      by_cases e : j = i
      · rw [e]
        exact hd.op hi (hST w hS) fun w' hb => ⟨S, hk w w' hS hb, hk, fun _ u h => hST u h, H⟩
      · have later := ready_mono hj e
        cases fuel with
        | zero => exact absurd H.1 (List.ne_nil_of_mem later)
        | succ fuel =>
          obtain ⟨hl, p, hp, hw⟩ := ready_two hr hj
          refine wpOp_mono (fun b w' hb => ?_) (opV_behind hp (hc j p hp e hl hw) (hsel i o · · hi) (hsel j p · · hp) hQ hd (H.2 j later w hS))
          obtain ⟨hdb, S', h1, h2, h3, hrest⟩ := hb
          rw [Array.setIfInBounds_comm _ _ (Ne.symm e)] at hrest
          obtain ⟨f, hf⟩ := id hbar
          have hjb : j ∉ bs := fun hm => by
            have hli := waitsR_listed hwh f j i (hf j hm) fun q hq e' he' hb' => by
              obtain ⟨_, q', hq', hall⟩ := mem_ready.1 hj
              have : q = q' := Option.some.inj (hq.symm.trans hq')
              subst this
              exact hall e' he' hb'
            exact getD_both (mem_ready.1 hr).1 hli
          exact ⟨S', h1, h2, h3, wpAnyX_first hi hib hsel hQ hbar fuel S' _ b h2 (h3 hjb) (hwh.set hj) (hc.less hl) (ready_mono hr (Ne.symm e)) hdb hrest⟩⟩
theorem wpAnyX_take {bs : List Nat} {T0 S : World → Prop} {i : Nat} {oi : Oper} {v : Value} {fuel : Nat} {listed : Array Bool} {a : Act} (f : Nat) (hk : Kept S) (hST : ∀ w, S w → T0 w) (hi : ops[i]? = some oi) (hs : Region.noSelect ops = true)
    (hchk : (Region.free md ops listed i && (Region.ready md ops listed).contains i && wholeB md ops listed && bs.all (fun b => (b != i) && waitsR md ops f b i)) = true)
    (hQ : ∀ c a w, Q (.panic c) (a.put oi.dst v) w → Q (.panic c) a w) (hd : DoesV P ops T0 oi v a) (h : wpAnyX P md ops Q bs T0 S fuel (listed.setIfInBounds i true) (a.put oi.dst v)) : wpAnyX P md ops Q bs T0 S (fuel + 1) listed a := by
  simp only [Bool.and_eq_true, List.all_eq_true, bne_iff_ne, ne_eq] at hchk
  obtain ⟨⟨⟨hf, hr⟩, hwh⟩, hb⟩ := hchk
  exact wpAnyX_first hi (fun hm => (hb i hm).1 rfl) (Region.noSelect_spec hs) hQ ⟨f, fun b hm => (hb b hm).2⟩ fuel S listed a hk hST (wholeB_spec hwh) (Region.free_spec hi hf) (by simpa using hr) hd h
/-- the only one that may come up: whatever it does -/
theorem wpAnyX_only {bs : List Nat} {T0 S : World → Prop} {i : Nat} {o : Oper} {fuel : Nat} {listed : Array Bool} {a : Act} (hi : ops[i]? = some o) (hr : Region.ready md ops listed = [i]) (hg : o.guard = none)
    (h : ∀ w, S w → Oper.wp P o a w (fun a' w' => ∃ (S' : World → Prop), S' w' ∧ Kept S' ∧ (i ∉ bs → ∀ u, S' u → T0 u) ∧ wpAnyX P md ops Q bs T0 S' fuel (listed.setIfInBounds i true) a') Q) : wpAnyX P md ops Q bs T0 S (fuel + 1) listed a :=
  ⟨fun e => (by rw [hr] at e; cases e), fun j hj w hS => by
    rw [hr, List.mem_singleton] at hj
    subst hj
    unfold wpOp
    simp only [hi]
    rw [if_pos (by simp [Region.wanted, hg])]
    exact .inl (h w hS)⟩
theorem wpAnyX_done {bs : List Nat} {T0 S : World → Prop} {listed : Array Bool} {a : Act} (hr : Region.ready md ops listed = []) (h : ∀ w, S w → Q .normal a w) : ∀ fuel, wpAnyX P md ops Q bs T0 S fuel listed a
  | 0 => ⟨hr, h⟩
  | _ + 1 => ⟨fun _ => h, by rw [hr]; simp⟩
theorem wp_region_X {id : Nat} {a : Act} {w : World} (bs : List Nat) (T0 S : World → Prop) (hm : P.follows .mixedOrders = true) (hS : S w.drew) (h : wpAnyX P .any ops Q bs T0 S ops.size (Array.replicate ops.size false) a) : (Code.region id ops true).wp P Q a w :=
  wp_region_any hm (wpAny_of_X _ _ _ _ _ hS h)
end

end Go.Proofs.YtenpmbfncnepgaaDoor
