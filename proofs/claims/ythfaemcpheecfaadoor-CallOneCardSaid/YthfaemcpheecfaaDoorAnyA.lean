/- A region that draws its order: several makings of memory, in whatever order they come. Of no program. -/
import Derived.Test.YthfaemcpheecfaaDoorAnyW
import Derived.Test.YthfaemcpheecfaaDoorWordsK
namespace Go.Proofs.YthfaemcpheecfaaDoor
open Go.RowKit Go.Shelf
set_option linter.unusedVariables false
set_option maxRecDepth 100000

section
variable {P : Program} {ops : Array Oper} {Q : Exit → Act → World → Prop} {md : Region.Mode}
def setAll (l : Array Bool) (td : List (Nat × Nat)) : Array Bool := td.foldl (fun s x => s.setIfInBounds x.1 true) l
def putAll (g : Nat → Nat) (a : Act) (td : List (Nat × Nat)) : Act := td.foldl (fun s x => s.put (some x.2) (.pointer (some ⟨g x.1, 0, none⟩))) a
/-- these and no others are ready, and so whatever is taken from among them -/
def checkAll (md : Region.Mode) (ops : Array Oper) : Nat → List (Nat × Nat) → Array Bool → Bool
  | 0, _, _ => true
  | f + 1, td, listed => Region.ready md ops listed == td.map (·.1) && td.all fun x => checkAll md ops f (td.erase x) (listed.setIfInBounds x.1 true)
theorem setAll_erase {td : List (Nat × Nat)} {x : Nat × Nat} (hx : x ∈ td) (l : Array Bool) : setAll (l.setIfInBounds x.1 true) (td.erase x) = setAll l td := by
  unfold setAll
  rw [List.Perm.foldl_eq' (List.perm_cons_erase hx) (fun y _ z _ s => by
    by_cases e : y.1 = z.1
    · rw [e]
    · exact Array.setIfInBounds_comm _ _ e) l, List.foldl_cons]
theorem putAll_congr {g h : Nat → Nat} : ∀ (td : List (Nat × Nat)) (a : Act), (∀ y ∈ td, g y.1 = h y.1) → putAll g a td = putAll h a td
  | [], _, _ => rfl
  | y :: td, a, e => by
    unfold putAll
    rw [List.foldl_cons, List.foldl_cons, e y (List.mem_cons_self ..)]
    exact putAll_congr td _ fun z hz => e z (List.mem_cons_of_mem _ hz)
theorem putAll_erase {td : List (Nat × Nat)} (h2 : ∀ y ∈ td, ∀ z ∈ td, y.2 = z.2 → y = z) {x : Nat × Nat} (hx : x ∈ td) (g : Nat → Nat) (a : Act) : putAll g (a.put (some x.2) (.pointer (some ⟨g x.1, 0, none⟩))) (td.erase x) = putAll g a td := by
  unfold putAll
  rw [List.Perm.foldl_eq' (List.perm_cons_erase hx) (fun y hy z hz s => by
    by_cases e : y.2 = z.2
    · rw [h2 y hy z hz e]
    · exact Act.put_comm s _ _ fun d h h' => e (by injection h with h; injection h' with h'; omega)) a, List.foldl_cons]
theorem wpAnyW_allocs {T0 : World → Prop} (t : TypeId) (cs : List Value) (hz : ∀ w, (zeroValue t).run P w = .ok (.agg cs.toArray) w) : ∀ (n : Nat) (td : List (Nat × Nat)) (listed : Array Bool) (a : Act) (w : World) (fuel : Nat), td.length = n → checkAll md ops n td listed = true → td.Nodup →
    (∀ y ∈ td, ∀ z ∈ td, y.1 = z.1 → y = z) → (∀ y ∈ td, ∀ z ∈ td, y.2 = z.2 → y = z) → (∀ x ∈ td, ∃ o, ops[x.1]? = some o ∧ o.op = .alloc t ∧ o.dst = some x.2 ∧ o.guard = none) → (∀ u, Below w.heap.size w u → T0 u) →
    (∀ g w', (∀ x ∈ td, Cs w' (g x.1) t cs.toArray ∧ w.heap.size ≤ g x.1) → (∀ x ∈ td, ∀ y ∈ td, g x.1 = g y.1 → x = y) → Below w.heap.size w w' → wpAnyW P md ops Q T0 (Below w'.heap.size w') fuel (setAll listed td) (putAll g a td)) →
    wpAnyW P md ops Q T0 (Below w.heap.size w) (fuel + n) listed a
  | 0, td, listed, a, w, fuel, hn, _, _, _, _, _, _, H => by
    have : td = [] := List.length_eq_zero_iff.1 hn
    subst this
    exact H (fun _ => 0) w (fun x hx => absurd hx (List.not_mem_nil)) (fun x hx => absurd hx (List.not_mem_nil)) (Below.refl _ _)
  | n + 1, td, listed, a, w, fuel, hn, hc, hd, h1, h2, ho, hT, H => by
    unfold checkAll at hc
    simp only [Bool.and_eq_true, beq_iff_eq, List.all_eq_true] at hc
    obtain ⟨hr, hall⟩ := hc
    refine ⟨fun e => ?_, fun j hj u hu => ?_⟩
    · rw [hr, List.map_eq_nil_iff] at e
      rw [e] at hn
      cases hn
    · rw [hr] at hj
      obtain ⟨x, hx, rfl⟩ := List.mem_map.1 hj
      obtain ⟨o, hi, hop, hds, hg⟩ := ho x hx
      have hm : ∀ y ∈ td.erase x, y ∈ td := fun y hy => List.mem_of_mem_erase hy
      have hne : ∀ y ∈ td.erase x, y ≠ x := fun y hy e => by
        rw [hd.mem_erase_iff] at hy
        exact hy.1 e
      unfold wpOp
      simp only [hi]
      rw [if_pos (by simp [Region.wanted, hg])]
      refine .inl (wp_allocS t hop cs hz fun g0 w1 hcs hb hg0 => ⟨Below w1.heap.size w1, Below.refl _ _, kept_below w1, fun v hv => hT v (below_chain (below_chain hu hb) hv), ?_⟩)
      refine wpAnyW_allocs t cs hz n (td.erase x) _ _ w1 fuel (by rw [List.length_erase_of_mem hx, hn]; rfl) (hall x hx) (hd.erase x) (fun y hy z hz => h1 y (hm y hy) z (hm z hz)) (fun y hy z hz => h2 y (hm y hy) z (hm z hz)) (fun y hy => ho y (hm y hy)) (fun v hv => hT v (below_chain (below_chain hu hb) hv)) ?_
      intro g w' hgs hgi hb'
      have hk : ∀ y ∈ td.erase x, (if y.1 = x.1 then g0 else g y.1) = g y.1 := fun y hy => if_neg fun e => hne y hy (h1 y (hm y hy) x hx e)
      have key := H (fun k => if k = x.1 then g0 else g k) w' (fun y hy => by
        by_cases e : y = x
        · subst e
          rw [if_pos rfl]
          exact ⟨hcs.below hb' hcs.lt, Nat.le_trans hu.size hg0⟩
        · rw [hk y ((List.mem_erase_of_ne e).2 hy)]
          have := hgs y ((List.mem_erase_of_ne e).2 hy)
          exact ⟨this.1, Nat.le_trans (Nat.le_trans hu.size hb.size) this.2⟩) (fun y hy z hz e => by
        have lt := hcs.lt
        by_cases ey : y = x
        · by_cases ez : z = x
          · rw [ey, ez]
          · have mz := (List.mem_erase_of_ne ez).2 hz
            rw [hk z mz, ey, if_pos rfl] at e
            have := (hgs z mz).2
            omega
        · have my := (List.mem_erase_of_ne ey).2 hy
          by_cases ez : z = x
          · rw [hk y my, ez, if_pos rfl] at e
            have := (hgs y my).2
            omega
          · have mz := (List.mem_erase_of_ne ez).2 hz
            rw [hk y my, hk z mz] at e
            exact hgi y my z mz e) (below_chain (below_chain hu hb) hb')
      rw [hds, setAll_erase hx]
      have e1 := putAll_erase h2 hx (fun k => if k = x.1 then g0 else g k) a
      rw [if_pos rfl] at e1
      rw [← e1] at key
      rw [putAll_congr (h := fun k => if k = x.1 then g0 else g k) (td.erase x) _ fun y hy => (hk y hy).symm]
      exact key
end

end Go.Proofs.YthfaemcpheecfaaDoor
