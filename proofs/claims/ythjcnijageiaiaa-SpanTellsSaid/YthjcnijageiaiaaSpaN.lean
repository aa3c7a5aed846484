/- What SpanTells' walk takes: a span stored in a list of one's own; operations of a region that draws, under a guard; answers that are one. -/
import Derived.Test.YthjcnijageiaiaaSpaM
namespace Go.Proofs.Ythjcnijageiaiaa
open Go.RowKit Go.Shelf
set_option linter.unusedVariables false
set_option maxRecDepth 100000
set_option linter.unusedSimpArgs false

section
variable {α : Type} {E : Elem α}
theorem RowX.take {w : World} {F : Nat → Prop} {xs : List Value} {ls : List α} (hl : RowX E w F xs ls) (m : Nat) : RowX E w F (xs.take (m * E.n)) (ls.take m) := by
  refine ⟨?_, fun j hj => ?_⟩
  · rw [List.length_take, List.length_take, hl.1, Nat.mul_min_mul_right]
  · have hj' := hj
    rw [List.length_take] at hj'
    have h2 : (j + 1) * E.n ≤ m * E.n := Nat.mul_le_mul_right _ (by omega)
    rw [Nat.succ_mul] at h2
    have := hl.2 j (by omega)
    rw [List.drop_take, List.take_take, Nat.min_eq_left (by omega), List.getElem_take]
    exact this
theorem RowX.drop {w : World} {F : Nat → Prop} {xs : List Value} {ls : List α} (hl : RowX E w F xs ls) (m : Nat) : RowX E w F (xs.drop (m * E.n)) (ls.drop m) := by
  refine ⟨?_, fun j hj => ?_⟩
  · rw [List.length_drop, List.length_drop, hl.1, Nat.sub_mul]
  · rw [List.length_drop] at hj
    have := hl.2 (m + j) (by omega)
    rw [List.drop_drop, ← Nat.add_mul, List.getElem_drop]
    exact this
end
theorem over_take {A cs : List Value} {f N : Nat} (h1 : f + cs.length ≤ N) (h2 : N ≤ A.length) : (A.take f ++ cs ++ A.drop (f + cs.length)).take N = (A.take N).take f ++ cs ++ (A.take N).drop (f + cs.length) := by
  have e1 : (A.take f).length = f := by rw [List.length_take]; omega
  rw [List.take_append, List.take_of_length_le (by rw [List.length_append]; omega), List.length_append, e1, List.take_take, Nat.min_eq_left (by omega), List.drop_take]
theorem OwnX.block {w : World} {base : Nat} {F : Nat → Prop} {A : Option Addr} {n c : Nat} {l : List Sp} (h : OwnX spE w base F (.slice A n c) l) (hne : l ≠ []) : ∃ g, A = some ⟨g, 0, none⟩ ∧ base ≤ g := by
  obtain ⟨⟨xs, h1, h2⟩, h3⟩ := h
  rcases h1.2 with ⟨_, h0⟩ | ⟨g, cap, cur, hv, hb, _⟩
  · exact absurd (List.eq_nil_of_length_eq_zero h0) hne
  · cases hv
    exact ⟨g, rfl, hb⟩
section
variable {w : World} {ops : Array Oper} {rest : List Oper} {o : Oper} {a : Act} {Q : Exit → Act → World → Prop}
/-- one of the spans, stored whole -/
theorem wpList_setSp (hgd : o.guard = none) (x y : Operand) (ho : o.op = .store 25 x y) {base : Nat} {F : Nat → Prop} {g n c : Nat} {l : List Sp} (hown : OwnX spE w base F (.slice (some ⟨g, 0, none⟩) n c) l) (k : Nat) (hk : k < l.length) (hx : a.eval x = .pointer (some ⟨g, k * 2, none⟩)) (t : Sp) (hy : a.eval y = .agg (spC t).toArray) (ht : t.1 < 4294967296 ∧ t.2 < 4294967296)
    (h : ∀ w', OwnX spE w' base F (.slice (some ⟨g, 0, none⟩) n c) (l.set k t) → Turn w w' (· = g) → wpList Try.prog ops Q rest (a.put o.dst undef) w') : wpList Try.prog ops Q (o :: rest) a w := by
  obtain ⟨⟨xs, h1, h2⟩, h3⟩ := hown
  rcases h1.2 with ⟨hv, h0⟩ | ⟨g', cap, cur, hv, hbs, hg, hn, hc, hsz, htk⟩
  · omega
  · injection hv with e1 e3 e2
    injection e1 with e1
    injection e1 with e1
    subst e1 e2 e3
    have hsz2 : cur.size = c * 2 := hsz
    have htk2 : cur.toList.take (l.length * 2) = xs := htk
    have hlen : l.length * 2 ≤ cur.toList.length := by have e : cur.toList.length = cur.size := Array.length_toList; omega
    refine wpList_plain hgd fun K hh => wp_storeS 25 x y ho g (k * 2) hx (spC t) hy 25 cur hg (by show k * 2 + 2 ≤ cur.size; omega) (fun v hv => by simp [spC] at hv; rcases hv with rfl | rfl <;> rfl) infoSpan fun w' hc' ht' => hh _ _ (h w' ⟨⟨xs.take (k * 2) ++ spC t ++ xs.drop (k * 2 + 2), ?_, ?_⟩, h3⟩ ht')
    · rw [List.length_set]
      refine ⟨?_, .inr ⟨g, c, _, rfl, hbs, hc', hn, hc, ?_, ?_⟩⟩
      · have hxl : xs.length = l.length * 2 := h1.1
        rw [List.length_append, List.length_append, List.length_take, List.length_drop, hxl]
        show min (k * 2) (l.length * 2) + 2 + (l.length * 2 - (k * 2 + 2)) = l.length * 2
        omega
      · unfold over
        rw [List.size_toArray, List.length_append, List.length_append, List.length_take, List.length_drop, Array.length_toList, hsz2]
        show min (k * 2) (c * 2) + 2 + (c * 2 - (k * 2 + 2)) = c * 2
        omega
      · unfold over
        have h9 := over_take (A := cur.toList) (cs := spC t) (f := k * 2) (N := l.length * 2) (by show k * 2 + 2 ≤ _; omega) hlen
        rw [htk2] at h9
        exact h9
    · rw [List.set_eq_take_append_cons_drop, if_pos hk]
      have hr1 := (h2.take k).append (RowX.single (E := spE) (w := w) (F := fun q => F q ∧ (Value.slice (some ⟨g, 0, none⟩) l.length c).ownBlock ≠ some q) (x := t) ⟨rfl, ht⟩)
      have hr2 := hr1.append (h2.drop (k + 1))
      rw [show spE.n = 2 from rfl, show (k + 1) * 2 = k * 2 + 2 by omega, List.append_assoc (l.take k)] at hr2
      exact ⟨hr2.1, hr2.2⟩
end
section
variable {P : Program} {ops : Array Oper} {Q : Exit → Act → World → Prop} {md : Region.Mode}
theorem wpAnyV_onlyG {bs : List Nat} {S : World → Prop} {i : Nat} {o : Oper} {fuel : Nat} {listed : Array Bool} {a : Act} (hi : ops[i]? = some o) (hr : Region.ready md ops listed = [i]) (hw : Region.wanted o (yielded ops a.tmps) = true)
    (h : ∀ w, S w → Oper.wp P o a w (fun a' w' => ∃ (S' : World → Prop), S' w' ∧ Kept S' ∧ (i ∉ bs → ∀ u, S' u → S u) ∧ wpAnyV P md ops Q bs S' fuel (listed.setIfInBounds i true) a') Q) : wpAnyV P md ops Q bs S (fuel + 1) listed a :=
  ⟨fun e => (by rw [hr] at e; cases e), fun j hj w hS => by
    rw [hr, List.mem_singleton] at hj
    subst hj
    unfold wpOp
    simp only [hi]
    rw [if_pos hw]
    exact .inl (h w hS)⟩
theorem wpAnyV_twoG {bs : List Nat} {S : World → Prop} {i j : Nat} {o p : Oper} {fuel : Nat} {listed : Array Bool} {a : Act} (hi : ops[i]? = some o) (hj : ops[j]? = some p) (hr : Region.ready md ops listed = [i, j]) (hw : Region.wanted o (yielded ops a.tmps) = true) (hw' : Region.wanted p (yielded ops a.tmps) = true)
    (h : ∀ w, S w → Oper.wp P o a w (fun a' w' => ∃ (S' : World → Prop), S' w' ∧ Kept S' ∧ (i ∉ bs → ∀ u, S' u → S u) ∧ wpAnyV P md ops Q bs S' fuel (listed.setIfInBounds i true) a') Q)
    (h' : ∀ w, S w → Oper.wp P p a w (fun a' w' => ∃ (S' : World → Prop), S' w' ∧ Kept S' ∧ (j ∉ bs → ∀ u, S' u → S u) ∧ wpAnyV P md ops Q bs S' fuel (listed.setIfInBounds j true) a') Q) : wpAnyV P md ops Q bs S (fuel + 1) listed a :=
  ⟨fun e => (by rw [hr] at e; cases e), fun k hk w hS => by
    rw [hr] at hk
    simp only [List.mem_cons, List.not_mem_nil, or_false] at hk
    rcases hk with rfl | rfl
    · unfold wpOp
      simp only [hi]
      rw [if_pos hw]
      exact .inl (h w hS)
    · unfold wpOp
      simp only [hj]
      rw [if_pos hw']
      exact .inl (h' w hS)⟩
end
/-- an answer, or the error -/
def AnsS (P : List Sp → Sp → List Sp → Prop) (l : List Sp) (s : Sp) (r : List Sp) (er : Int) : Prop := ((mayS l = true ∧ s.1 ≤ s.2) ∧ P l s r ∧ er = 0) ∨ (¬ (mayS l = true ∧ s.1 ≤ s.2) ∧ r = [] ∧ er = 2)
theorem AnsS.one {P : List Sp → Sp → List Sp → Prop} (hP : ∀ {l s r q}, P l s r → P l s q → r = q) {l : List Sp} {s : Sp} {r q : List Sp} {er eq : Int} (h : AnsS P l s r er) (k : AnsS P l s q eq) : q = r ∧ eq = er := by
  rcases h with ⟨h1, h2, rfl⟩ | ⟨h1, rfl, rfl⟩ <;> rcases k with ⟨k1, k2, rfl⟩ | ⟨k1, rfl, rfl⟩
  · exact ⟨hP k2 h2, rfl⟩
  · exact absurd h1 k1
  · exact absurd k1 h1
  · exact ⟨rfl, rfl⟩
theorem DidSp.ans {P : List Sp → Sp → List Sp → Prop} {l : List Sp} {s : Sp} {w w' : World} {e : Ending} (h : DidSp P l s w e w') : ∃ r er A c, e = .returned (.tuple #[.slice A r.length c, .int .i64 er]) ∧ AnsS P l s r er ∧ r.length ≤ 2 * l.length + 2 ∧ LsF w' A c r ∧ AppX spE w (.slice A r.length c) r w' := by
  rcases h with ⟨h1, h2, v, r, rfl, h3, h4, h5⟩ | ⟨h1, rfl, h2⟩
  · obtain ⟨A, c, rfl, h6⟩ := h5.ls
    exact ⟨r, 0, A, c, rfl, .inl ⟨⟨h1, h2⟩, h3, rfl⟩, h4, h6, h5⟩
  · exact ⟨[], 2, none, 0, rfl, .inr ⟨h1, rfl, rfl⟩, Nat.zero_le _, ⟨.inl rfl, Nat.le_refl _, Nat.zero_le _, fun _ => ⟨rfl, rfl⟩⟩, AppX.nil h2⟩
theorem own_nothing (w : World) (B : Nat) (hB : B ≤ w.heap.size) : OwnX spE (w.alloc (.cells #[] 25)) B (fun _ => True) (.slice (some ⟨w.heap.size, 0, none⟩) 0 0) [] :=
  ⟨⟨[], ⟨rfl, .inr ⟨w.heap.size, 0, #[], rfl, hB, World.alloc_heap_new w _, Nat.le_refl _, Nat.zero_le _, rfl, rfl⟩⟩, RowX.nil _ _⟩, fun _ _ => trivial⟩

end Go.Proofs.Ythjcnijageiaiaa
