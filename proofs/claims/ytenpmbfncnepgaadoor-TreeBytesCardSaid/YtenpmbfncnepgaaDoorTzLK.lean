/- TzLK: TzU TzL TzM TzN TzO. -/
import Derived.ArgAppend
import Derived.Carry
import Derived.Deep.LoopGhost
import Derived.Maps.OwnSet
import Derived.Test.YtenpmbfncnepgaaDoorTrPK
import Derived.Test.YtenpmbfncnepgaaDoorTreEK
import Derived.Test.YtenpmbfncnepgaaDoorTzAK
import Derived.Test.YtenpmbfncnepgaaDoorTzHK
/- What is beneath a node, gathered one behind the other: plain. Of no program. -/
namespace Go.Proofs.YtenpmbfncnepgaaDoor
open Go.RowKit Go.Shelf
set_option linter.unusedVariables false
set_option maxRecDepth 100000
set_option linter.unusedSimpArgs false

def kidsN (n : Nd) : List Nat := n.names.map (·.2)
/-- how deep a node lies -/
inductive Deep (l : List Nd) : Nat → Nat → Prop
  | root : Deep l 0 1
  | step {d : Nat} {n : Nd} {e : Ent} : n ∈ l → e ∈ n.names → Deep l d n.ino → Deep l (d + 1) e.2
theorem kid_mem {l : List Nd} {n : Nd} {e : Ent} (hn : n ∈ l) (he : e ∈ n.names) : e.2 ∈ (entsL l).map (·.2) := List.mem_map.2 ⟨e, mem_ents.2 ⟨n, hn, he⟩, rfl⟩
theorem Deep.one {t : Tr} (h : MayT t) : ∀ {d y : Nat}, Deep t.nodes d y → ∀ {d' : Nat}, Deep t.nodes d' y → d = d' := by
  intro d y h1
  induction h1 with
  | root =>
    intro d' h2
    generalize hz : (1 : Nat) = z at h2
    cases h2 with
    | root => rfl
    | step hn he hd => exact absurd (kid_mem hn he) (by rw [← hz]; exact h.noroot)
  | @step d n e hn he hd ih =>
    intro d' h2
    have hx : e.2 ∈ (entsL t.nodes).map (·.2) := kid_mem hn he
    generalize hy : e.2 = y at h2 hx
    cases h2 with
    | root => exact absurd hx h.noroot
    | @step d2 n2 e2 hn2 he2 hd2 =>
      obtain rfl := ents_dir h.rise h.once hn hn2 he he2 hy
      rw [ih hd2]
theorem Deep.of {l : List Nd} {y : Nat} (h : Under l 1 y) : ∃ d, Deep l d y := by
  induction h with
  | here => exact ⟨0, .root⟩
  | step hn he _ ih =>
    obtain ⟨d, hd⟩ := ih
    exact ⟨d + 1, .step hn he hd⟩
/-- what is beneath lies deeper -/
theorem Deep.le {t : Tr} (h : MayT t) {f y : Nat} (hu : Under t.nodes f y) {d d' : Nat} (hf : Deep t.nodes d f) (hy : Deep t.nodes d' y) : d ≤ d' := by
  induction hu generalizing d' with
  | here => rw [hf.one h hy]; exact Nat.le_refl _
  | @step n e hn he hu ih =>
    obtain ⟨dn, hdn⟩ := Deep.of (h.above n hn)
    have h1 := ih hdn
    have h2 := hy.one h (.step hn he hdn)
    omega
/-- no node is beneath its own child -/
theorem no_ring {t : Tr} (h : MayT t) {n : Nd} {e : Ent} (hn : n ∈ t.nodes) (he : e ∈ n.names) : ¬ Under t.nodes e.2 n.ino := fun hu => by
  obtain ⟨d, hd⟩ := Deep.of (h.above n hn)
  have := Deep.le h hu (.step hn he hd) hd
  omega
/-- how far it has come: what is done, and what is ahead -/
structure UI (l : List Nd) (f : Nat) (D Q : List Nat) : Prop where
  nd : (D ++ Q).Nodup
  un : ∀ y ∈ D ++ Q, Under l f y
  up : ∀ y ∈ D ++ Q, y = f ∨ ∃ n ∈ l, n.ino ∈ D ∧ ∃ e ∈ n.names, e.2 = y
  dn : ∀ n ∈ l, n.ino ∈ D → ∀ e ∈ n.names, e.2 ∈ D ++ Q
  at0 : f ∈ D ++ Q
theorem UI.start (l : List Nd) (f : Nat) : UI l f [] [f] := ⟨by simp, fun y hy => by simp at hy; subst hy; exact .here, fun y hy => by simp at hy; exact .inl hy, fun n hn h => (by cases h), by simp⟩
theorem UI.ino {t : Tr} (h : MayT t) {f : Nat} (hf : f ∈ inosL t.nodes) {D Q : List Nat} (hI : UI t.nodes f D Q) : ∀ y ∈ D ++ Q, y ∈ inosL t.nodes := fun y hy => by
  rcases hI.up y hy with rfl | ⟨n, hn, -, e, he, rfl⟩
  · exact hf
  · exact ((h.ok n hn).good e he).2
theorem UI.next {t : Tr} (h : MayT t) {f y : Nat} {D Q : List Nat} (hI : UI t.nodes f D (y :: Q)) {n : Nd} (hn : n ∈ t.nodes) (hy : n.ino = y) : UI t.nodes f (D ++ [y]) (Q ++ kidsN n) := by
  have hyD : y ∉ D := fun hd => by
    have := hI.nd
    rw [List.nodup_append] at this
    exact this.2.2 y hd y (by simp) rfl
  have e1 : (D ++ [y]) ++ (Q ++ kidsN n) = (D ++ y :: Q) ++ kidsN n := by simp
  have hkid : ∀ c ∈ kidsN n, c ∉ D ++ y :: Q := fun c hc hcd => by
    obtain ⟨e, he, rfl⟩ := List.mem_map.1 hc
    rcases hI.up e.2 hcd with hf | ⟨m, hm, hmD, e', he', e2⟩
    · refine no_ring h hn he ?_
      rw [hf, hy]
      exact hI.un y (by simp)
    · obtain rfl := ents_dir h.rise h.once hm hn he' he e2
      rw [hy] at hmD
      exact hyD hmD
  have hsub : ∀ z, z ∈ D ++ y :: Q → z ∈ (D ++ [y]) ++ (Q ++ kidsN n) := fun z hz => by rw [e1]; exact List.mem_append_left _ hz
  refine ⟨?_, fun z hz => ?_, fun z hz => ?_, fun m hm hmD e he => ?_, hsub _ hI.at0⟩
  · rw [e1, List.nodup_append]
    refine ⟨hI.nd, ?_, fun a ha b hb e => hkid b hb (e ▸ ha)⟩
    obtain ⟨pre, post, h1, -, -⟩ := sort_split h.rise hn
    have := h.once
    rw [h1, entsL_app, entsL_cons, List.map_append, List.map_append] at this
    exact ((List.nodup_append.1 this).2.1 |> List.nodup_append.1).1
  · rw [e1] at hz
    rcases List.mem_append.1 hz with hz | hz
    · exact hI.un z hz
    · obtain ⟨e, he, rfl⟩ := List.mem_map.1 hz
      exact .step hn he (by rw [hy]; exact hI.un y (by simp))
  · rw [e1] at hz
    rcases List.mem_append.1 hz with hz | hz
    · rcases hI.up z hz with h1 | ⟨m, hm, hmD, h2⟩
      · exact .inl h1
      · exact .inr ⟨m, hm, List.mem_append_left _ hmD, h2⟩
    · obtain ⟨e, he, rfl⟩ := List.mem_map.1 hz
      exact .inr ⟨n, hn, by rw [hy]; simp, e, he, rfl⟩
  · rw [e1]
    rcases List.mem_append.1 hmD with h1 | h1
    · exact List.mem_append_left _ (hI.dn m hm h1 e he)
    · rw [List.mem_singleton] at h1
      obtain rfl := sort_one h.rise hm hn (by rw [h1, hy])
      exact List.mem_append_right _ (List.mem_map.2 ⟨e, he, rfl⟩)
theorem UI.fresh {l : List Nd} {f y : Nat} {D Q : List Nat} (hI : UI l f D (y :: Q)) : y ∉ D := fun hd => by
  have := hI.nd
  rw [List.nodup_append] at this
  exact this.2.2 y hd y (by simp) rfl
theorem UI.over {l : List Nd} {f : Nat} {D : List Nat} (hI : UI l f D []) (y : Nat) : y ∈ D ↔ Under l f y := by
  have hI' := hI
  constructor
  · exact fun hy => hI.un y (by simp [hy])
  · intro hu
    induction hu with
    | here => have := hI.at0; simpa using this
    | @step n e hn he _ ih => have := hI.dn n hn ih e he; simpa using this
theorem nodup_sub_le : ∀ {a b : List Nat}, a.Nodup → (∀ z ∈ a, z ∈ b) → a.length ≤ b.length
  | [], b, _, _ => Nat.zero_le _
  | x :: a, b, h, hs => by
    obtain ⟨p, q, rfl⟩ := List.append_of_mem (hs x (by simp))
    rw [List.nodup_cons] at h
    have := nodup_sub_le (a := a) (b := p ++ q) h.2 fun z hz => by
      have h1 := hs z (by simp [hz])
      simp only [List.mem_append, List.mem_cons] at h1 ⊢
      rcases h1 with h1 | rfl | h1
      · exact .inl h1
      · exact absurd hz h.1
      · exact .inr h1
    simp only [List.length_append, List.length_cons] at this ⊢
    omega
theorem UI.len {t : Tr} (h : MayT t) {f : Nat} (hf : f ∈ inosL t.nodes) {D Q : List Nat} (hI : UI t.nodes f D Q) : (D ++ Q).length ≤ t.nodes.length := by
  have := nodup_sub_le hI.nd (hI.ino h hf)
  unfold inosL at this
  rwa [List.length_map] at this
/-- from the root on it is all -/
theorem UI.all {t : Tr} (h : MayT t) {D : List Nat} (hI : UI t.nodes 1 D []) : D.length = t.nodes.length := by
  obtain ⟨r, hr, hr1, -⟩ := h.root
  have h1 := hI.len h (mem_inos.2 ⟨r, hr, hr1⟩)
  have h2 : (inosL t.nodes).Nodup := (List.pairwise_map.2 h.rise).imp fun {a b} hab => by omega
  have h3 := nodup_sub_le (b := D) h2 fun z hz => by
    obtain ⟨n, hn, rfl⟩ := mem_inos.1 hz
    exact (hI.over n.ino).2 (h.above n hn)
  unfold inosL at h3
  rw [List.length_map] at h3
  rw [List.append_nil] at h1
  omega

end Go.Proofs.YtenpmbfncnepgaaDoor

/- The program: under: a set of numbers, a queue of numbers. -/
namespace Go.Proofs.YtenpmbfncnepgaaDoor
open Go.RowKit Go.Shelf Go.Maps
set_option linter.unusedVariables false
set_option maxRecDepth 100000
set_option linter.unusedSimpArgs false

/-! ### a set of numbers -/
def kyU (y : Nat) : Lit := .int .u32 (y : Int)
def SetIs (w : World) (b : Nat) (D : List Nat) : Prop := ∃ M : DataW Unit, w.ownsMap Tryd.prog 24 unitElem b D.length M ∧ (∀ y, Maps.has M (kyU y) = decide (y ∈ D)) ∧ Maps.size M = D.length
theorem SetIs.lt {w : World} {b : Nat} {D : List Nat} (h : SetIs w b D) : b < w.heap.size := by obtain ⟨M, h, _⟩ := h; exact h.lt
theorem SetIs.turn {w w' : World} {F : Nat → Prop} {b : Nat} {D : List Nat} (h : SetIs w b D) (ht : Turn w w' F) (hF : ¬ F b) : SetIs w' b D := by
  obtain ⟨M, h, r⟩ := h
  exact ⟨M, ownsMap_turn h ht hF, r⟩
theorem SetIs.below {w w' : World} {b : Nat} {D : List Nat} (h : SetIs w b D) (hb : Below w.heap.size w w') : SetIs w' b D := h.turn (Turn.of_below hb fun _ => False) fun h => h
theorem SetIs.new (w : World) : SetIs (w.alloc (.map #[] 0)) w.heap.size [] := ⟨.map [], World.ownsMap_made w Tryd.prog _ _, fun y => by simp [Maps.has_eq], rfl⟩
theorem keyedU : Keyed Tryd.prog 24 := int_keyed Tryd.underlying24
theorem wfU {y : Nat} (h : y < 4294967296) : (Lit.int .u32 (y : Int)).wf = true := by
  simp [Lit.wf, IntKind.min, IntKind.max, IntKind.signed, IntKind.bits]
  omega
theorem zeroUnit (w : World) : (zeroValue 113).run Tryd.prog w = .ok (.agg #[]) w := by kernel_rfl
theorem kyU_ne {a b : Nat} (h : a ≠ b) : kyU a ≠ kyU b := fun e => h (by unfold kyU at e; injection e with _ e; omega)
section
variable {w : World} {ops : Array Oper} {rest : List Oper} {o : Oper} {a : Act} {Q : Exit → Act → World → Prop}
theorem wpList_setHas (hgd : o.guard = none) (m x : Operand) (ho : o.op = .lookup 110 m x true) (b : Nat) (D : List Nat) (hm : a.eval m = .map (some b)) (hs : SetIs w b D) (y : Nat) (hy : y < 4294967296) (hx : a.eval x = .int .u32 (y : Int)) (q : Bool) (hq : decide (y ∈ D) = q)
    (h : wpList Tryd.prog ops Q rest (a.put o.dst (.tuple #[.agg #[], .bool q])) w) : wpList Tryd.prog ops Q (o :: rest) a w := by
  obtain ⟨M, h1, h2, h3⟩ := hs
  refine wpList_lookup_own_unit w hgd m x 110 ho 24 113 keyedU Tryd.underlying110 (zeroUnit w) b D.length M hm h1 _ (kyU y) hx (keyOf_int_mk Tryd.underlying24 (wfU hy)) ?_
  rw [h2 y, hq]
  exact h
theorem wpList_setPut (hgd : o.guard = none) (m x v : Operand) (ho : o.op = .mapUpdate 110 m x v) (b : Nat) (D : List Nat) (hm : a.eval m = .map (some b)) (hs : SetIs w b D) (hl : D.length ≤ 1000000) (y : Nat) (hy : y < 4294967296) (hx : a.eval x = .int .u32 (y : Int)) (hv : a.eval v = .agg #[]) (hD : y ∉ D)
    (h : ∀ w', SetIs w' b (D ++ [y]) → Turn w w' (· = b) → wpList Tryd.prog ops Q rest (a.put o.dst undef) w') : wpList Tryd.prog ops Q (o :: rest) a w := by
  obtain ⟨M, h1, h2, h3⟩ := hs
  refine wpList_mapUpdate_in w hgd m x v 110 ho 24 113 keyedU Tryd.underlying110 unitElem b D.length M hm h1 (by simp only [maxLen]; omega) _ _ (kyU y) hx hv (keyOf_int_mk Tryd.underlying24 (wfU hy)) (.agg []) [] unitElem_mk ?_
  intro w' h4 h5
  refine h w' ⟨M.put (kyU y) (.agg []), by rw [List.length_append]; exact h4, fun z => ?_, ?_⟩ ((Turn.of_grown h5.grown).mono fun k _ e => by injection e with e; exact e.symm)
  · by_cases e : z = y
    · subst e
      rw [has_put_same h1.isMap (by trivial)]
      simp
    · rw [has_put_other (kyU_ne e), h2 z]
      simp [e]
  · rw [size_put (h1.tidy keyedU), h2 y, if_neg (by simpa using hD), h3]
    simp
theorem wpList_setLen (hgd : o.guard = none) (m : Operand) (ho : o.op = .call { callee := .builtin .len, args := #[m], argTypes := #[110] }) (b : Nat) (D : List Nat) (hm : a.eval m = .map (some b)) (hs : SetIs w b D)
    (h : wpList Tryd.prog ops Q rest (a.put o.dst (.int .i64 (D.length : Int))) w) : wpList Tryd.prog ops Q (o :: rest) a w := by
  obtain ⟨M, h1, h2, h3⟩ := hs
  refine wpList_len_own w hgd m 110 ho 24 113 Tryd.underlying110 unitElem b D.length M hm h1 ?_
  rw [h3]
  exact h
end
/-! ### a queue of numbers -/
def Qu (w : World) (base : Nat) (v : Value) (l : List Nat) : Prop := ∃ g o c cur, v = .slice (some ⟨g, o, none⟩) l.length c ∧ Cs w g 24 cur ∧ base ≤ g ∧ o + c ≤ cur.size ∧ l.length ≤ c ∧ c ≤ maxLen ∧ ∀ j (h : j < l.length), cur[o + j]? = some (.int .u32 (l[j] : Int))
theorem Qu.turn {w w' : World} {F : Nat → Prop} {base : Nat} {v : Value} {l : List Nat} (h : Qu w base v l) (ht : Turn w w' F) (hF : ∀ k, v.ownBlock = some k → ¬ F k) : Qu w' base v l := by
  obtain ⟨g, o, c, cur, rfl, h1, h2⟩ := h
  exact ⟨g, o, c, cur, rfl, h1.turn ht (hF g rfl), h2⟩
theorem Qu.below {w w' : World} {base : Nat} {v : Value} {l : List Nat} (h : Qu w base v l) (hb : Below w.heap.size w w') : Qu w' base v l := h.turn (Turn.of_below hb fun _ => False) fun _ _ h => h
theorem Qu.apart {w : World} {base b : Nat} {v : Value} {l D : List Nat} (h : Qu w base v l) (hs : SetIs w b D) : v.ownBlock ≠ some b := by
  obtain ⟨g, o, c, cur, rfl, h1, -⟩ := h
  obtain ⟨M, ⟨es, clock, h2, -⟩, -⟩ := hs
  intro e
  injection e with e
  dsimp only at e
  subst e
  rw [show w.heap[g]? = _ from h1] at h2
  cases h2
theorem infoU32x : ∃ i, Tryd.prog.info? 24 = some i ∧ i.zero = some (.int .u32 0) ∧ i.size = 1 ∧ i.bytes = 4 := ⟨_, rfl, rfl, rfl, rfl⟩
section
variable {w : World} {ops : Array Oper} {rest : List Oper} {o : Oper} {a : Act} {Q : Exit → Act → World → Prop}
theorem run_app_q {w : World} (ty : TypeId) {base : Nat} {v : Value} {l : List Nat} (hq : Qu w base v l) (vb x : Nat) (hv : Cs w vb 24 #[.int .u32 (x : Int)]) (hl : l.length ≤ 1000000) (hb : base ≤ w.heap.size) :
    ∃ v' w', (Builtin.append_ #[121, 121] ty #[v, .slice (some ⟨vb, 0, none⟩) 1 1]).run Tryd.prog w = .ok v' w' ∧ Qu w' base v' (l ++ [x]) ∧ Turn w w' (fun k => v.ownBlock = some k) := by
  obtain ⟨g, o, c, cur, rfl, hg, h1, h2, h3, h4, h5⟩ := hq
  obtain ⟨i, hi, hz, hs, hby⟩ := infoU32x
  have hnews : ∀ j u, [Value.int .u32 (x : Int)][j]? = some u → w.cell? ((⟨vb, 0, none⟩ : Addr).add j) = some u := fun j u hu => by
    rw [addr_add, Nat.zero_add]
    exact hv.cell j (by simpa using hu)
  have hone : ∀ u ∈ [Value.int .u32 (x : Int)], u.oneCell' = true := by intro u hu; simp at hu; subst hu; rfl
  by_cases hr : l.length + 1 ≤ c
  · have hf := run_firstCells_some (P := Tryd.prog) w i.size 1 ⟨vb, 0, none⟩ 1 1 [Value.int .u32 (x : Int)] (by simp [hs]) hnews
    have hst := run_storeCells_at Tryd.prog g (o + l.length) 24 [Value.int .u32 (x : Int)] 0 cur w hg (by simp; omega) hone
    simp only [Nat.add_zero] at hst
    rw [hs] at hf
    have hrun : (Builtin.append_ #[121, 121] ty #[.slice (some ⟨g, o, none⟩) l.length c, .slice (some ⟨vb, 0, none⟩) 1 1]).run Tryd.prog w = .ok (.slice (some ⟨g, o, none⟩) (l.length + 1) c) (w.setRow g (over cur (o + l.length) [.int .u32 (x : Int)])) := by
      simp [Builtin.append_, run_underlying Tryd.underlying121, sizeOf, typeInfo, hi, Builtin.lenOf, hr, hf, Addr.add_lit, hs, hst, over]
    refine ⟨_, _, hrun, ⟨g, o, c, _, by rw [List.length_append]; rfl, hg.row _, h1, ?_, by rw [List.length_append]; exact hr, h4, fun j hj => ?_⟩, ?_⟩
    · rw [over_size _ _ _ (by simp; omega)]; exact h2
    · by_cases e : j = l.length
      · subst e
        have := over_in cur (o + l.length) [.int .u32 (x : Int)] (by simp; omega) 0 (by simp)
        rw [Nat.add_zero] at this
        rw [this]
        simp
      · have hj2 : j < l.length := by rw [List.length_append] at hj; simp at hj; omega
        rw [over_out cur (o + l.length) _ (by simp; omega) (o + j) (by omega), h5 j hj2, List.getElem_append_left hj2]
    · exact ((Turn.of_grown (grown_row w g _)).mono fun k _ e => e)
  · obtain ⟨v', w', hrun, h6, h7⟩ := run_append_arg_grows (P := Tryd.prog) w 121 ty 24 i (.int .u32 0) 1 4 Tryd.underlying121 hi hz hs hby rfl (by decide) ⟨g, o, none⟩ l.length c (l.map fun n : Nat => Value.int .u32 (n : Int)) (by simp) (fun j u hu => by
      have hj : j < l.length := by have := (List.getElem?_eq_some_iff.1 hu).1; rwa [List.length_map] at this
      rw [addr_add]
      rw [List.getElem?_map, List.getElem?_eq_getElem hj] at hu
      exact hg.cell _ ((h5 j hj).trans hu)) ⟨vb, 0, none⟩ 1 1 [.int .u32 (x : Int)] (by simp) hnews (by omega) (by simp only [maxLen]; omega) (by omega)
    refine ⟨v', w', hrun, ?_, (Turn.of_grown h7).mono fun k _ e => by cases e⟩
    rcases h6.2 with ⟨_, h0⟩ | ⟨g', cap, cur', rfl, hb', hg', hc', hm', hs', ht'⟩
    · omega
    · refine ⟨g', 0, cap, cur', by rw [List.length_append]; rfl, hg', Nat.le_trans hb hb', by omega, by rw [List.length_append]; exact hc', hm', fun j hj => ?_⟩
      rw [Nat.zero_add]
      have hj' : j < (l.length + 1) * 1 := by rw [List.length_append] at hj; simp at hj; omega
      have e1 : cur'.toList[j]? = (cur'.toList.take ((l.length + 1) * 1))[j]? := by rw [List.getElem?_take_of_lt hj']
      rw [ht'] at e1
      have e2 : cur'[j]? = cur'.toList[j]? := by simp
      rw [e2, e1, show (l.map fun n : Nat => Value.int .u32 (n : Int)) ++ [.int .u32 (x : Int)] = (l ++ [x]).map fun n : Nat => Value.int .u32 (n : Int) by simp, List.getElem?_map, List.getElem?_eq_getElem hj]
      rfl
theorem wpList_appQ (hgd : o.guard = none) (s x : Operand) (ho : o.op = .call { callee := .builtin .append, args := #[s, x], argTypes := #[121, 121] }) {base : Nat} {v : Value} {l : List Nat} (hs : a.eval s = v) (hq : Qu w base v l) (vb y : Nat) (hx : a.eval x = .slice (some ⟨vb, 0, none⟩) 1 1) (hv : Cs w vb 24 #[.int .u32 (y : Int)]) (hl : l.length ≤ 1000000) (hb : base ≤ w.heap.size)
    (h : ∀ v' w', Qu w' base v' (l ++ [y]) → Turn w w' (fun k => v.ownBlock = some k) → wpList Tryd.prog ops Q rest (a.put o.dst v') w') : wpList Tryd.prog ops Q (o :: rest) a w := by
  obtain ⟨v', w', hr, h1, h2⟩ := run_app_q o.type hq vb y hv hl hb
  refine wpList_plain hgd fun K hK => ?_
  unfold Oper.wp execOp
  simp only [ho, resolve, invoke, builtin, Sem.run_bind, Sem.run_pure, Result.andThen_ok, List.map_toArray, List.map_cons, List.map_nil, hs, hx, hr]
  exact hK _ _ (h v' w' h1 h2)
end
theorem Qu.tail {w : World} {base : Nat} {g o c y : Nat} {l : List Nat} (h : Qu w base (.slice (some ⟨g, o, none⟩) (y :: l).length c) (y :: l)) : Qu w base (.slice (if c = 1 then some ⟨g, o, none⟩ else some ⟨g, o + 1, none⟩) l.length (c - 1)) l := by
  obtain ⟨g', o', c', cur, e, h1, h2, h3, h4, h5, h6⟩ := h
  injection e with e1 _ e2
  injection e1 with e1
  injection e1 with e3 e4
  subst e3 e4 e2
  simp only [List.length_cons] at h4
  by_cases hc : c = 1
  · subst hc
    have : l = [] := List.eq_nil_of_length_eq_zero (by omega)
    subst this
    exact ⟨g, o, 0, cur, by simp, h1, h2, by omega, by simp, by omega, fun j hj => by simp at hj⟩
  · refine ⟨g, o + 1, c - 1, cur, by simp [hc], h1, h2, by omega, by omega, by omega, fun j hj => ?_⟩
    have := h6 (j + 1) (by simp; omega)
    rw [show o + 1 + j = o + (j + 1) by omega, this]
    simp

end Go.Proofs.YtenpmbfncnepgaaDoor

/- The program: under: what is beneath a node. -/
namespace Go.Proofs.YtenpmbfncnepgaaDoor
open Go.RowKit Go.Shelf Go.Maps
set_option linter.unusedVariables false
set_option maxRecDepth 100000
set_option linter.unusedSimpArgs false

/-- what is beneath a node, as a set -/
def UnderRet (l : List Nd) (f : Nat) (e : Ending) (w' : World) : Prop := ∃ mb D, e = .returned (.tuple #[.map (some mb), .bool true]) ∧ SetIs w' mb D ∧ UI l f D []
theorem Qu.head {w : World} {base : Nat} {v : Value} {y : Nat} {l : List Nat} (h : Qu w base v (y :: l)) : ∃ g o c, v = .slice (some ⟨g, o, none⟩) (l.length + 1) c ∧ l.length + 1 ≤ c ∧ w.cell? ⟨g, o, none⟩ = some (.int .u32 (y : Int)) := by
  obtain ⟨g, o, c, cur, rfl, h1, h2, h3, h4, h5, h6⟩ := h
  have := h6 0 (by simp)
  exact ⟨g, o, c, rfl, h4, h1.cell o (by simpa using this)⟩
theorem wpList_buildU {w : World} {ops : Array Oper} {rest : List Oper} {o : Oper} {a : Act} {Q : Exit → Act → World → Prop} (hgd : o.guard = none) (x : Operand) (ho : o.op = .buildSlice 121 1 #[(0, x)]) (n : Nat) (hx : a.eval x = .int .u32 (n : Int))
    (hK : ∀ g w', Cs w' g 24 #[.int .u32 (n : Int)] → Below w.heap.size w w' → w.heap.size ≤ g → wpList Tryd.prog ops Q rest (a.put o.dst (.slice (some ⟨g, 0, none⟩) 1 1)) w') : wpList Tryd.prog ops Q (o :: rest) a w := by
  refine wpList_plain hgd fun _ hh => wp_of_run2 (v := .slice (some ⟨w.heap.size, 0, none⟩) 1 1) (w' := w.alloc (.cells #[.int .u32 (n : Int)] 24)) ?_ (hh _ _ (hK _ _ (Cs.new _ _ _) ((Below.refl _ _).alloc (Nat.le_refl _) _) (Nat.le_refl _)))
  unfold execOp
  simp only [ho, hx, List.map_toArray, List.map_cons, List.map_nil]
  go_simp
theorem Qu.one {w : World} {base g f : Nat} (h : Cs w g 24 #[.int .u32 (f : Int)]) (hb : base ≤ g) : Qu w base (.slice (some ⟨g, 0, none⟩) 1 1) [f] := ⟨g, 0, 1, _, rfl, h, hb, by simp, by simp, by simp [maxLen], fun j hj => by simp at hj; subst hj; rfl⟩
set_option maxHeartbeats 16000000 in
theorem under_v (t : Tr) (f : Nat) (A : Option Addr) (c : Nat) (F : Nat → Prop) (w : World) (hm : MayT t) (hf : f ∈ inosL t.nodes) (r : RdX nodeE w F A t.nodes) :
    Calls Tryd.prog 80 #[.slice A t.nodes.length c, .int .u32 (f : Int)] w fun e w' => UnderRet t.nodes f e w' ∧ Below w.heap.size w w' := by
  have HR := Lib.hid r
  have HM := Lib.hid hm
  have HF := Lib.hid hf
  have hmm := run_makeMap (P := Tryd.prog) 110 w
  obtain ⟨mb, hmb⟩ : ∃ mb, mb = w.heap.size := ⟨_, rfl⟩
  obtain ⟨w1, hw1⟩ : ∃ w1, w1 = w.alloc (.map #[] 0) := ⟨_, rfl⟩
  have HS1 := Lib.hid (show SetIs w1 mb [] by rw [hw1, hmb]; exact SetIs.new w)
  have HB1 := Lib.hid (show Below w.heap.size w w1 by rw [hw1]; exact (Below.refl _ _).alloc (Nat.le_refl _) _)
  rw [← hmb, ← hw1] at hmm
  have HMB := Lib.hid hmb
  clear r hm hf hmb hw1
  go_enter Tryd.func80, Tryd.ntmps80
  go_wp2_with (first
    | ((with_reducible show wpList _ _ _ _ _ w1); refine wpList_buildU rfl _ rfl f rfl ?_; intro g2 w2 hk1 hb1 hg1; go_frame; have Q2 := Lib.hid (Qu.one (base := w.heap.size) hk1 (Nat.le_trans HB1.out.size hg1)); have S2 := Lib.hid (HS1.out.below hb1); have B2 := Lib.hid (below_chain HB1.out hb1); clear hk1 hb1 hg1)
    | fail)
  clear hmm
  go_loopg [7] t.nodes.length (fun kx v7 wr => ∃ D Q, UI t.nodes f D Q ∧ Qu wr w.heap.size v7 Q ∧ SetIs wr mb D ∧ Below w.heap.size w wr ∧ t.nodes.length - D.length ≤ kx)
  case atStart => exact ⟨[], [f], UI.start _ _, Q2.out, S2.out, B2.out, by simp⟩
  case round =>
    obtain ⟨D, Q, hI, hq, hs, hb, hkx⟩ := hrel
    have HI := Lib.hid hI
    have HS := Lib.hid hs
    have HB := Lib.hid hb
    have HLQ := Lib.hid (hI.len HM.out HF.out)
    have HMN := Lib.hid HM.out.many
    have HKX := Lib.hid hkx
    cases Q with
    | nil =>
      obtain ⟨g, o, cq, cur, rfl, -⟩ := hq
      clear hI hs hb hkx
      go_wp2_with fail
      go_ret2
      exact ⟨⟨mb, D, rfl, HS.out, HI.out⟩, HB.out⟩
    | cons y Q =>
      have HQ := Lib.hid hq
      obtain ⟨g, o, cq, rfl, hcq, hcell⟩ := hq.head
      obtain ⟨n, hn, hy⟩ := mem_inos.1 (hI.ino HM.out HF.out y (by simp))
      have HN := Lib.hid hn
      have HY := Lib.hid hy
      have HNX := Lib.hid (hI.next HM.out hn hy)
      have HFR := Lib.hid hI.fresh
      have HOK := Lib.hid (HM.out.ok n hn)
      have iq : (Q.length : Int) ≤ 64 := by have h1 := HLQ.out; have h2 := HMN.out; rw [List.length_append, List.length_cons] at h1; omega
      have icq : (Q.length : Int) + 1 ≤ cq := by omega
      have HCQ := Lib.hid hcq
      have HPL := Lib.hid (place_v t.nodes y A c F wr (by have := HMN.out; omega) HM.out.rise (HR.out.below hb))
      have hy32 : y < 4294967296 := by
        obtain ⟨i, hi, e⟩ := List.getElem_of_mem hn
        obtain ⟨b, off, cs, -, ⟨dv, ev, -, -, -, h5, -⟩, -⟩ := HR.out.get i hi
        rw [e, hy] at h5
        exact h5
      have HY32 := Lib.hid hy32
      clear hI hs hb hkx hn hy hcq hq hy32
      go_wp2_with fail
      refine HPL.out.mono ?_
      rintro e w3 ⟨⟨i, b, rfl, hp⟩, hb⟩
      have hbt : b = true := by
        cases b
        · have h1 := hp.no rfl
          rw [(nodeT_some HM.out.rise).2 ⟨HN.out, HY.out⟩] at h1
          cases h1
        · rfl
      subst hbt
      obtain ⟨hi, -, hi2⟩ := hp.yes rfl
      have HIN := Lib.hid (show t.nodes[i] = n from by
        rw [(nodeT_some HM.out.rise).2 ⟨HN.out, HY.out⟩] at hi2
        injection hi2 with hi2
        exact hi2.symm)
      have B3 := Lib.hid (below_chain HB.out hb)
      have S3 := Lib.hid (HS.out.below hb)
      have Q3 := Lib.hid (HQ.out.below hb)
      have q0 : w3.cell? ⟨g, o, none⟩ = some (.int .u32 (y : Int)) := by
        obtain ⟨g', o', c', e, -, h⟩ := Q3.out.head
        injection e with e1
        injection e1 with e1
        injection e1 with e2 e3
        subst e2 e3
        exact h
      clear hp hb hcell hi2
      have HAP := Lib.hid (show g ≠ mb from fun e => Q3.out.apart S3.out (by rw [e]; rfl))
      obtain ⟨b, off, rfl⟩ : ∃ b off, A = some ⟨b, off, none⟩ := by
        obtain ⟨b, off, cs, e, -⟩ := HR.out.get i hi
        exact ⟨b, off, e⟩
      have HDL := Lib.hid (show D.length ≤ 1000000 by have h1 := HLQ.out; have h2 := HMN.out; rw [List.length_append] at h1; omega)
      obtain ⟨dv, ev, hat, -, ⟨B2, c2, rfl, hr2, -⟩, -⟩ := nd_head HR.out hi
      rw [HIN.out] at hat hr2
      have HAT := Lib.hid hat
      have HR2 := Lib.hid hr2
      have HKL := Lib.hid (show n.names.length ≤ 32 from HOK.out.many)
      have ikl : (n.names.length : Int) ≤ 32 := by have := HKL.out; omega
      clear hat hr2
      have hb4 : Below w3.heap.size w3 (w3.alloc (.cells #[] 113)) := (Below.refl _ _).alloc (Nat.le_refl _) _
      have q1 : (w3.alloc (.cells #[] 113)).cell? ⟨g, o, none⟩ = some (.int .u32 (y : Int)) := by
        obtain ⟨g', o', c', e, -, h⟩ := (Q3.out.below hb4).head
        injection e with e1
        injection e1 with e1
        injection e1 with e2 e3
        subst e2 e3
        exact h
      have S4 := Lib.hid (S3.out.below hb4)
      have Q4 := Lib.hid (Q3.out.below hb4)
      have B4 := Lib.hid (below_chain B3.out hb4)
      clear hb4
      go_wp2_with (first
        | ((with_reducible show wpList _ _ _ _ _ w3); refine wpList_setHas rfl _ _ rfl mb D rfl S3.out y HY32.out rfl false (decide_eq_false HFR.out) ?_; go_frame)
        | ((with_reducible show wpList _ _ _ _ _ (w3.alloc (.cells #[] 113))); refine wpList_setPut rfl _ _ _ rfl mb D rfl S4.out HDL.out y HY32.out rfl rfl HFR.out ?_; intro w5 hs5 ht5; go_frame; have S5 := Lib.hid hs5; have Q5 := Lib.hid (Q4.out.turn ht5 (fun k e h => by injection e with e; exact HAP.out (e.trans h))); have hb5 : Below w.heap.size w w5 := B4.out.trans (ht5.below B4.out.size fun k e => by rw [e, HMB.out]; exact Nat.le_refl _); have B5 := Lib.hid hb5; have q5 : w5.cell? ⟨b, off + i * 6 + 5, none⟩ = some (.slice B2 n.names.length c2) := (At.tz HAT.out hb5) 5 _ rfl; clear hs5 ht5 hb5)
        | fail)
      clear q0 q1 q5
      go_loopw [7, 54] (fun v7 j wz => ∃ k : Nat, j = .int .i64 k ∧ k ≤ n.names.length ∧ Qu wz w.heap.size v7 ((y :: Q) ++ (kidsN n).take k) ∧ SetIs wz mb (D ++ [y]) ∧ Below w.heap.size w wz) (fun _ j _ => n.names.length - (RowKit.intOf j).toNat)
      case atStart => exact ⟨0, rfl, Nat.zero_le _, by rw [List.take_zero, List.append_nil]; exact Q5.out, S5.out, B5.out⟩
      case round =>
        obtain ⟨k, rfl, hk, hq, hs, hb⟩ := hrel
        have HQ := Lib.hid hq
        have HS := Lib.hid hs
        have HB := Lib.hid hb
        by_cases hlt : k < n.names.length
        · obtain ⟨b3, off3, xs, rfl, ⟨rfl, hx32⟩, hat⟩ := (HR2.out.below hb).get k hlt
          have HAT3 := Lib.hid hat
          have HTS := Lib.hid (show (kidsN n).take (k + 1) = (kidsN n).take k ++ [n.names[k].2] by
            unfold kidsN
            rw [take_snoc (by rw [List.length_map]; exact hlt), List.getElem_map])
          have HLL := Lib.hid (show ((y :: Q) ++ (kidsN n).take k).length ≤ 1000000 by rw [List.length_append, List.length_cons, List.length_take]; omega)
          generalize n.names[k] = x at *
          clear hq hs hb hat hx32
          go_wp2_with (first
            | ((with_reducible show wpList _ _ _ _ _ wr); refine wpList_load_agg rfl 84 _ rfl b3 (off3 + k * 2) rfl [sv x.1, .int .u32 (x.2 : Int)] HAT3.out _ Tryd.underlying84 rfl infoEnt ?_; go_frame)
            | ((with_reducible show wpList _ _ _ _ _ wr); refine wpList_allocS rfl 84 rfl [sv [], .int .u32 0] entZero ?_; intro g6 w6 hk1 hb1 hg1; go_frame; have C6 := Lib.hid hk1; have B6 := Lib.hid hb1; have G6 := Lib.hid hg1; clear hk1 hb1 hg1)
            | ((with_reducible show wpList _ _ _ _ _ w6); refine wpList_storeS rfl 84 _ _ rfl g6 rfl [sv x.1, .int .u32 (x.2 : Int)] [sv [], .int .u32 0] rfl C6.out rfl (by intro v hv; simp at hv; rcases hv with rfl | rfl <;> rfl) infoEnt ?_; intro w7 hk2 ht2; go_frame; have B7 := Lib.hid (show Below wr.heap.size wr w7 from below_turn B6.out ht2 B6.out.size G6.out); have q1 : w7.cell? ⟨g6, 1, none⟩ = some (.int .u32 (x.2 : Int)) := hk2.cell 1 rfl; clear hk2 ht2)
            | ((with_reducible show wpList _ _ _ _ _ w7); refine wpList_buildU rfl _ rfl x.2 rfl ?_; intro g8 w8 hk1 hb1 hg1; go_frame; have C8 := Lib.hid hk1; have B8 := Lib.hid (below_chain B7.out hb1); clear hk1 hb1 hg1)
            | (at_builtin; refine wpList_appQ rfl _ _ rfl rfl (HQ.out.below B8.out) g8 x.2 rfl C8.out HLL.out (Nat.le_trans HB.out.size B8.out.size) ?_; intro v9 w9 hq9 ht9; go_frame; have Q9 := Lib.hid hq9; have T9 := Lib.hid ht9; clear hq9 ht9)
            | fail)
          go_roundw
          case rel =>
            refine ⟨k + 1, by go_num, hlt, by rw [HTS.out, ← List.append_assoc]; exact Q9.out, ((HS.out.below B8.out).turn T9.out fun e => (HQ.out.below B8.out).apart (HS.out.below B8.out) e), ?_⟩
            refine (below_chain HB.out B8.out).trans (T9.out.below (Nat.le_trans HB.out.size B8.out.size) fun q e => ?_)
            obtain ⟨g', o', c', cur', e', -, h1, -⟩ := HQ.out
            rw [e'] at e
            injection e with e
            rw [← e]
            exact h1
          case measure => simp [RowKit.intOf]; omega
        · obtain rfl : k = n.names.length := by omega
          have hkk : (kidsN n).take n.names.length = kidsN n := List.take_of_length_le (by unfold kidsN; rw [List.length_map]; exact Nat.le_refl _)
          rw [hkk] at hq
          have hq2 : Qu wr w.heap.size u7 (y :: (Q ++ kidsN n)) := hq
          obtain ⟨g7, o7, c7, rfl, hc7, -⟩ := hq2.head
          have HT7 := Lib.hid (Qu.tail hq2)
          have HLT := Lib.hid (show (Q ++ kidsN n).length = Q.length + n.names.length by rw [List.length_append]; unfold kidsN; rw [List.length_map])
          have i7 : ((Q ++ kidsN n).length : Int) ≤ 96 := by have := HLT.out; omega
          have HDD := Lib.hid (show D.length < t.nodes.length by have h1 := HLQ.out; rw [List.length_append, List.length_cons] at h1; omega)
          generalize Q ++ kidsN n = QQ at *
          clear hq hq2 hs hb hkk
          by_cases hc1 : c7 = 1
          · subst hc1
            go_wp2_with fail
            go_roundg (t.nodes.length - (D ++ [y]).length)
            case measure => have h1 := HDD.out; have h2 := HKX.out; rw [List.length_append, List.length_singleton]; omega
            case rel => exact ⟨D ++ [y], QQ, HNX.out, (by have hz : QQ.length = 0 := (by omega); have h9 := HT7.out; rw [hz] at h9; simpa using h9), HS.out, HB.out, Nat.le_refl _⟩
          · go_wp2_with fail
            go_roundg (t.nodes.length - (D ++ [y]).length)
            case measure => have h1 := HDD.out; have h2 := HKX.out; rw [List.length_append, List.length_singleton]; omega
            case rel => exact ⟨D ++ [y], QQ, HNX.out, by have := HT7.out; rw [if_neg hc1] at this; simpa using this, HS.out, HB.out, Nat.le_refl _⟩

end Go.Proofs.YtenpmbfncnepgaaDoor

/- The program: May, of a tree that may be. -/
namespace Go.Proofs.YtenpmbfncnepgaaDoor
open Go.RowKit Go.Shelf Go.Maps
set_option linter.unusedVariables false
set_option maxRecDepth 100000
set_option linter.unusedSimpArgs false

theorem bytesLess_is : ∀ a b : List UInt8, Op.bytesLess a b = decide (a < b)
  | [], [] => by simp [Op.bytesLess]
  | [], b :: q => by simp [Op.bytesLess]
  | a :: p, [] => by simp [Op.bytesLess]
  | a :: p, b :: q => by
    have ih := bytesLess_is p q
    unfold Op.bytesLess
    rw [ih]
    by_cases h1 : a < b
    · simp [h1, List.cons_lt_cons_iff]
    · by_cases h2 : a = b
      · subst h2
        simp [List.cons_lt_cons_iff]
      · simp [h1, h2, List.cons_lt_cons_iff]
theorem geq_sv (a b : Key) (h : lessK a b = true) (w : World) : (binOp .geq 9 (sv a) (sv b)).run Tryd.prog w = .ok (.bool false) w := by
  have h1 : Op.bytesLess a b = true := by
    rw [bytesLess_is]
    exact h
  have h2 : ¬ b = a := fun e => lessK_ne h e.symm
  have e1 : (⟨a.toArray⟩ : ByteArray).toList = a := by rw [Lib.toList_data]
  have e2 : (⟨b.toArray⟩ : ByteArray).toList = b := by rw [Lib.toList_data]
  unfold sv
  go_simp
  all_goals (try simp [e1, e2, h1, h2])

set_option maxHeartbeats 1000000 in
theorem inoOf_v (n : Nd) (cs : List Value) (G : Nat → Prop) (W : World) (h : NdAt W G cs n) :
    Calls Tryd.prog 64 #[.agg cs.toArray] W fun e w' => e = .returned (.int .u32 (n.ino : Int)) ∧ Below W.heap.size W w' := by
  obtain ⟨dv, nv, rfl, -⟩ := h
  go_enter Tryd.func64, Tryd.ntmps64
  go_wp2_with (first
    | ((with_reducible show wpList _ _ _ _ _ W); refine wpList_boxS rfl 34 _ rfl (ndC n dv nv) rfl ?_; intro g1 w1 hk1 hb1 hg1; go_frame; have q0 : w1.cell? ⟨g1, 0, none⟩ = some (.int .u32 (n.ino : Int)) := hk1.cell 0 rfl; have B1 := Lib.hid hb1; clear hk1 hb1 hg1)
    | fail)
  go_ret
  exact ⟨rfl, B1.out⟩
set_option maxHeartbeats 1000000 in
theorem nameOf_v (x : Ent) (cs : List Value) (G : Nat → Prop) (W : World) (h : entE.rd W G cs x) :
    Calls Tryd.prog 88 #[.agg cs.toArray] W fun e w' => e = .returned (sv x.1) ∧ Below W.heap.size W w' := by
  obtain ⟨rfl, -⟩ := h
  go_enter Tryd.func88, Tryd.ntmps88
  go_wp2_with (first
    | ((with_reducible show wpList _ _ _ _ _ W); refine wpList_boxS rfl 84 _ rfl [sv x.1, .int .u32 (x.2 : Int)] rfl ?_; intro g1 w1 hk1 hb1 hg1; go_frame; have q0 : w1.cell? ⟨g1, 0, none⟩ = some (sv x.1) := hk1.cell 0 rfl; have B1 := Lib.hid hb1; clear hk1 hb1 hg1)
    | fail)
  go_ret
  exact ⟨rfl, B1.out⟩
set_option maxHeartbeats 1000000 in
theorem isNoName_v (x : Ent) (cs : List Value) (G : Nat → Prop) (W : World) (hT : Tabs W) (h : entE.rd W G cs x) :
    Calls Tryd.prog 90 #[.agg cs.toArray] W fun e w' => e = .returned (.bool (!nameL x.1)) ∧ Below W.heap.size W w' := by
  obtain ⟨rfl, -⟩ := h
  have HT := Lib.hid hT
  clear hT
  go_enter Tryd.func90, Tryd.ntmps90
  go_wp2_with (first
    | ((with_reducible show wpList _ _ _ _ _ W); refine wpList_boxS rfl 84 _ rfl [sv x.1, .int .u32 (x.2 : Int)] rfl ?_; intro g1 w1 hk1 hb1 hg1; go_frame; have q0 : w1.cell? ⟨g1, 0, none⟩ = some (sv x.1) := hk1.cell 0 rfl; have B1 := Lib.hid hb1; have T1 := Lib.hid (HT.out.below hb1); clear hk1 hb1 hg1)
    | fail)
  refine (Is_sv x.1 w1 T1.out).mono ?_
  rintro e w2 ⟨rfl, hb⟩
  have B2 := Lib.hid (below_chain B1.out hb)
  clear hb
  go_wp2_with fail
  go_ret
  exact ⟨rfl, B2.out⟩
set_option maxHeartbeats 4000000 in
theorem rise_nd (l : List Nd) (A : Option Addr) (c : Nat) (F : Nat → Prop) (w : World) (hl : l.length ≤ 1000000) (hs : SortN l) (r : RdX nodeE w F A l) :
    Calls Tryd.prog 63 #[.slice A l.length c, .func (.func 64) #[] #[]] w fun e w' => e = .returned (.bool true) ∧ Below w.heap.size w w' := by
  have hmix : Tryd.prog.follows .mixedOrders = true := by kernel_rfl
  have HR := Lib.hid r
  have HS := Lib.hid hs
  have iln : (l.length : Int) ≤ 1000000 := by omega
  clear r hs
  go_enter Tryd.func63, Tryd.ntmps63
  go_wp2
  go_loopw [5] (fun j wr => ∃ k : Nat, j = .int .i64 k ∧ 1 ≤ k ∧ (k ≤ l.length ∨ k = 1) ∧ Below w.heap.size w wr) (fun j _ => l.length - (RowKit.intOf j).toNat)
  case atStart => exact ⟨1, rfl, Nat.le_refl _, .inr rfl, Below.refl _ _⟩
  case round =>
    obtain ⟨k, rfl, hk1, hk2, hB⟩ := hrel
    have HB := Lib.hid hB
    by_cases hlt : k < l.length
    · obtain ⟨m, rfl⟩ : ∃ m, k = m + 1 := ⟨k - 1, by omega⟩
      obtain ⟨b, off, cs, rfl, hrd, hat⟩ := (HR.out.below hB).get m (by omega)
      obtain ⟨b', off', ds, e, hrd2, hat2⟩ := (HR.out.below hB).get (m + 1) hlt
      cases e
      have HLT := Lib.hid (List.pairwise_iff_getElem.1 HS.out m (m + 1) (by omega) hlt (by omega))
      have HA1 := Lib.hid (show At wr b (off + m * 6) cs from hat)
      have HA2 := Lib.hid (show At wr b (off + (m + 1) * 6) ds from hat2)
      have HD1 := Lib.hid hrd
      have HD2 := Lib.hid hrd2
      have HL1 := Lib.hid (show cs.length = 6 from nodeE.len hrd)
      have HL2 := Lib.hid (show ds.length = 6 from nodeE.len hrd2)
      have hlt2 : (m : Int) + 1 < l.length := by omega
      generalize l[m] = x at *
      generalize l[m + 1] = y at *
      clear hrd hrd2 hat hat2 hB
      have jw : IntKind.i64.wrap (m : Int) = (m : Int) := by rw [IntKind.wrap_i64]; omega
      have jw2 : (m : Int) + 1 - 1 = m := by omega
      have j3 : ¬ (m : Int) < 0 := by omega
      have j4 : ¬ ((m : Int) + 1 < 0) := by omega
      have j5 : ¬ l.length ≤ m := by omega
      have j6 : ¬ l.length ≤ m + 1 := by omega
      have j7 : x.ino < y.ino := HLT.out
      go_wp2_with fail
      refine wp_region_V [] (Below wr.heap.size wr) hmix ((Below.refl _ _).drew) ?_
      change wpAnyV _ _ _ _ _ _ _ _ _
      refine wpAnyV_take (i := 0) (v := .func (.func 64) #[] #[]) 12 (kept_below wr) rfl (by kernel_rfl) (by kernel_rfl) (fun _ _ _ h => h) (fun _ h => h) (DoesV.reads (by rfl) fun w9 hS => by go_simp) ?_
      try simp only [List.getElem_toArray, List.getElem_cons_succ, List.getElem_cons_zero, Act.put, List.setIfInBounds_toArray, List.set_cons_succ, List.set_cons_zero]
      refine wpAnyV_take (i := 1) (v := .slice (some ⟨b, off, none⟩) l.length c) 12 (kept_below wr) rfl (by kernel_rfl) (by kernel_rfl) (fun _ _ _ h => h) (fun _ h => h) (DoesV.reads (by rfl) fun w9 hS => by go_simp) ?_
      try simp only [List.getElem_toArray, List.getElem_cons_succ, List.getElem_cons_zero, Act.put, List.setIfInBounds_toArray, List.set_cons_succ, List.set_cons_zero]
      refine wpAnyV_take (i := 2) (v := .int .i64 ((m : Int) + 1)) 12 (kept_below wr) rfl (by kernel_rfl) (by kernel_rfl) (fun _ _ _ h => h) (fun _ h => h) (DoesV.reads (by rfl) fun w9 hS => by go_simp) ?_
      try simp only [List.getElem_toArray, List.getElem_cons_succ, List.getElem_cons_zero, Act.put, List.setIfInBounds_toArray, List.set_cons_succ, List.set_cons_zero]
      refine wpAnyV_take (i := 3) (v := .int .i64 (m : Int)) 12 (kept_below wr) rfl (by kernel_rfl) (by kernel_rfl) (fun _ _ _ h => h) (fun _ h => h) (DoesV.reads (by rfl) fun w9 hS => by go_simp) ?_
      try simp only [List.getElem_toArray, List.getElem_cons_succ, List.getElem_cons_zero, Act.put, List.setIfInBounds_toArray, List.set_cons_succ, List.set_cons_zero]
      refine wpAnyV_take (i := 4) (v := .pointer (some ⟨b, off + m * 6, none⟩)) 12 (kept_below wr) rfl (by kernel_rfl) (by kernel_rfl) (fun _ _ _ h => h) (fun _ h => h) (DoesV.reads (by rfl) fun w9 hS => by go_simp) ?_
      try simp only [List.getElem_toArray, List.getElem_cons_succ, List.getElem_cons_zero, Act.put, List.setIfInBounds_toArray, List.set_cons_succ, List.set_cons_zero]
      refine wpAnyV_take (i := 5) (v := .agg cs.toArray) 12 (kept_below wr) rfl (by kernel_rfl) (by kernel_rfl) (fun _ _ _ h => h) (fun _ h => h) (DoesV.loadT (by rfl) 34 _ rfl b (off + m * 6) rfl cs (fun w9 hS => At.tz HA1.out hS) _ Tryd.underlying34 rfl (by rw [HL1.out]; exact infoNode)) ?_
      try simp only [List.getElem_toArray, List.getElem_cons_succ, List.getElem_cons_zero, Act.put, List.setIfInBounds_toArray, List.set_cons_succ, List.set_cons_zero]
      refine wpAnyV_take (i := 6) (v := .int .u32 (x.ino : Int)) 12 (kept_below wr) rfl (by kernel_rfl) (by kernel_rfl) (fun _ _ _ h => h) (fun _ h => h) (DoesV.calls 64 #[.agg cs.toArray] (by rfl) (fun w9 hS => by go_simp) (fun w9 hS => inoOf_v x cs F w9 (nodeE.turn HD1.out (Turn.of_below hS fun _ => False) fun _ _ h => h))) ?_
      try simp only [List.getElem_toArray, List.getElem_cons_succ, List.getElem_cons_zero, Act.put, List.setIfInBounds_toArray, List.set_cons_succ, List.set_cons_zero]
      refine wpAnyV_take (i := 7) (v := .func (.func 64) #[] #[]) 12 (kept_below wr) rfl (by kernel_rfl) (by kernel_rfl) (fun _ _ _ h => h) (fun _ h => h) (DoesV.reads (by rfl) fun w9 hS => by go_simp) ?_
      try simp only [List.getElem_toArray, List.getElem_cons_succ, List.getElem_cons_zero, Act.put, List.setIfInBounds_toArray, List.set_cons_succ, List.set_cons_zero]
      refine wpAnyV_take (i := 8) (v := .slice (some ⟨b, off, none⟩) l.length c) 12 (kept_below wr) rfl (by kernel_rfl) (by kernel_rfl) (fun _ _ _ h => h) (fun _ h => h) (DoesV.reads (by rfl) fun w9 hS => by go_simp) ?_
      try simp only [List.getElem_toArray, List.getElem_cons_succ, List.getElem_cons_zero, Act.put, List.setIfInBounds_toArray, List.set_cons_succ, List.set_cons_zero]
      refine wpAnyV_take (i := 9) (v := .int .i64 ((m : Int) + 1)) 12 (kept_below wr) rfl (by kernel_rfl) (by kernel_rfl) (fun _ _ _ h => h) (fun _ h => h) (DoesV.reads (by rfl) fun w9 hS => by go_simp) ?_
      try simp only [List.getElem_toArray, List.getElem_cons_succ, List.getElem_cons_zero, Act.put, List.setIfInBounds_toArray, List.set_cons_succ, List.set_cons_zero]
      refine wpAnyV_take (i := 10) (v := .pointer (some ⟨b, off + (m + 1) * 6, none⟩)) 12 (kept_below wr) rfl (by kernel_rfl) (by kernel_rfl) (fun _ _ _ h => h) (fun _ h => h) (DoesV.reads (by rfl) fun w9 hS => by go_simp) ?_
      try simp only [List.getElem_toArray, List.getElem_cons_succ, List.getElem_cons_zero, Act.put, List.setIfInBounds_toArray, List.set_cons_succ, List.set_cons_zero]
      refine wpAnyV_take (i := 11) (v := .agg ds.toArray) 12 (kept_below wr) rfl (by kernel_rfl) (by kernel_rfl) (fun _ _ _ h => h) (fun _ h => h) (DoesV.loadT (by rfl) 34 _ rfl b (off + (m + 1) * 6) rfl ds (fun w9 hS => At.tz HA2.out hS) _ Tryd.underlying34 rfl (by rw [HL2.out]; exact infoNode)) ?_
      try simp only [List.getElem_toArray, List.getElem_cons_succ, List.getElem_cons_zero, Act.put, List.setIfInBounds_toArray, List.set_cons_succ, List.set_cons_zero]
      refine wpAnyV_take (i := 12) (v := .int .u32 (y.ino : Int)) 12 (kept_below wr) rfl (by kernel_rfl) (by kernel_rfl) (fun _ _ _ h => h) (fun _ h => h) (DoesV.calls 64 #[.agg ds.toArray] (by rfl) (fun w9 hS => by go_simp) (fun w9 hS => inoOf_v y ds F w9 (nodeE.turn HD2.out (Turn.of_below hS fun _ => False) fun _ _ h => h))) ?_
      try simp only [List.getElem_toArray, List.getElem_cons_succ, List.getElem_cons_zero, Act.put, List.setIfInBounds_toArray, List.set_cons_succ, List.set_cons_zero]
      refine wpAnyV_take (i := 13) (v := .bool false) 12 (kept_below wr) rfl (by kernel_rfl) (by kernel_rfl) (fun _ _ _ h => h) (fun _ h => h) (DoesV.reads (by rfl) fun w9 hS => by go_simp) ?_
      try simp only [List.getElem_toArray, List.getElem_cons_succ, List.getElem_cons_zero, Act.put, List.setIfInBounds_toArray, List.set_cons_succ, List.set_cons_zero]
      refine wpAnyV_done (by kernel_rfl) (fun w1 hw1 => ?_) _
      have B1 := Lib.hid (below_chain HB.out hw1)
      clear hw1
      go_wp2_with fail
      go_roundw
      case rel => exact ⟨m + 1 + 1, by go_num, by omega, .inl hlt, B1.out⟩
      case measure => simp [RowKit.intOf]; omega
    · clear hB
      go_wp2_with fail
      go_ret
      exact ⟨rfl, HB.out⟩
set_option maxHeartbeats 4000000 in
theorem rise_en (l : List Ent) (A : Option Addr) (c : Nat) (F : Nat → Prop) (w : World) (hl : l.length ≤ 1000000) (hs : SortE l) (r : RdX entE w F A l) :
    Calls Tryd.prog 87 #[.slice A l.length c, .func (.func 88) #[] #[]] w fun e w' => e = .returned (.bool true) ∧ Below w.heap.size w w' := by
  have hmix : Tryd.prog.follows .mixedOrders = true := by kernel_rfl
  have HR := Lib.hid r
  have HS := Lib.hid hs
  have iln : (l.length : Int) ≤ 1000000 := by omega
  clear r hs
  go_enter Tryd.func87, Tryd.ntmps87
  go_wp2
  go_loopw [5] (fun j wr => ∃ k : Nat, j = .int .i64 k ∧ 1 ≤ k ∧ (k ≤ l.length ∨ k = 1) ∧ Below w.heap.size w wr) (fun j _ => l.length - (RowKit.intOf j).toNat)
  case atStart => exact ⟨1, rfl, Nat.le_refl _, .inr rfl, Below.refl _ _⟩
  case round =>
    obtain ⟨k, rfl, hk1, hk2, hB⟩ := hrel
    have HB := Lib.hid hB
    by_cases hlt : k < l.length
    · obtain ⟨m, rfl⟩ : ∃ m, k = m + 1 := ⟨k - 1, by omega⟩
      obtain ⟨b, off, cs, rfl, hrd, hat⟩ := (HR.out.below hB).get m (by omega)
      obtain ⟨b', off', ds, e, hrd2, hat2⟩ := (HR.out.below hB).get (m + 1) hlt
      cases e
      have HLT := Lib.hid (List.pairwise_iff_getElem.1 HS.out m (m + 1) (by omega) hlt (by omega))
      have HA1 := Lib.hid (show At wr b (off + m * 2) cs from hat)
      have HA2 := Lib.hid (show At wr b (off + (m + 1) * 2) ds from hat2)
      have HD1 := Lib.hid hrd
      have HD2 := Lib.hid hrd2
      have HL1 := Lib.hid (show cs.length = 2 from entE.len hrd)
      have HL2 := Lib.hid (show ds.length = 2 from entE.len hrd2)
      have hlt2 : (m : Int) + 1 < l.length := by omega
      generalize l[m] = x at *
      generalize l[m + 1] = y at *
      clear hrd hrd2 hat hat2 hB
      have jw : IntKind.i64.wrap (m : Int) = (m : Int) := by rw [IntKind.wrap_i64]; omega
      have jw2 : (m : Int) + 1 - 1 = m := by omega
      have j3 : ¬ (m : Int) < 0 := by omega
      have j4 : ¬ ((m : Int) + 1 < 0) := by omega
      have j5 : ¬ l.length ≤ m := by omega
      have j6 : ¬ l.length ≤ m + 1 := by omega

      go_wp2_with fail
      refine wp_region_V [] (Below wr.heap.size wr) hmix ((Below.refl _ _).drew) ?_
      change wpAnyV _ _ _ _ _ _ _ _ _
      refine wpAnyV_take (i := 0) (v := .func (.func 88) #[] #[]) 12 (kept_below wr) rfl (by kernel_rfl) (by kernel_rfl) (fun _ _ _ h => h) (fun _ h => h) (DoesV.reads (by rfl) fun w9 hS => by go_simp) ?_
      try simp only [List.getElem_toArray, List.getElem_cons_succ, List.getElem_cons_zero, Act.put, List.setIfInBounds_toArray, List.set_cons_succ, List.set_cons_zero]
      refine wpAnyV_take (i := 1) (v := .slice (some ⟨b, off, none⟩) l.length c) 12 (kept_below wr) rfl (by kernel_rfl) (by kernel_rfl) (fun _ _ _ h => h) (fun _ h => h) (DoesV.reads (by rfl) fun w9 hS => by go_simp) ?_
      try simp only [List.getElem_toArray, List.getElem_cons_succ, List.getElem_cons_zero, Act.put, List.setIfInBounds_toArray, List.set_cons_succ, List.set_cons_zero]
      refine wpAnyV_take (i := 2) (v := .int .i64 ((m : Int) + 1)) 12 (kept_below wr) rfl (by kernel_rfl) (by kernel_rfl) (fun _ _ _ h => h) (fun _ h => h) (DoesV.reads (by rfl) fun w9 hS => by go_simp) ?_
      try simp only [List.getElem_toArray, List.getElem_cons_succ, List.getElem_cons_zero, Act.put, List.setIfInBounds_toArray, List.set_cons_succ, List.set_cons_zero]
      refine wpAnyV_take (i := 3) (v := .int .i64 (m : Int)) 12 (kept_below wr) rfl (by kernel_rfl) (by kernel_rfl) (fun _ _ _ h => h) (fun _ h => h) (DoesV.reads (by rfl) fun w9 hS => by go_simp) ?_
      try simp only [List.getElem_toArray, List.getElem_cons_succ, List.getElem_cons_zero, Act.put, List.setIfInBounds_toArray, List.set_cons_succ, List.set_cons_zero]
      refine wpAnyV_take (i := 4) (v := .pointer (some ⟨b, off + m * 2, none⟩)) 12 (kept_below wr) rfl (by kernel_rfl) (by kernel_rfl) (fun _ _ _ h => h) (fun _ h => h) (DoesV.reads (by rfl) fun w9 hS => by go_simp) ?_
      try simp only [List.getElem_toArray, List.getElem_cons_succ, List.getElem_cons_zero, Act.put, List.setIfInBounds_toArray, List.set_cons_succ, List.set_cons_zero]
      refine wpAnyV_take (i := 5) (v := .agg cs.toArray) 12 (kept_below wr) rfl (by kernel_rfl) (by kernel_rfl) (fun _ _ _ h => h) (fun _ h => h) (DoesV.loadT (by rfl) 84 _ rfl b (off + m * 2) rfl cs (fun w9 hS => At.tz HA1.out hS) _ Tryd.underlying84 rfl (by rw [HL1.out]; exact infoEnt)) ?_
      try simp only [List.getElem_toArray, List.getElem_cons_succ, List.getElem_cons_zero, Act.put, List.setIfInBounds_toArray, List.set_cons_succ, List.set_cons_zero]
      refine wpAnyV_take (i := 6) (v := sv x.1) 12 (kept_below wr) rfl (by kernel_rfl) (by kernel_rfl) (fun _ _ _ h => h) (fun _ h => h) (DoesV.calls 88 #[.agg cs.toArray] (by rfl) (fun w9 hS => by go_simp) (fun w9 hS => nameOf_v x cs F w9 (entE.turn HD1.out (Turn.of_below hS fun _ => False) fun _ _ h => h))) ?_
      try simp only [List.getElem_toArray, List.getElem_cons_succ, List.getElem_cons_zero, Act.put, List.setIfInBounds_toArray, List.set_cons_succ, List.set_cons_zero]
      refine wpAnyV_take (i := 7) (v := .func (.func 88) #[] #[]) 12 (kept_below wr) rfl (by kernel_rfl) (by kernel_rfl) (fun _ _ _ h => h) (fun _ h => h) (DoesV.reads (by rfl) fun w9 hS => by go_simp) ?_
      try simp only [List.getElem_toArray, List.getElem_cons_succ, List.getElem_cons_zero, Act.put, List.setIfInBounds_toArray, List.set_cons_succ, List.set_cons_zero]
      refine wpAnyV_take (i := 8) (v := .slice (some ⟨b, off, none⟩) l.length c) 12 (kept_below wr) rfl (by kernel_rfl) (by kernel_rfl) (fun _ _ _ h => h) (fun _ h => h) (DoesV.reads (by rfl) fun w9 hS => by go_simp) ?_
      try simp only [List.getElem_toArray, List.getElem_cons_succ, List.getElem_cons_zero, Act.put, List.setIfInBounds_toArray, List.set_cons_succ, List.set_cons_zero]
      refine wpAnyV_take (i := 9) (v := .int .i64 ((m : Int) + 1)) 12 (kept_below wr) rfl (by kernel_rfl) (by kernel_rfl) (fun _ _ _ h => h) (fun _ h => h) (DoesV.reads (by rfl) fun w9 hS => by go_simp) ?_
      try simp only [List.getElem_toArray, List.getElem_cons_succ, List.getElem_cons_zero, Act.put, List.setIfInBounds_toArray, List.set_cons_succ, List.set_cons_zero]
      refine wpAnyV_take (i := 10) (v := .pointer (some ⟨b, off + (m + 1) * 2, none⟩)) 12 (kept_below wr) rfl (by kernel_rfl) (by kernel_rfl) (fun _ _ _ h => h) (fun _ h => h) (DoesV.reads (by rfl) fun w9 hS => by go_simp) ?_
      try simp only [List.getElem_toArray, List.getElem_cons_succ, List.getElem_cons_zero, Act.put, List.setIfInBounds_toArray, List.set_cons_succ, List.set_cons_zero]
      refine wpAnyV_take (i := 11) (v := .agg ds.toArray) 12 (kept_below wr) rfl (by kernel_rfl) (by kernel_rfl) (fun _ _ _ h => h) (fun _ h => h) (DoesV.loadT (by rfl) 84 _ rfl b (off + (m + 1) * 2) rfl ds (fun w9 hS => At.tz HA2.out hS) _ Tryd.underlying84 rfl (by rw [HL2.out]; exact infoEnt)) ?_
      try simp only [List.getElem_toArray, List.getElem_cons_succ, List.getElem_cons_zero, Act.put, List.setIfInBounds_toArray, List.set_cons_succ, List.set_cons_zero]
      refine wpAnyV_take (i := 12) (v := sv y.1) 12 (kept_below wr) rfl (by kernel_rfl) (by kernel_rfl) (fun _ _ _ h => h) (fun _ h => h) (DoesV.calls 88 #[.agg ds.toArray] (by rfl) (fun w9 hS => by go_simp) (fun w9 hS => nameOf_v y ds F w9 (entE.turn HD2.out (Turn.of_below hS fun _ => False) fun _ _ h => h))) ?_
      try simp only [List.getElem_toArray, List.getElem_cons_succ, List.getElem_cons_zero, Act.put, List.setIfInBounds_toArray, List.set_cons_succ, List.set_cons_zero]
      refine wpAnyV_take (i := 13) (v := .bool false) 12 (kept_below wr) rfl (by kernel_rfl) (by kernel_rfl) (fun _ _ _ h => h) (fun _ h => h) (DoesV.reads (by rfl) fun w9 hS => by have q0 := geq_sv x.1 y.1 HLT.out w9; go_simp) ?_
      try simp only [List.getElem_toArray, List.getElem_cons_succ, List.getElem_cons_zero, Act.put, List.setIfInBounds_toArray, List.set_cons_succ, List.set_cons_zero]
      refine wpAnyV_done (by kernel_rfl) (fun w1 hw1 => ?_) _
      have B1 := Lib.hid (below_chain HB.out hw1)
      clear hw1
      go_wp2_with fail
      go_roundw
      case rel => exact ⟨m + 1 + 1, by go_num, by omega, .inl hlt, B1.out⟩
      case measure => simp [RowKit.intOf]; omega
    · clear hB
      go_wp2_with fail
      go_ret
      exact ⟨rfl, HB.out⟩

set_option maxHeartbeats 4000000 in
theorem noBad_i (l : List Ent) (A : Option Addr) (c : Nat) (F : Nat → Prop) (w : World) (hT : Tabs w) (hl : l.length ≤ 1000000) (hn : ∀ e ∈ l, nameL e.1 = true) (r : RdX entE w F A l) :
    Calls Tryd.prog 94 #[.slice A l.length c, .func (.func 90) #[] #[]] w fun e w' => e = .returned (.int .i64 (-1)) ∧ Below w.heap.size w w' := by
  have HR := Lib.hid r
  have HN := Lib.hid hn
  have HT := Lib.hid hT
  have iln : (l.length : Int) ≤ 1000000 := by omega
  clear r hn hT
  go_enter Tryd.func94, Tryd.ntmps94
  go_wp2
  go_loopw [8] (fun j wr => ∃ k : Nat, j = .int .i64 k ∧ k ≤ l.length ∧ Below w.heap.size w wr) (fun j _ => l.length - (RowKit.intOf j).toNat)
  case atStart => exact ⟨0, rfl, Nat.zero_le _, Below.refl _ _⟩
  case round =>
    obtain ⟨k, rfl, hk, hB⟩ := hrel
    have HB := Lib.hid hB
    by_cases hlt : k < l.length
    · obtain ⟨b, off, cs, rfl, hrd, hat⟩ := (HR.out.below hB).get k hlt
      have HAT := Lib.hid (show At wr b (off + k * 2) cs from hat)
      have HLN := Lib.hid (show cs.length = 2 from entE.len hrd)
      have HNK := Lib.hid (HN.out _ (List.getElem_mem hlt))
      have HCX := Lib.hid (isNoName_v _ cs F wr (HT.out.below hB) hrd)
      generalize l[k] = x at *
      rw [HNK.out] at HCX
      clear hrd hat hB
      go_wp2_with (first
        | ((with_reducible show wpList _ _ _ _ _ wr); refine wpList_load_agg rfl 84 _ rfl b (off + k * 2) rfl cs HAT.out _ Tryd.underlying84 rfl (by rw [HLN.out]; exact infoEnt) ?_; go_frame)
        | fail)
      refine HCX.out.mono ?_
      rintro e u1 ⟨rfl, hb⟩
      have B1 := Lib.hid (below_chain HB.out hb)
      clear hb
      go_wp2_with fail
      go_roundw
      case rel => exact ⟨k + 1, by go_num, hlt, B1.out⟩
      case measure => simp [RowKit.intOf]; omega
    · clear hB
      go_wp2_with fail
      go_ret
      exact ⟨rfl, HB.out⟩
theorem noBad_c (l : List Ent) (A : Option Addr) (c : Nat) (F : Nat → Prop) (w : World) (hT : Tabs w) (hl : l.length ≤ 1000000) (hn : ∀ e ∈ l, nameL e.1 = true) (r : RdX entE w F A l) :
    Calls Tryd.prog 89 #[.slice A l.length c, .func (.func 90) #[] #[]] w fun e w' => e = .returned (.bool false) ∧ Below w.heap.size w w' := by
  have HI := Lib.hid (noBad_i l A c F w hT hl hn r)
  clear r hn hT
  go_enter Tryd.func89, Tryd.ntmps89
  go_wp2_with fail
  refine HI.out.mono ?_
  rintro e w1 ⟨rfl, hb⟩
  have B1 := Lib.hid hb
  clear hb
  go_wp2_with fail
  go_ret
  exact ⟨rfl, B1.out⟩
/-- a node may be, by itself -/
structure HoldN (n : Nd) : Prop where
  file : n.dir = false → n.names = [] ∧ n.data.length ≤ 4096
  dir : n.dir = true → n.data = [] ∧ n.names.length ≤ 32 ∧ SortE n.names ∧ ∀ e ∈ n.names, nameL e.1 = true
theorem hold_of {l : List Nd} {a b : Nat} {n : Nd} (h : NdOk l a b n) : HoldN n := ⟨fun e => ⟨h.file e, h.size⟩, fun e => ⟨h.isDir e, h.many, h.sort, fun x hx => (h.good x hx).1⟩⟩
set_option maxHeartbeats 4000000 in
theorem mayHold_v (n : Nd) (cs : List Value) (F : Nat → Prop) (w : World) (hT : Tabs w) (h : NdAt w F cs n) (hh : HoldN n) :
    Calls Tryd.prog 82 #[.agg cs.toArray] w fun e w' => e = .returned (.bool true) ∧ Below w.heap.size w w' := by
  obtain ⟨dv, nv, rfl, ⟨Ad, cd, rfl, -⟩, ⟨A, c, rfl, hr, -⟩, -⟩ := h
  have HR := Lib.hid hr
  have HT := Lib.hid hT
  have HD := Lib.hid hh.dir
  have HF := Lib.hid hh.file
  obtain ⟨ino, gen, dir, chg, data, names⟩ := n
  dsimp only at *
  cases dir
  · obtain ⟨e1, e2⟩ := HF.out rfl
    subst e1
    have iln : (data.length : Int) ≤ 4096 := by omega
    clear hr hh hT HD HF
    go_enter Tryd.func82, Tryd.ntmps82
    go_wp2_with (first
      | ((with_reducible show wpList _ _ _ _ _ w); refine wpList_boxS rfl 34 _ rfl (ndC ⟨ino, gen, false, chg, data, []⟩ (.slice Ad data.length cd) (.slice A 0 c)) rfl ?_; intro g1 w1 hk1 hb1 hg1; go_frame; have q2 : w1.cell? ⟨g1, 2, none⟩ = some (.bool false) := hk1.cell 2 rfl; have q4 : w1.cell? ⟨g1, 4, none⟩ = some (.slice Ad data.length cd) := hk1.cell 4 rfl; have q5 : w1.cell? ⟨g1, 5, none⟩ = some (.slice A 0 c) := hk1.cell 5 rfl; have B1 := Lib.hid hb1; clear hk1 hb1 hg1)
      | fail)
    go_ret
    exact ⟨rfl, B1.out⟩
  · obtain ⟨e1, e2, e3, e4⟩ := HD.out rfl
    subst e1
    have HS := Lib.hid e3
    have HN := Lib.hid e4
    have iln : (names.length : Int) ≤ 32 := by omega
    clear hr hh hT HD HF e3 e4
    go_enter Tryd.func82, Tryd.ntmps82
    go_wp2_with (first
      | ((with_reducible show wpList _ _ _ _ _ w); refine wpList_boxS rfl 34 _ rfl (ndC ⟨ino, gen, true, chg, [], names⟩ (.slice Ad 0 cd) (.slice A names.length c)) rfl ?_; intro g1 w1 hk1 hb1 hg1; go_frame; have q2 : w1.cell? ⟨g1, 2, none⟩ = some (.bool true) := hk1.cell 2 rfl; have q4 : w1.cell? ⟨g1, 4, none⟩ = some (.slice Ad 0 cd) := hk1.cell 4 rfl; have q5 : w1.cell? ⟨g1, 5, none⟩ = some (.slice A names.length c) := hk1.cell 5 rfl; have C1 := Lib.hid hk1; have B1 := Lib.hid hb1; clear hk1 hb1 hg1)
      | fail)
    refine (rise_en names A c F w1 (by omega) HS.out (HR.out.below B1.out)).mono ?_
    rintro e w2 ⟨rfl, hb⟩
    have B2 := Lib.hid (below_chain B1.out hb)
    have q5 : w2.cell? ⟨g1, 5, none⟩ = some (.slice A names.length c) := (C1.out.below hb C1.out.lt).cell 5 rfl
    clear hb q2 q4
    go_wp2_with fail
    refine (noBad_c names A c F w2 (HT.out.below B2.out) (by omega) HN.out (HR.out.below B2.out)).mono ?_
    rintro e w3 ⟨rfl, hb⟩
    have B3 := Lib.hid (below_chain B2.out hb)
    clear hb
    go_wp2_with fail
    go_ret
    exact ⟨rfl, B3.out⟩

end Go.Proofs.YtenpmbfncnepgaaDoor

/- The program: May, of a tree that may be: it is true. -/
namespace Go.Proofs.YtenpmbfncnepgaaDoor
open Go.RowKit Go.Shelf Go.Maps
set_option linter.unusedVariables false
set_option maxRecDepth 100000
set_option linter.unusedSimpArgs false

theorem wpList_setLenG {w : World} {ops : Array Oper} {rest : List Oper} {o : Oper} {a : Act} {Q : Exit → Act → World → Prop} (hw : Region.wanted o (yielded ops a.tmps) = true) (m : Operand) (ho : o.op = .call { callee := .builtin .len, args := #[m], argTypes := #[110] }) (b : Nat) (D : List Nat) (hm : a.eval m = .map (some b)) (hs : SetIs w b D)
    (h : wpList Tryd.prog ops Q rest (a.put o.dst (.int .i64 (D.length : Int))) w) : wpList Tryd.prog ops Q (o :: rest) a w := by
  obtain ⟨M, h1, h2, h3⟩ := hs
  refine BigFrame.wpList_want hw fun K hK => ?_
  have hr := h1.len (ty := o.type) Tryd.underlying110
  unfold Oper.wp execOp
  simp only [ho, resolve, invoke, builtin, Sem.run_bind, Sem.run_pure, Result.andThen_ok, List.map_toArray, List.map_cons, List.map_nil, hm, hr]
  rw [h3]
  exact hK _ _ h
def gensT (t : Tr) (k : Nat) : List Nat := (t.nodes.take k).map (·.gen)
theorem gens_snoc {t : Tr} {k : Nat} (h : k < t.nodes.length) : gensT t (k + 1) = gensT t k ++ [t.nodes[k].gen] := by
  unfold gensT
  rw [take_snoc h, List.map_append]
  rfl
theorem gens_new {t : Tr} (hm : MayT t) {k : Nat} (h : k < t.nodes.length) : t.nodes[k].gen ∉ gensT t k := fun hh => by
  obtain ⟨n, hn, e⟩ := List.mem_map.1 hh
  obtain ⟨j, hj, rfl⟩ := List.getElem_of_mem hn
  rw [List.length_take] at hj
  rw [List.getElem_take] at e
  exact List.pairwise_iff_getElem.1 hm.gens j k (by omega) h (by omega) e
set_option maxHeartbeats 16000000 in
theorem mayNodes_v (t : Tr) (cs : List Value) (F : Nat → Prop) (w : World) (hT : Tabs w) (h : TrAt w F cs t) (hm : MayT t) :
    Calls Tryd.prog 65 #[.agg cs.toArray] w fun e w' => e = .returned (.bool true) ∧ Below w.heap.size w w' := by
  have hlen := h.len
  obtain ⟨nv, ss, rfl, ⟨A, c, rfl, hr, -⟩, hse, hl4, hl12, hbig⟩ := h
  have hmix : Tryd.prog.follows .mixedOrders = true := by kernel_rfl
  have HR := Lib.hid hr
  have HT := Lib.hid hT
  have HM := Lib.hid hm
  have HBG := Lib.hid hbig
  obtain ⟨cl, hcl⟩ : ∃ cl, cl = Value.slice A t.nodes.length c :: .int .u32 (t.lastGen : Int) :: .int .u32 (t.boot : Int) :: .int .u32 (t.count : Int) :: ss := ⟨_, rfl⟩
  rw [← hcl] at hlen ⊢
  have HLN := Lib.hid hlen
  have C0 := Lib.hid (show cl[0]? = some (.slice A t.nodes.length c) by rw [hcl]; rfl)
  have C1 := Lib.hid (show cl[1]? = some (.int .u32 (t.lastGen : Int)) by rw [hcl]; rfl)
  have C2 := Lib.hid (show cl[2]? = some (.int .u32 (t.boot : Int)) by rw [hcl]; rfl)
  have C3 := Lib.hid (show cl[3]? = some (.int .u32 (t.count : Int)) by rw [hcl]; rfl)
  have iln : (t.nodes.length : Int) ≤ 64 := by have := hm.many; omega
  clear hr hT hm hse hl4 hl12 hbig hcl hlen
  go_enter Tryd.func65, Tryd.ntmps65
  go_wp2_with (first
    | ((with_reducible show wpList _ _ _ _ _ w); refine wpList_boxS rfl 31 _ rfl cl rfl ?_; intro g1 w1 hk1 hb1 hg1; go_frame; have D1 := Lib.hid hk1; have B1 := Lib.hid hb1; have G1 := Lib.hid hg1; have hmm := run_makeMap (P := Tryd.prog) 110 w1; clear hk1 hb1 hg1; (obtain ⟨mb, hmb⟩ : ∃ mb, mb = w1.heap.size := ⟨_, rfl⟩); (obtain ⟨w2, hw2⟩ : ∃ w2, w2 = w1.alloc (.map #[] 0) := ⟨_, rfl⟩); have S2 := Lib.hid (show SetIs w2 mb [] by rw [hw2, hmb]; exact SetIs.new w1); have hb2 : Below w1.heap.size w1 w2 := (by rw [hw2]; exact (Below.refl _ _).alloc (Nat.le_refl _) _); have D2 := Lib.hid (D1.out.below hb2 D1.out.lt); have B2 := Lib.hid (below_chain B1.out hb2); have HMB := Lib.hid (show w.heap.size ≤ mb by rw [hmb]; exact B1.out.size); have N1 := Lib.hid (show g1 ≠ mb by have := D1.out.lt; omega); have q0 : w2.cell? ⟨g1, 0, none⟩ = some (.slice A t.nodes.length c) := (D1.out.below hb2 D1.out.lt).cell 0 (by simpa using C0.out); rw [← hmb, ← hw2] at hmm; clear hmb hw2 hb2)
    | fail)
  clear hmm q0
  go_loopw [10] (fun j wr => ∃ k : Nat, j = .int .i64 k ∧ k ≤ t.nodes.length ∧ SetIs wr mb (gensT t k) ∧ Cs wr g1 31 cl.toArray ∧ Below w.heap.size w wr) (fun j _ => t.nodes.length - (RowKit.intOf j).toNat)
  case atStart => exact ⟨0, rfl, Nat.zero_le _, S2.out, D2.out, B2.out⟩
  case round =>
    obtain ⟨k, rfl, hk, hs, hc, hB⟩ := hrel
    have HS := Lib.hid hs
    have HC := Lib.hid hc
    have HB := Lib.hid hB
    by_cases hlt : k < t.nodes.length
    · obtain ⟨b, off, xs, rfl, hnd, hat⟩ := (HR.out.below hB).get k hlt
      have HAT := Lib.hid (show At wr b (off + k * 6) xs from hat)
      have HND := Lib.hid hnd
      have HXL := Lib.hid (show xs.length = 6 from hnd.len)
      have HOK := Lib.hid (HM.out.ok _ (List.getElem_mem hlt))
      have HGS := Lib.hid (gens_snoc hlt)
      have HGN := Lib.hid (gens_new HM.out hlt)
      have HGL := Lib.hid (show (gensT t k).length ≤ 1000000 by unfold gensT; rw [List.length_map, List.length_take]; have := HM.out.many; omega)
      have hgen32 : t.nodes[k].gen < 4294967296 := by obtain ⟨dv, ev, -, -, -, -, h, -⟩ := hnd; exact h
      have HG32 := Lib.hid hgen32
      have X1 := Lib.hid (show xs[1]? = some (.int .u32 (t.nodes[k].gen : Int)) by obtain ⟨dv, ev, e, -⟩ := hnd; rw [e]; rfl)
      have X3 := Lib.hid (show xs[3]? = some (.int .u64 (t.nodes[k].chg : Int)) by obtain ⟨dv, ev, e, -⟩ := hnd; rw [e]; rfl)
      generalize t.nodes[k] = n at *
      have j1 : ((n.gen : Int) == 0) = false := by have := HOK.out.gen1; simp; omega
      have j2 : ¬ (t.lastGen : Int) < n.gen := by have := HOK.out.gen2; omega
      have j2' : ¬ t.lastGen < n.gen := by omega
      have j3 : ¬ ((t.boot * 4294967296 + t.count : Nat) : Int) < n.chg := by have := HOK.out.chg; unfold topT at this; omega
      have j3' : ¬ (t.boot * 4294967296 + t.count) < n.chg := by omega
      obtain ⟨top, htop⟩ : ∃ top, top = t.boot * 4294967296 + t.count := ⟨_, rfl⟩
      rw [← htop] at j3 j3'
      have HTOP := Lib.hid htop
      clear hs hc hB hat hnd hgen32 htop
      go_wp2_with (first
        | ((with_reducible show wpList _ _ _ _ _ wr); refine wpList_load_agg rfl 34 _ rfl b (off + k * 6) rfl xs HAT.out _ Tryd.underlying34 rfl (by rw [HXL.out]; exact infoNode) ?_; go_frame)
        | ((with_reducible show wpList _ _ _ _ _ wr); refine wpList_allocS rfl 34 rfl nodeZ nodeZero ?_; intro g5 w5 hk1 hb1 hg1; go_frame; have C5 := Lib.hid hk1; have B5 := Lib.hid hb1; have G5 := Lib.hid hg1; clear hk1 hb1 hg1)
        | ((with_reducible show wpList _ _ _ _ _ w5); refine wpList_storeS rfl 34 _ _ rfl g5 rfl xs nodeZ rfl C5.out (by rw [HXL.out]; rfl) HND.out.one (by rw [HXL.out]; exact infoNode) ?_; intro w6 hk2 ht2; go_frame; have C6 := Lib.hid hk2; have B6 := Lib.hid (show Below wr.heap.size wr w6 from below_turn B5.out ht2 B5.out.size G5.out); clear hk2 ht2)
        | fail)
      have D6 := Lib.hid (HC.out.below B6.out HC.out.lt)
      refine wp_region_V [] (Below w6.heap.size w6) hmix ((Below.refl _ _).drew) ?_
      change wpAnyV _ _ _ _ _ _ _ _ _
      refine wpAnyV_take (i := 0) (v := .pointer (some ⟨g5, 1, none⟩)) 12 (kept_below w6) rfl (by kernel_rfl) (by kernel_rfl) (fun _ _ _ h => h) (fun _ h => h) (DoesV.reads (by rfl) fun w9 hS => by go_simp) ?_
      try simp only [List.getElem_toArray, List.getElem_cons_succ, List.getElem_cons_zero, Act.put, List.setIfInBounds_toArray, List.set_cons_succ, List.set_cons_zero]
      refine wpAnyV_take (i := 1) (v := .int .u32 (n.gen : Int)) 12 (kept_below w6) rfl (by kernel_rfl) (by kernel_rfl) (fun _ _ _ h => h) (fun _ h => h) (DoesV.reads (by rfl) fun w9 hS => by have q0 : w9.cell? ⟨g5, 1, none⟩ = some (.int .u32 (n.gen : Int)) := (C6.out.below hS C6.out.lt).cell 1 (by simpa using X1.out); go_simp) ?_
      try simp only [List.getElem_toArray, List.getElem_cons_succ, List.getElem_cons_zero, Act.put, List.setIfInBounds_toArray, List.set_cons_succ, List.set_cons_zero]
      refine wpAnyV_take (i := 2) (v := .bool false) 12 (kept_below w6) rfl (by kernel_rfl) (by kernel_rfl) (fun _ _ _ h => h) (fun _ h => h) (DoesV.reads (by rfl) fun w9 hS => by go_simp) ?_
      try simp only [List.getElem_toArray, List.getElem_cons_succ, List.getElem_cons_zero, Act.put, List.setIfInBounds_toArray, List.set_cons_succ, List.set_cons_zero]
      refine wpAnyV_take (i := 3) (v := .bool false) 12 (kept_below w6) rfl (by kernel_rfl) (by kernel_rfl) (fun _ _ _ h => h) (fun _ h => h) (DoesV.reads (by rfl) fun w9 hS => by go_simp) ?_
      try simp only [List.getElem_toArray, List.getElem_cons_succ, List.getElem_cons_zero, Act.put, List.setIfInBounds_toArray, List.set_cons_succ, List.set_cons_zero]
      refine wpAnyV_take (i := 4) (v := .pointer (some ⟨g5, 1, none⟩)) 12 (kept_below w6) rfl (by kernel_rfl) (by kernel_rfl) (fun _ _ _ h => h) (fun _ h => h) (DoesV.reads (by rfl) fun w9 hS => by go_simp) ?_
      try simp only [List.getElem_toArray, List.getElem_cons_succ, List.getElem_cons_zero, Act.put, List.setIfInBounds_toArray, List.set_cons_succ, List.set_cons_zero]
      refine wpAnyV_take (i := 5) (v := .int .u32 (n.gen : Int)) 12 (kept_below w6) rfl (by kernel_rfl) (by kernel_rfl) (fun _ _ _ h => h) (fun _ h => h) (DoesV.reads (by rfl) fun w9 hS => by have q0 : w9.cell? ⟨g5, 1, none⟩ = some (.int .u32 (n.gen : Int)) := (C6.out.below hS C6.out.lt).cell 1 (by simpa using X1.out); go_simp) ?_
      try simp only [List.getElem_toArray, List.getElem_cons_succ, List.getElem_cons_zero, Act.put, List.setIfInBounds_toArray, List.set_cons_succ, List.set_cons_zero]
      refine wpAnyV_take (i := 6) (v := .pointer (some ⟨g1, 1, none⟩)) 12 (kept_below w6) rfl (by kernel_rfl) (by kernel_rfl) (fun _ _ _ h => h) (fun _ h => h) (DoesV.reads (by rfl) fun w9 hS => by go_simp) ?_
      try simp only [List.getElem_toArray, List.getElem_cons_succ, List.getElem_cons_zero, Act.put, List.setIfInBounds_toArray, List.set_cons_succ, List.set_cons_zero]
      refine wpAnyV_take (i := 7) (v := .int .u32 (t.lastGen : Int)) 12 (kept_below w6) rfl (by kernel_rfl) (by kernel_rfl) (fun _ _ _ h => h) (fun _ h => h) (DoesV.reads (by rfl) fun w9 hS => by have q0 : w9.cell? ⟨g1, 1, none⟩ = some (.int .u32 (t.lastGen : Int)) := (D6.out.below hS D6.out.lt).cell 1 (by simpa using C1.out); go_simp) ?_
      try simp only [List.getElem_toArray, List.getElem_cons_succ, List.getElem_cons_zero, Act.put, List.setIfInBounds_toArray, List.set_cons_succ, List.set_cons_zero]
      refine wpAnyV_take (i := 8) (v := .bool false) 12 (kept_below w6) rfl (by kernel_rfl) (by kernel_rfl) (fun _ _ _ h => h) (fun _ h => h) (DoesV.reads (by rfl) fun w9 hS => by go_simp) ?_
      try simp only [List.getElem_toArray, List.getElem_cons_succ, List.getElem_cons_zero, Act.put, List.setIfInBounds_toArray, List.set_cons_succ, List.set_cons_zero]
      refine wpAnyV_take (i := 9) (v := .bool false) 12 (kept_below w6) rfl (by kernel_rfl) (by kernel_rfl) (fun _ _ _ h => h) (fun _ h => h) (DoesV.reads (by rfl) fun w9 hS => by go_simp) ?_
      try simp only [List.getElem_toArray, List.getElem_cons_succ, List.getElem_cons_zero, Act.put, List.setIfInBounds_toArray, List.set_cons_succ, List.set_cons_zero]
      refine wpAnyV_take (i := 10) (v := .bool false) 12 (kept_below w6) rfl (by kernel_rfl) (by kernel_rfl) (fun _ _ _ h => h) (fun _ h => h) (DoesV.reads (by rfl) fun w9 hS => by go_simp) ?_
      try simp only [List.getElem_toArray, List.getElem_cons_succ, List.getElem_cons_zero, Act.put, List.setIfInBounds_toArray, List.set_cons_succ, List.set_cons_zero]
      refine wpAnyV_take (i := 11) (v := .pointer (some ⟨g5, 3, none⟩)) 12 (kept_below w6) rfl (by kernel_rfl) (by kernel_rfl) (fun _ _ _ h => h) (fun _ h => h) (DoesV.reads (by rfl) fun w9 hS => by go_simp) ?_
      try simp only [List.getElem_toArray, List.getElem_cons_succ, List.getElem_cons_zero, Act.put, List.setIfInBounds_toArray, List.set_cons_succ, List.set_cons_zero]
      refine wpAnyV_take (i := 12) (v := .int .u64 (n.chg : Int)) 12 (kept_below w6) rfl (by kernel_rfl) (by kernel_rfl) (fun _ _ _ h => h) (fun _ h => h) (DoesV.reads (by rfl) fun w9 hS => by have q0 : w9.cell? ⟨g5, 3, none⟩ = some (.int .u64 (n.chg : Int)) := (C6.out.below hS C6.out.lt).cell 3 (by simpa using X3.out); go_simp) ?_
      try simp only [List.getElem_toArray, List.getElem_cons_succ, List.getElem_cons_zero, Act.put, List.setIfInBounds_toArray, List.set_cons_succ, List.set_cons_zero]
      refine wpAnyV_take (i := 13) (v := .agg cl.toArray) 12 (kept_below w6) rfl (by kernel_rfl) (by kernel_rfl) (fun _ _ _ h => h) (fun _ h => h) (DoesV.loadT (by rfl) 31 _ rfl g1 0 rfl cl (fun w9 hS => At.whole (D6.out.below hS D6.out.lt)) _ Tryd.underlying31 rfl (by rw [HLN.out]; exact infoTree)) ?_
      try simp only [List.getElem_toArray, List.getElem_cons_succ, List.getElem_cons_zero, Act.put, List.setIfInBounds_toArray, List.set_cons_succ, List.set_cons_zero]
      refine wpAnyV_take (i := 14) (v := .int .u64 (top : Int)) 12 (kept_below w6) rfl (by kernel_rfl) (by kernel_rfl) (fun _ _ _ h => h) (fun _ h => h) (DoesV.calls 51 #[.agg cl.toArray] (by rfl) (fun w9 hS => by go_simp) (fun w9 hS => by have h := lastChange_v cl t.boot t.count w9 HBG.out.2.1 HBG.out.2.2 C2.out C3.out; rw [← HTOP.out] at h; exact h)) ?_
      try simp only [List.getElem_toArray, List.getElem_cons_succ, List.getElem_cons_zero, Act.put, List.setIfInBounds_toArray, List.set_cons_succ, List.set_cons_zero]
      refine wpAnyV_take (i := 15) (v := .bool false) 12 (kept_below w6) rfl (by kernel_rfl) (by kernel_rfl) (fun _ _ _ h => h) (fun _ h => h) (DoesV.reads (by rfl) fun w9 hS => by go_simp) ?_
      try simp only [List.getElem_toArray, List.getElem_cons_succ, List.getElem_cons_zero, Act.put, List.setIfInBounds_toArray, List.set_cons_succ, List.set_cons_zero]
      refine wpAnyV_take (i := 16) (v := .bool false) 12 (kept_below w6) rfl (by kernel_rfl) (by kernel_rfl) (fun _ _ _ h => h) (fun _ h => h) (DoesV.reads (by rfl) fun w9 hS => by go_simp) ?_
      try simp only [List.getElem_toArray, List.getElem_cons_succ, List.getElem_cons_zero, Act.put, List.setIfInBounds_toArray, List.set_cons_succ, List.set_cons_zero]
      refine wpAnyV_take (i := 17) (v := .bool false) 12 (kept_below w6) rfl (by kernel_rfl) (by kernel_rfl) (fun _ _ _ h => h) (fun _ h => h) (DoesV.reads (by rfl) fun w9 hS => by go_simp) ?_
      try simp only [List.getElem_toArray, List.getElem_cons_succ, List.getElem_cons_zero, Act.put, List.setIfInBounds_toArray, List.set_cons_succ, List.set_cons_zero]
      refine wpAnyV_take (i := 18) (v := .agg xs.toArray) 12 (kept_below w6) rfl (by kernel_rfl) (by kernel_rfl) (fun _ _ _ h => h) (fun _ h => h) (DoesV.loadT (by rfl) 34 _ rfl g5 0 rfl xs (fun w9 hS => At.whole (C6.out.below hS C6.out.lt)) _ Tryd.underlying34 rfl (by rw [HXL.out]; exact infoNode)) ?_
      try simp only [List.getElem_toArray, List.getElem_cons_succ, List.getElem_cons_zero, Act.put, List.setIfInBounds_toArray, List.set_cons_succ, List.set_cons_zero]
      refine wpAnyV_take (i := 19) (v := .bool true) 12 (kept_below w6) rfl (by kernel_rfl) (by kernel_rfl) (fun _ _ _ h => h) (fun _ h => h) (DoesV.calls 82 #[.agg xs.toArray] (by rfl) (fun w9 hS => by go_simp) (fun w9 hS => mayHold_v n xs F w9 (HT.out.below (below_chain HB.out (below_chain B6.out hS))) ((HND.out.below B6.out).below hS) (hold_of HOK.out))) ?_
      try simp only [List.getElem_toArray, List.getElem_cons_succ, List.getElem_cons_zero, Act.put, List.setIfInBounds_toArray, List.set_cons_succ, List.set_cons_zero]
      refine wpAnyV_take (i := 20) (v := .bool false) 12 (kept_below w6) rfl (by kernel_rfl) (by kernel_rfl) (fun _ _ _ h => h) (fun _ h => h) (DoesV.reads (by rfl) fun w9 hS => by go_simp) ?_
      try simp only [List.getElem_toArray, List.getElem_cons_succ, List.getElem_cons_zero, Act.put, List.setIfInBounds_toArray, List.set_cons_succ, List.set_cons_zero]
      refine wpAnyV_take (i := 21) (v := .bool false) 12 (kept_below w6) rfl (by kernel_rfl) (by kernel_rfl) (fun _ _ _ h => h) (fun _ h => h) (DoesV.reads (by rfl) fun w9 hS => by go_simp) ?_
      try simp only [List.getElem_toArray, List.getElem_cons_succ, List.getElem_cons_zero, Act.put, List.setIfInBounds_toArray, List.set_cons_succ, List.set_cons_zero]
      refine wpAnyV_done (by kernel_rfl) (fun w7 hw7 => ?_) _
      have S7 := Lib.hid ((HS.out.below B6.out).below hw7)
      have D7 := Lib.hid (D6.out.below hw7 D6.out.lt)
      have B7 := Lib.hid (below_chain HB.out (below_chain B6.out hw7))
      have q1 : w7.cell? ⟨g5, 1, none⟩ = some (.int .u32 (n.gen : Int)) := (C6.out.below hw7 C6.out.lt).cell 1 (by simpa using X1.out)
      clear hw7 j1 j2 j2' j3 j3'
      go_wp2_with (first
        | ((with_reducible show wpList _ _ _ _ _ w7); refine wpList_setPut rfl _ _ _ rfl mb (gensT t k) rfl S7.out HGL.out n.gen HG32.out rfl rfl HGN.out ?_; intro w8 hs8 ht8; go_frame; have S8 := Lib.hid hs8; have T8 := Lib.hid ht8; clear hs8 ht8)
        | fail)
      go_roundw
      case rel => exact ⟨k + 1, by go_num, hlt, by rw [HGS.out]; exact S8.out, D7.out.turn T8.out N1.out, B7.out.trans (T8.out.below B7.out.size fun q e => by rw [e]; exact HMB.out)⟩
      case measure => simp [RowKit.intOf]; omega
    · obtain rfl : k = t.nodes.length := by omega
      have HGE := Lib.hid (show (gensT t t.nodes.length).length = t.nodes.length by unfold gensT; rw [List.length_map, List.take_length])
      have q0 : wr.cell? ⟨g1, 0, none⟩ = some (.slice A t.nodes.length c) := HC.out.cell 0 (by simpa using C0.out)
      clear hs hc hB
      go_wp2_with (first
        | ((with_reducible show wpList _ _ _ _ _ wr); refine wpList_setLen rfl _ rfl mb (gensT t t.nodes.length) rfl HS.out ?_; go_frame; rw [HGE.out])
        | fail)
      go_ret
      exact ⟨by first | rfl | simp, HB.out⟩
set_option maxHeartbeats 4000000 in
theorem isOnePiece_v (t : Tr) (A : Option Addr) (c : Nat) (F : Nat → Prop) (w : World) (hm : MayT t) (r : RdX nodeE w F A t.nodes) :
    Calls Tryd.prog 66 #[.slice A t.nodes.length c] w fun e w' => e = .returned (.bool true) ∧ Below w.heap.size w w' := by
  have hroot : 1 ∈ inosL t.nodes := by
    obtain ⟨x, h1, h2, -⟩ := hm.root
    exact mem_inos.2 ⟨x, h1, h2⟩
  have HU := Lib.hid (under_v t 1 A c F w hm hroot r)
  have HM := Lib.hid hm
  have iln : (t.nodes.length : Int) ≤ 64 := by have := hm.many; omega
  clear hm hroot r
  go_enter Tryd.func66, Tryd.ntmps66
  go_wp2_with fail
  refine HU.out.mono ?_
  rintro e w1 ⟨⟨mb, D, rfl, hs, hI⟩, hb⟩
  have S1 := Lib.hid hs
  have HD := Lib.hid (hI.all HM.out)
  have B1 := Lib.hid hb
  clear hs hI hb
  go_wp2_with (first
    | ((with_reducible show wpList _ _ _ _ _ w1); refine wpList_setLenG (by rfl) _ rfl mb D rfl S1.out ?_; go_frame; rw [HD.out])
    | fail)
  go_ret
  exact ⟨by first | rfl | simp, B1.out⟩
theorem root_first {t : Tr} (hm : MayT t) : ∃ h : 0 < t.nodes.length, t.nodes[0].ino = 1 ∧ t.nodes[0].gen = 1 ∧ t.nodes[0].dir = true := by
  obtain ⟨r, h1, h2, h3, h4⟩ := hm.root
  have h0 : 0 < t.nodes.length := List.length_pos_of_mem h1
  refine ⟨h0, ?_⟩
  have e : t.nodes[0] = r := by
    obtain ⟨j, hj, e⟩ := List.getElem_of_mem h1
    by_cases hj0 : j = 0
    · subst hj0; exact e
    · have := List.pairwise_iff_getElem.1 hm.rise 0 j h0 hj (by omega)
      have h5 := (hm.ok _ (List.getElem_mem h0)).pos
      rw [e, h2] at this
      omega
  rw [e]
  exact ⟨h2, h3, h4⟩
set_option maxHeartbeats 8000000 in
theorem May_v (t : Tr) (cs : List Value) (F : Nat → Prop) (w : World) (hT : Tabs w) (h : TrAt w F cs t) (hm : MayT t) :
    Calls Tryd.prog 38 #[.agg cs.toArray] w fun e w' => e = .returned (.bool true) ∧ Below w.heap.size w w' := by
  have HTR := Lib.hid h
  have hlen := h.len
  obtain ⟨nv, ss, rfl, ⟨A, c, rfl, hr, -⟩, hse, hl4, hl12, hbig⟩ := h
  have HR := Lib.hid hr
  have HT := Lib.hid hT
  have HM := Lib.hid hm
  obtain ⟨h0, e1, e2, e3⟩ := root_first hm
  obtain ⟨b, off, xs, rfl, hnd, hat⟩ := hr.get 0 h0
  have X := Lib.hid (show xs[0]? = some (.int .u32 1) ∧ xs[1]? = some (.int .u32 1) ∧ xs[2]? = some (.bool true) by
    obtain ⟨dv, ev, e, -⟩ := hnd
    rw [e]
    exact ⟨by show some (Value.int .u32 ((t.nodes[0].ino : Nat) : Int)) = _; rw [e1]; rfl, by show some (Value.int .u32 ((t.nodes[0].gen : Nat) : Int)) = _; rw [e2]; rfl, by show some (Value.bool t.nodes[0].dir) = _; rw [e3]⟩)
  have HXL := Lib.hid (show xs.length = 6 from hnd.len)
  have HAT := Lib.hid (show At w b off xs by have := hat; rwa [Nat.zero_mul, Nat.add_zero] at this)
  have HXO := Lib.hid hnd.one
  obtain ⟨cl, hcl⟩ : ∃ cl, cl = Value.slice (some ⟨b, off, none⟩) t.nodes.length c :: .int .u32 (t.lastGen : Int) :: .int .u32 (t.boot : Int) :: .int .u32 (t.count : Int) :: ss := ⟨_, rfl⟩
  rw [← hcl] at hlen HTR ⊢
  have HLN := Lib.hid hlen
  have C0 := Lib.hid (show cl[0]? = some (.slice (some ⟨b, off, none⟩) t.nodes.length c) by rw [hcl]; rfl)
  have C2 := Lib.hid (show cl[2]? = some (.int .u32 (t.boot : Int)) by rw [hcl]; rfl)
  have iln : (t.nodes.length : Int) ≤ 64 := by have := hm.many; omega
  have k1 : ((t.boot : Int) == 0) = false := by have := hm.boot1; simp; omega
  have k2 : ¬ (2147483648 : Int) < t.boot := by have := hm.boot2; omega
  have k3 : ((t.nodes.length : Int) == 0) = false := by simp; intro e; rw [e] at h0; simp at h0
  have k4 : ¬ (64 : Int) < t.nodes.length := by omega
  have k5 : 0 < t.nodes.length := h0
  clear hr hT hm hse hl4 hl12 hbig hcl hlen hnd hat e1 e2 e3 h0
  go_enter Tryd.func38, Tryd.ntmps38
  go_wp2_with (first
    | ((with_reducible show wpList _ _ _ _ _ w); refine wpList_boxS rfl 31 _ rfl cl rfl ?_; intro g1 w1 hk1 hb1 hg1; go_frame; have D1 := Lib.hid hk1; have B1 := Lib.hid hb1; have q0 : w1.cell? ⟨g1, 0, none⟩ = some (.slice (some ⟨b, off, none⟩) t.nodes.length c) := hk1.cell 0 (by simpa using C0.out); have q2 : w1.cell? ⟨g1, 2, none⟩ = some (.int .u32 (t.boot : Int)) := hk1.cell 2 (by simpa using C2.out); have A1 := Lib.hid (At.tz HAT.out hb1); clear hk1 hb1 hg1)
    | ((with_reducible show wpList _ _ _ _ _ w1); refine wpList_load_agg rfl 34 _ rfl b off rfl xs A1.out _ Tryd.underlying34 rfl (by rw [HXL.out]; exact infoNode) ?_; go_frame)
    | ((with_reducible show wpList _ _ _ _ _ w1); refine wpList_allocS rfl 34 rfl nodeZ nodeZero ?_; intro g3 w3 hk1 hb1 hg1; go_frame; have C5 := Lib.hid hk1; have B5 := Lib.hid hb1; have G5 := Lib.hid hg1; clear hk1 hb1 hg1 q2)
    | ((with_reducible show wpList _ _ _ _ _ w3); refine wpList_storeS rfl 34 _ _ rfl g3 rfl xs nodeZ rfl C5.out (by rw [HXL.out]; rfl) HXO.out (by rw [HXL.out]; exact infoNode) ?_; intro w4 hk2 ht2; go_frame; have hb4 : Below w1.heap.size w1 w4 := below_turn B5.out ht2 B5.out.size G5.out; have B4 := Lib.hid (below_chain B1.out hb4); have D4 := Lib.hid (D1.out.below hb4 D1.out.lt); have p0 : w4.cell? ⟨g3, 0, none⟩ = some (.int .u32 1) := hk2.cell 0 (by simpa using X.out.1); have p1 : w4.cell? ⟨g3, 1, none⟩ = some (.int .u32 1) := hk2.cell 1 (by simpa using X.out.2.1); have p2 : w4.cell? ⟨g3, 2, none⟩ = some (.bool true) := hk2.cell 2 (by simpa using X.out.2.2); have q0 : w4.cell? ⟨g1, 0, none⟩ = some (.slice (some ⟨b, off, none⟩) t.nodes.length c) := (D1.out.below hb4 D1.out.lt).cell 0 (by simpa using C0.out); clear hk2 ht2 hb4)
    | fail)
  refine (rise_nd t.nodes (some ⟨b, off, none⟩) c F w4 (by have := HM.out.many; omega) HM.out.rise (HR.out.below B4.out)).mono ?_
  rintro e w5 ⟨rfl, hb⟩
  have B5' := Lib.hid (below_chain B4.out hb)
  have D5 := Lib.hid (D4.out.below hb D4.out.lt)
  clear hb p0 p1 p2 q0
  go_wp2_with (first
    | ((with_reducible show wpList _ _ _ _ _ w5); refine wpList_loadA (by rfl) 31 _ rfl g1 0 rfl cl (At.whole D5.out) _ Tryd.underlying31 rfl (by rw [HLN.out]; exact infoTree) ?_; go_frame)
    | fail)
  refine (mayNodes_v t cl F w5 (HT.out.below B5'.out) (HTR.out.below B5'.out) HM.out).mono ?_
  rintro e w6 ⟨rfl, hb⟩
  have B6 := Lib.hid (below_chain B5'.out hb)
  have q0 : w6.cell? ⟨g1, 0, none⟩ = some (.slice (some ⟨b, off, none⟩) t.nodes.length c) := (D5.out.below hb D5.out.lt).cell 0 (by simpa using C0.out)
  clear hb
  go_wp2_with fail
  refine (isOnePiece_v t (some ⟨b, off, none⟩) c F w6 HM.out (HR.out.below B6.out)).mono ?_
  rintro e w7 ⟨rfl, hb⟩
  have B7 := Lib.hid (below_chain B6.out hb)
  clear hb q0
  go_wp2_with fail
  go_ret
  exact ⟨rfl, B7.out⟩

end Go.Proofs.YtenpmbfncnepgaaDoor
