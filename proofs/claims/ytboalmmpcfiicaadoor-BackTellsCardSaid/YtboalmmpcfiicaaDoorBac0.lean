/- Words that replies lean on: lists of texts in memory, bytes gathered, what stays behind a writer's and a reader's steps. -/
import Derived.Laws.AppendOwnNone
import Derived.Test.YtboalmmpcfiicaaDoorBacP
import Derived.Test.YtboalmmpcfiicaaDoorNameStrs
import Derived.Test.YtboalmmpcfiicaaDoorWordsK
import Derived.Test.YtboalmmpcfiicaaDoorXd4
import Derived.Test.YtboalmmpcfiicaaDoorXdLives
import Derived.Test.YtboalmmpcfiicaaDoorXdQ1
namespace Go.Proofs.YtboalmmpcfiicaaDoor
open Go.RowKit Go.Shelf Go.Lib
set_option linter.unusedVariables false
set_option maxRecDepth 100000
set_option linter.unusedSimpArgs false

theorem below_newB (w : World) (o : Obj) : Below w.heap.size w (w.alloc o) := (Below.refl w.heap.size w).alloc (Nat.le_refl _) o
theorem nat_ltB (a b : Nat) : decide (a < b) = decide ((a : Int) < (b : Int)) := decide_eq_decide.2 (by omega)
theorem nat_leB (a b : Nat) : decide (a ≤ b) = decide ((a : Int) ≤ (b : Int)) := decide_eq_decide.2 (by omega)
theorem nat_eqB (a b : Nat) : (a == b) = ((a : Int) == (b : Int)) := by rw [Bool.eq_iff_iff, beq_iff_eq, beq_iff_eq]; omega
theorem BsV.rdB {w : World} {F : Nat → Prop} {A : Option Addr} {n c : Nat} {l : List UInt8} (h : BsV w F (.slice A n c) l) : Rd w A l := by
  obtain ⟨A', c', e, h1, _⟩ := h
  cases e
  exact h1.rd
theorem BsV.nilB {w : World} {F : Nat → Prop} {A : Option Addr} {n c : Nat} {l : List UInt8} (h : BsV w F (.slice A n c) l) : A = none → l = [] ∧ c = 0 := by
  obtain ⟨A', c', e, h1, h2, _⟩ := h
  cases e
  exact h2
/- lists of texts -/
/-- the slice at A reads as the texts l; they lie in F -/
def RdN (w : World) (F : Nat → Prop) (A : Option Addr) (l : List ByteArray) : Prop := l = [] ∨ ∃ b off, A = some ⟨b, off, none⟩ ∧ F b ∧ ∀ j (h : j < l.length), w.cell? ⟨b, off + j, none⟩ = some (.string l[j])
theorem RdN.rds {w : World} {F : Nat → Prop} {A : Option Addr} {l : List ByteArray} (h : RdN w F A l) : RdS w A l := by
  rcases h with h | ⟨b, off, e, _, hc⟩
  · exact .inl h
  · exact .inr ⟨b, off, e, hc⟩
theorem RdS.nm {w : World} {F : Nat → Prop} {A : Option Addr} {l : List ByteArray} (h : RdS w A l) (hF : ∀ b off, A = some ⟨b, off, none⟩ → b < w.heap.size → F b) : RdN w F A l := by
  by_cases h0 : l = []
  · exact .inl h0
  rcases h with h | ⟨b, off, e, hc⟩
  · exact .inl h
  · exact .inr ⟨b, off, e, hF b off e (lt_of_cell (hc 0 (List.length_pos_iff.2 h0))), hc⟩
/-- v is a slice that reads as the texts l; they lie in F -/
def NmV (w : World) (F : Nat → Prop) (v : Value) (l : List ByteArray) : Prop := ∃ A c, v = .slice A l.length c ∧ RdN w F A l ∧ (A = none → l = [] ∧ c = 0) ∧ l.length ≤ c ∧ c ≤ maxLen
theorem NmV.turn {w w' : World} {F G : Nat → Prop} {v : Value} {l : List ByteArray} (h : NmV w F v l) (ht : Turn w w' G) (hG : ∀ k, F k → ¬ G k) : NmV w' F v l := by
  obtain ⟨A, c, h1, h2, h3, h4, h5⟩ := h
  refine ⟨A, c, h1, ?_, h3, h4, h5⟩
  by_cases h0 : l = []
  · exact .inl h0
  rcases h2 with h | ⟨b, off, e, hb, hc⟩
  · exact .inl h
  · exact .inr ⟨b, off, e, hb, fun j hj => (World.cell?_of_block (w := w) (ht.block b (lt_of_cell (hc j hj)) (hG _ hb))).trans (hc j hj)⟩
theorem NmV.below {w w' : World} {F : Nat → Prop} {v : Value} {l : List ByteArray} (h : NmV w F v l) (hb : Below w.heap.size w w') : NmV w' F v l := h.turn (Turn.of_below hb fun _ => False) fun _ _ h => h
theorem NmV.mono {w : World} {F G : Nat → Prop} {v : Value} {l : List ByteArray} (h : NmV w F v l) (hF : ∀ k, k < w.heap.size → F k → G k) : NmV w G v l := by
  obtain ⟨A, c, h1, h2, h3, h4, h5⟩ := h
  refine ⟨A, c, h1, ?_, h3, h4, h5⟩
  rcases h2 with h | ⟨b, off, e, hb, hc⟩
  · exact .inl h
  · refine RdS.nm (.inr ⟨b, off, e, hc⟩) fun b' off' e' hlt => hF b' hlt ?_
    rw [e] at e'
    cases e'
    exact hb
theorem NmV.nil (w : World) (F : Nat → Prop) : NmV w F (.slice none 0 0) [] := ⟨none, 0, rfl, .inl rfl, fun _ => ⟨rfl, rfl⟩, Nat.le_refl _, Nat.zero_le _⟩
theorem NmV.one {w : World} {F : Nat → Prop} {v : Value} {l : List ByteArray} (h : NmV w F v l) : v.oneCell' = true := by
  obtain ⟨A, c, rfl, _⟩ := h
  rfl
theorem NmV.rds {w : World} {F : Nat → Prop} {A : Option Addr} {n c : Nat} {l : List ByteArray} (h : NmV w F (.slice A n c) l) : RdS w A l := by
  obtain ⟨A', c', e, h1, _⟩ := h
  cases e
  exact h1.rds
theorem NmV.len {w : World} {F : Nat → Prop} {v : Value} {l : List ByteArray} (h : NmV w F v l) : l.length ≤ maxLen := by
  obtain ⟨A, c, rfl, _, _, h4, h5⟩ := h
  omega
theorem infoTx : (Tryd.prog.info? 9).map (fun i => (i.zero, i.size, i.bytes)) = some (some (.string ⟨#[]⟩), 1, 16) := by kernel_rfl
/-- texts as cells -/
def txsOf (l : List ByteArray) : List Value := l.map Value.string
theorem txsOf_length (l : List ByteArray) : (txsOf l).length = l.length := by simp [txsOf]
theorem txsOf_append (p q : List ByteArray) : txsOf (p ++ q) = txsOf p ++ txsOf q := by simp [txsOf]
theorem txsOf_one (l : List ByteArray) : ∀ u ∈ txsOf l, u.oneCell' = true := by
  intro u hu
  simp only [txsOf, List.mem_map] at hu
  obtain ⟨c, _, rfl⟩ := hu
  rfl
/-- what is owned reads -/
theorem NmV.own {w : World} {base : Nat} {v : Value} {l : List ByteArray} (h : w.ownsRow base 9 1 v l.length (txsOf l)) : NmV w (base ≤ ·) v l := by
  rcases h.2 with ⟨rfl, h0⟩ | ⟨g, cap, cur, rfl, hg, hgg, h1, h2, _⟩
  · have : l = [] := List.eq_nil_of_length_eq_zero h0
    subst this
    exact NmV.nil _ _
  · refine ⟨some ⟨g, 0, none⟩, cap, rfl, .inr ⟨g, 0, rfl, hg, fun j hj => ?_⟩, (fun h => by cases h), h1, h2⟩
    have := h.cells (g := g) rfl j (.string l[j]) (by simp [txsOf, List.getElem?_eq_getElem hj])
    have e1 : (⟨g, 0, none⟩ : Addr).add j = ⟨g, 0 + j, none⟩ := by
      unfold Addr.add
      split <;> simp_all
    rw [e1] at this
    exact this
theorem own_lenN {w : World} {base n : Nat} {v : Value} {l : List ByteArray} (h : w.ownsRow base 9 1 v n (txsOf l)) (hn : n = l.length) : ∃ A c, v = .slice A l.length c := by
  subst hn
  obtain ⟨A, c, rfl, -⟩ := NmV.own h
  exact ⟨A, c, rfl⟩
theorem rdn_cells {w : World} {ad : Addr} {l : List ByteArray} (h : RdS w (some ad) l) : ∀ j u, (txsOf l)[j]? = some u → w.cell? (ad.add j) = some u := by
  intro j u hu
  rcases h with rfl | ⟨b, off, e, hc⟩
  · simp [txsOf] at hu
  · cases e
    have hj : j < l.length := by
      have := (List.getElem?_eq_some_iff.1 hu).1
      simpa [txsOf] using this
    have e1 : (⟨b, off, none⟩ : Addr).add j = ⟨b, off + j, none⟩ := by
      unfold Addr.add
      split <;> simp_all
    rw [e1, hc j hj]
    have : (txsOf l)[j]? = some (.string l[j]) := by simp [txsOf, List.getElem?_eq_getElem hj]
    rw [this] at hu
    exact hu
/-- one text behind a list of one's own -/
theorem append_tx {w : World} {ops : Array Oper} {rest : List Oper} {o : Oper} {a : Act} {Q : Exit → Act → World → Prop} (hgd : o.guard = none) (s x : Operand)
    (ho : o.op = .call { callee := .builtin .append, args := #[s, x], argTypes := #[29, 29] }) (base : Nat) (v : Value) (l : List ByteArray) (hs : a.eval s = v) (hown : w.ownsRow base 9 1 v l.length (txsOf l))
    (g : Nat) (t : ByteArray) (hx : a.eval x = .slice (some ⟨g, 0, none⟩) 1 1) (hc : w.cell? ⟨g, 0, none⟩ = some (.string t)) (hb : l.length ≤ 1048576) (hbase : base ≤ w.heap.size)
    (h : ∀ v' w', w'.ownsRow base 9 1 v' (l ++ [t]).length (txsOf (l ++ [t])) → w.grownBy w' v.ownBlock → wpList Tryd.prog ops Q rest (a.put o.dst v') w') : wpList Tryd.prog ops Q (o :: rest) a w := by
  obtain ⟨i0, hi, hz0, hz1, hz2⟩ := info_parts infoTx
  refine wpList_append_own w hgd s x 29 ho base 9 i0 (.string ⟨#[]⟩) 1 16 Tryd.underlying29 hi hz0 hz1 hz2 rfl (by decide) v l.length (txsOf l) hs hown ⟨g, 0, none⟩ 1 1 (txsOf [t]) hx rfl (fun j u hu => ?_) (txsOf_one _) (by simp only [maxLen]; omega) (by omega) hbase ?_
  · have hj : j = 0 := by
      have := (List.getElem?_eq_some_iff.1 hu).1
      simp [txsOf] at this
      exact this
    subst hj
    simp only [txsOf, List.map_cons, List.map_nil, List.getElem?_cons_zero, Option.some.injEq] at hu
    subst hu
    exact hc
  · intro v' w' h1 h2 _
    rw [← txsOf_append] at h1
    exact h v' w' (by rw [List.length_append]; exact h1) h2
/-- texts behind no list -/
theorem append_txs {w : World} {ops : Array Oper} {rest : List Oper} {o : Oper} {a : Act} {Q : Exit → Act → World → Prop} (hgd : o.guard = none) (s x : Operand)
    (ho : o.op = .call { callee := .builtin .append, args := #[s, x], argTypes := #[29, 29] }) (base : Nat) (v : Value) (hs : a.eval s = v) (hown : w.ownsRow base 9 1 v 0 [])
    (A : Option Addr) (l : List ByteArray) (m c : Nat) (hm : m = l.length) (hx : a.eval x = .slice A m c) (hr : RdS w A l) (hA : A = none → l = [] ∧ c = 0) (hb : m ≤ 1048576) (hbase : base ≤ w.heap.size)
    (h : ∀ v' w', w'.ownsRow base 9 1 v' l.length (txsOf l) → w.grownBy w' v.ownBlock → wpList Tryd.prog ops Q rest (a.put o.dst v') w') : wpList Tryd.prog ops Q (o :: rest) a w := by
  obtain ⟨i0, hi, hz0, hz1, hz2⟩ := info_parts infoTx
  subst hm
  rcases A with _ | ad
  · obtain ⟨rfl, rfl⟩ := hA rfl
    refine wpList_append_own_none hgd s x 29 ho base 9 i0 1 Tryd.underlying29 hi v 0 [] hs hown hx ?_
    exact h _ w hown (World.grownBy.refl w _)
  · refine wpList_append_own w hgd s x 29 ho base 9 i0 (.string ⟨#[]⟩) 1 16 Tryd.underlying29 hi hz0 hz1 hz2 rfl (by decide) v 0 [] hs hown ad l.length c (txsOf l) hx (by rw [txsOf_length, Nat.mul_one]) (rdn_cells hr) (txsOf_one l) (by simp only [maxLen]; omega) (by omega) hbase ?_
    intro v' w' h1 h2 _
    rw [Nat.zero_add, List.nil_append] at h1
    exact h v' w' h1 h2
/- conversions -/
theorem conv_strB (s : ByteArray) (hs : s.size ≤ 140737488355328) (w : World) : ∃ W c, (convert 9 28 (.string s)).run Tryd.prog w = .ok (.slice (some ⟨w.heap.size, 0, none⟩) (L s).length c) W ∧ Below w.heap.size w W ∧ W.heap.size = w.heap.size + 1 ∧ BsV W (· = w.heap.size) (.slice (some ⟨w.heap.size, 0, none⟩) (L s).length c) (L s) := by
  have hrun := run_bytes_of_string (P := Tryd.prog) w 9 28 5 s Tryd.underlying9 Tryd.underlying28 Tryd.underlying5
  have hge := grownCap_ge w s.size 0 5
  have hle := grownCap_le_maxLen w s.size 0 5 (by unfold maxLen; omega)
  generalize grownCap w s.size 0 5 = c at *
  refine ⟨_, c, by rw [← L_size]; exact hrun, ((Below.refl _ _).drew).alloc (Nat.le_refl _) _, by rw [World.size_alloc]; rfl, some ⟨w.heap.size, 0, none⟩, c, rfl, ?_, (fun h => by cases h), by rw [← L_size]; exact hge, hle⟩
  refine .inr ⟨w.heap.size, 0, rfl, rfl, fun j hj => ?_⟩
  have hw : (w.drew.alloc (.cells (bytesRow s c) 5 ((bytesRow s c).size, (bytesRow s c).size + 1))).heap[w.heap.size]? = some (.cells (bytesRow s c) 5 ((bytesRow s c).size, (bytesRow s c).size + 1)) := World.alloc_heap_new w.drew _
  rw [cell_of_row _ _ _ _ _ _ hw, Nat.zero_add]
  unfold bytesRow
  have hj' : j < s.data.size := by simpa using hj
  rw [Array.getElem?_append_left (by simpa using hj'), Array.getElem?_map, Array.getElem?_eq_getElem hj']
  rfl
/- a reply in memory -/
def BacV (w : World) (F : Nat → Prop) (c : BackX) (v u : Value) : Prop := BsV w F v c.data ∧ NmV w F u c.names ∧ bacOk c
theorem BacV.below {w w' : World} {F : Nat → Prop} {c : BackX} {v u : Value} (h : BacV w F c v u) (hb : Below w.heap.size w w') : BacV w' F c v u := ⟨h.1.below hb, h.2.1.below hb, h.2.2⟩
theorem BacV.turn {w w' : World} {F G : Nat → Prop} {c : BackX} {v u : Value} (h : BacV w F c v u) (ht : Turn w w' G) (hG : ∀ k, F k → ¬ G k) : BacV w' F c v u := ⟨h.1.turn ht hG, h.2.1.turn ht hG, h.2.2⟩
theorem BacV.mono {w : World} {F G : Nat → Prop} {c : BackX} {v u : Value} (h : BacV w F c v u) (hF : ∀ k, k < w.heap.size → F k → G k) : BacV w G c v u := ⟨h.1.mono hF, h.2.1.mono hF, h.2.2⟩
theorem bacOk_zero : bacOk bacZero := by simp [bacOk, bacZero]
theorem bacZ_v (w : World) (F : Nat → Prop) : BacV w F bacZero (.slice none 0 0) (.slice none 0 0) := ⟨BsV.nil _ _, NmV.nil _ _, bacOk_zero⟩
theorem backZero (w : World) : (zeroValue 31).run Tryd.prog w = .ok (.agg (bacCells bacZero (.slice none 0 0) (.slice none 0 0)).toArray) w := by kernel_rfl
theorem infoBack : (Tryd.prog.info? 31).map (·.size) = some 13 := by kernel_rfl
theorem bac_one {c : BackX} {v u : Value} (hv : v.oneCell' = true) (hu : u.oneCell' = true) : ∀ x ∈ bacCells c v u, x.oneCell' = true := by
  intro x hx
  simp only [bacCells, List.mem_cons, List.not_mem_nil, or_false] at hx
  rcases hx with rfl | rfl | rfl | rfl | rfl | rfl | rfl | rfl | rfl | rfl | rfl | rfl | rfl
  all_goals first | rfl | exact hv | exact hu
/-- what is told of a file, in memory -/
def attCells (c : BackX) : List Value := [.int .u32 (c.ino : Int), .int .u32 (c.gen : Int), .bool c.dir, .int .u32 (c.size : Int), .int .u64 (c.change : Int)]
theorem attZero (w : World) : (zeroValue 27).run Tryd.prog w = .ok (.agg (attCells bacZero).toArray) w := by kernel_rfl
theorem infoAttr : (Tryd.prog.info? 27).map (·.size) = some 5 := by kernel_rfl
theorem att_one {c : BackX} : ∀ x ∈ attCells c, x.oneCell' = true := by
  intro x hx
  simp only [attCells, List.mem_cons, List.not_mem_nil, or_false] at hx
  rcases hx with rfl | rfl | rfl | rfl | rfl
  all_goals rfl
/-- a block of another type stays behind what lays -/
theorem Cs.laid {w w' : World} {g wb : Nat} {t : TypeId} {cs : Array Value} {v : Value} {l l' : List UInt8} {e : Ending} (h : Cs w g t cs) (hw : WrAt w wb v l) (hl : Laid wb v l' w e w') (h1 : t ≠ 50) (h2 : t ≠ 5) : Cs w' g t cs := by
  obtain ⟨-, v', -, ht, -⟩ := hl
  refine h.turn ht fun hh => ?_
  rcases hh with hh | hh
  · exact Cs.ne h hw.cell h1 hh
  · obtain ⟨_, cs', hc⟩ := own_blk hw.own hh
    exact Cs.ne h hc h2 rfl
/-- two steps that lay are one -/
theorem Laid.two {wb : Nat} {v : Value} {l l' : List UInt8} {w w1 w2 : World} {e e2 : Ending} (h : Laid wb v l w e w1) (k : ∀ v1, WrAt w1 wb v1 l → Laid wb v1 l' w1 e2 w2) : Laid wb v l' w e2 w2 := by
  obtain ⟨he, v1, h1, h2, h3⟩ := h
  obtain ⟨he2, v2, k1, k2, k3⟩ := k v1 h1
  refine ⟨he2, v2, k1, h2.trans k2 fun i hi hh => ?_, h3.trans k3 h2.size⟩
  rcases hh with hh | hh
  · exact .inl hh
  · rcases h3 i hh with h4 | h4
    · exact .inr h4
    · omega

end Go.Proofs.YtboalmmpcfiicaaDoor
