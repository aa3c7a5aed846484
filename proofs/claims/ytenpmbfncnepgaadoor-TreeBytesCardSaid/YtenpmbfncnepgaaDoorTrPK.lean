/- TrPK: TreP TreQ TreS TreT TreU TreV. -/
import Derived.Test.YtenpmbfncnepgaaDoorNamePlain
import Derived.Test.YtenpmbfncnepgaaDoorTblK
/- Trees, plain: when one may be; what changes it. Of no program. -/
namespace Go.Proofs.YtenpmbfncnepgaaDoor
open Go.RowKit Go.Shelf
set_option linter.unusedVariables false
set_option maxRecDepth 100000
set_option linter.unusedSimpArgs false

abbrev Ent := Key × Nat
/-- a node -/
structure Nd where
  ino : Nat
  gen : Nat
  dir : Bool
  chg : Nat
  data : List UInt8
  names : List Ent
/-- a tree -/
structure Tr where
  nodes : List Nd
  lastGen : Nat
  boot : Nat
  count : Nat
  sess : List (Nat × Nat × List UInt8)
abbrev SortE (l : List Ent) : Prop := l.Pairwise fun x y => lessK x.1 y.1 = true
abbrev SortN (l : List Nd) : Prop := l.Pairwise fun a b => a.ino < b.ino
def inosL (l : List Nd) : List Nat := l.map (·.ino)
def entsL (l : List Nd) : List Ent := l.flatMap (·.names)
/-- a node is another one, or beneath it -/
inductive Under (l : List Nd) (f : Nat) : Nat → Prop
  | here : Under l f f
  | step {n : Nd} {e : Ent} : n ∈ l → e ∈ n.names → Under l f n.ino → Under l f e.2
/-- a node may be -/
structure NdOk (l : List Nd) (lastGen top : Nat) (n : Nd) : Prop where
  pos : 1 ≤ n.ino
  gen1 : 1 ≤ n.gen
  gen2 : n.gen ≤ lastGen
  chg : n.chg ≤ top
  size : n.data.length ≤ 4096
  isDir : n.dir = true → n.data = []
  file : n.dir = false → n.names = []
  sort : SortE n.names
  good : ∀ e ∈ n.names, nameL e.1 = true ∧ e.2 ∈ inosL l
  many : n.names.length ≤ 32
def topT (t : Tr) : Nat := t.boot * 4294967296 + t.count
/-- a tree may be -/
structure MayT (t : Tr) : Prop where
  boot1 : 1 ≤ t.boot
  boot2 : t.boot ≤ 2147483648
  last1 : 1 ≤ t.lastGen
  root : ∃ r ∈ t.nodes, r.ino = 1 ∧ r.gen = 1 ∧ r.dir = true
  many : t.nodes.length ≤ 64
  rise : SortN t.nodes
  gens : t.nodes.Pairwise fun a b => a.gen ≠ b.gen
  ok : ∀ n ∈ t.nodes, NdOk t.nodes t.lastGen (topT t) n
  once : ((entsL t.nodes).map (·.2)).Nodup
  noroot : 1 ∉ (entsL t.nodes).map (·.2)
  above : ∀ n ∈ t.nodes, Under t.nodes 1 n.ino
theorem Under.mono {l l' : List Nd} {f y : Nat} (h : Under l f y) (k : ∀ n ∈ l, ∀ e ∈ n.names, ∃ n' ∈ l', n'.ino = n.ino ∧ e ∈ n'.names) : Under l' f y := by
  induction h with
  | here => exact .here
  | step hn he _ ih =>
    obtain ⟨n', h1, h2, h3⟩ := k _ hn _ he
    rw [← h2] at ih
    exact .step h1 h3 ih
theorem Under.trans {l : List Nd} {f g y : Nat} (h : Under l f g) (k : Under l g y) : Under l f y := by
  induction k with
  | here => exact h
  | step hn he _ ih => exact .step hn he ih
theorem entsL_app (a b : List Nd) : entsL (a ++ b) = entsL a ++ entsL b := List.flatMap_append
theorem entsL_cons (n : Nd) (l : List Nd) : entsL (n :: l) = n.names ++ entsL l := rfl
theorem mem_ents {l : List Nd} {e : Ent} : e ∈ entsL l ↔ ∃ n ∈ l, e ∈ n.names := List.mem_flatMap
theorem inosL_app (a b : List Nd) : inosL (a ++ b) = inosL a ++ inosL b := List.map_append
theorem mem_inos {l : List Nd} {i : Nat} : i ∈ inosL l ↔ ∃ n ∈ l, n.ino = i := List.mem_map
/-- one node anew -/
def updN (l : List Nd) (i : Nat) (f : Nd → Nd) : List Nd := l.map fun m => if m.ino = i then f m else m
theorem sort_split {l : List Nd} (h : SortN l) {d : Nd} (hd : d ∈ l) : ∃ pre post, l = pre ++ d :: post ∧ (∀ m ∈ pre, m.ino < d.ino) ∧ ∀ m ∈ post, d.ino < m.ino := by
  obtain ⟨pre, post, rfl⟩ := List.append_of_mem hd
  refine ⟨pre, post, rfl, ?_, ?_⟩
  · rw [SortN, List.pairwise_append] at h
    exact fun m hm => h.2.2 m hm d (by simp)
  · rw [SortN, List.pairwise_append, List.pairwise_cons] at h
    exact h.2.1.1
theorem updN_none (f : Nd → Nd) (i : Nat) (l : List Nd) (h : ∀ m ∈ l, m.ino ≠ i) : updN l i f = l := by
  unfold updN
  conv => rhs; rw [← List.map_id l]
  refine List.map_congr_left fun m hm => ?_
  rw [if_neg (h m hm)]
  rfl
theorem updN_at {pre post : List Nd} {d : Nd} (f : Nd → Nd) (h1 : ∀ m ∈ pre, m.ino < d.ino) (h2 : ∀ m ∈ post, d.ino < m.ino) : updN (pre ++ d :: post) d.ino f = pre ++ f d :: post := by
  have e1 := updN_none f d.ino pre fun m hm => by have := h1 m hm; omega
  have e2 := updN_none f d.ino post fun m hm => by have := h2 m hm; omega
  unfold updN at *
  rw [List.map_append, List.map_cons, e1, e2, if_pos rfl]
theorem updN_inos (f : Nd → Nd) (hf : ∀ m, (f m).ino = m.ino) (i : Nat) (l : List Nd) : inosL (updN l i f) = inosL l := by
  unfold inosL updN
  rw [List.map_map]
  refine List.map_congr_left fun m _ => ?_
  show (if m.ino = i then f m else m).ino = m.ino
  split
  · exact hf m
  · rfl
theorem updN_sort {f : Nd → Nd} (hf : ∀ m, (f m).ino = m.ino) {i : Nat} {l : List Nd} (h : SortN l) : SortN (updN l i f) := by
  unfold updN
  refine List.pairwise_map.2 (h.imp fun {a b} hab => ?_)
  have ha : (if a.ino = i then f a else a).ino = a.ino := by split <;> simp [hf]
  have hb : (if b.ino = i then f b else b).ino = b.ino := by split <;> simp [hf]
  rw [ha, hb]
  exact hab
theorem updN_gens {f : Nd → Nd} (hf : ∀ m, (f m).gen = m.gen) {i : Nat} {l : List Nd} (h : l.Pairwise fun a b => a.gen ≠ b.gen) : (updN l i f).Pairwise fun a b => a.gen ≠ b.gen := by
  unfold updN
  refine List.pairwise_map.2 (h.imp fun {a b} hab => ?_)
  have ha : (if a.ino = i then f a else a).gen = a.gen := by split <;> simp [hf]
  have hb : (if b.ino = i then f b else b).gen = b.gen := by split <;> simp [hf]
  rw [ha, hb]
  exact hab
theorem mem_updN {f : Nd → Nd} {i : Nat} {l : List Nd} {m : Nd} : m ∈ updN l i f ↔ (m ∈ l ∧ m.ino ≠ i) ∨ ∃ d ∈ l, d.ino = i ∧ f d = m := by
  unfold updN
  rw [List.mem_map]
  constructor
  · rintro ⟨a, ha, rfl⟩
    by_cases h : a.ino = i
    · rw [if_pos h]; exact .inr ⟨a, ha, h, rfl⟩
    · rw [if_neg h]; exact .inl ⟨ha, h⟩
  · rintro (⟨h1, h2⟩ | ⟨d, h1, h2, h3⟩)
    · exact ⟨m, h1, if_neg h2⟩
    · exact ⟨d, h1, by rw [if_pos h2, h3]⟩
theorem updN_len (f : Nd → Nd) (i : Nat) (l : List Nd) : (updN l i f).length = l.length := List.length_map _
/-- of one Ino there is one node -/
theorem sort_one {l : List Nd} (h : SortN l) {a b : Nd} (ha : a ∈ l) (hb : b ∈ l) (e : a.ino = b.ino) : a = b := by
  obtain ⟨pre, post, rfl, h1, h2⟩ := sort_split h ha
  simp only [List.mem_append, List.mem_cons] at hb
  rcases hb with hb | rfl | hb
  · have := h1 b hb; omega
  · rfl
  · have := h2 b hb; omega
theorem updN_ents {l : List Nd} (h : SortN l) {d : Nd} (hd : d ∈ l) (f : Nd → Nd) : ∃ A C, entsL l = A ++ d.names ++ C ∧ entsL (updN l d.ino f) = A ++ (f d).names ++ C := by
  obtain ⟨pre, post, rfl, h1, h2⟩ := sort_split h hd
  rw [updN_at f h1 h2]
  exact ⟨entsL pre, entsL post, by rw [entsL_app, entsL_cons, List.append_assoc], by rw [entsL_app, entsL_cons, List.append_assoc]⟩
/-- a handle's node -/
def findT (l : List Nd) (h : Nat × Nat) : Option Nd := l.find? fun n => n.ino == h.1 && n.gen == h.2
theorem findT_some {l : List Nd} (hs : SortN l) {h : Nat × Nat} {d : Nd} : findT l h = some d ↔ d ∈ l ∧ d.ino = h.1 ∧ d.gen = h.2 := by
  constructor
  · intro e
    have h1 := List.mem_of_find?_eq_some e
    have h2 := List.find?_some e
    simp only [Bool.and_eq_true, beq_iff_eq] at h2
    exact ⟨h1, h2.1, h2.2⟩
  · rintro ⟨h1, h2, h3⟩
    cases e : findT l h with
    | none =>
      have := List.find?_eq_none.1 e d h1
      simp [h2, h3] at this
    | some d' =>
      have k1 := List.mem_of_find?_eq_some e
      have k2 := List.find?_some e
      simp only [Bool.and_eq_true, beq_iff_eq] at k2
      rw [sort_one hs k1 h1 (by rw [k2.1, h2])]
/-- the node of an Ino -/
def nodeT (l : List Nd) (i : Nat) : Option Nd := l.find? fun n => n.ino == i
theorem nodeT_some {l : List Nd} (hs : SortN l) {i : Nat} {d : Nd} : nodeT l i = some d ↔ d ∈ l ∧ d.ino = i := by
  constructor
  · intro e
    have h1 := List.mem_of_find?_eq_some e
    have h2 := List.find?_some e
    simp only [beq_iff_eq] at h2
    exact ⟨h1, h2⟩
  · rintro ⟨h1, h2⟩
    cases e : nodeT l i with
    | none =>
      have := List.find?_eq_none.1 e d h1
      simp [h2] at this
    | some d' =>
      have k1 := List.mem_of_find?_eq_some e
      have k2 := List.find?_some e
      simp only [beq_iff_eq] at k2
      rw [sort_one hs k1 h1 (by rw [k2, h2])]
/-- a name in a directory -/
def inE (l : List Ent) (name : Key) : Option Nat := (l.find? fun e => e.1 == name).map (·.2)
theorem sortE_one {l : List Ent} (h : SortE l) {a b : Ent} (ha : a ∈ l) (hb : b ∈ l) (e : a.1 = b.1) : a = b := by
  obtain ⟨pre, post, rfl⟩ := List.append_of_mem ha
  rw [SortE, List.pairwise_append, List.pairwise_cons] at h
  simp only [List.mem_append, List.mem_cons] at hb
  rcases hb with hb | rfl | hb
  · exact absurd e.symm (lessK_ne (h.2.2 b hb a (by simp)))
  · rfl
  · exact absurd e (lessK_ne (h.2.1.1 b hb))
theorem inE_some {l : List Ent} (hs : SortE l) {name : Key} {i : Nat} : inE l name = some i ↔ (name, i) ∈ l := by
  unfold inE
  rw [Option.map_eq_some_iff]
  constructor
  · rintro ⟨⟨a, b⟩, h1, rfl⟩
    have k1 := List.mem_of_find?_eq_some h1
    have k2 := List.find?_some h1
    simp only [beq_iff_eq] at k2
    subst k2
    exact k1
  · intro h
    cases e : l.find? fun e => e.1 == name with
    | none =>
      have := List.find?_eq_none.1 e _ h
      simp at this
    | some x =>
      have k1 := List.mem_of_find?_eq_some e
      have k2 := List.find?_some e
      simp only [beq_iff_eq] at k2
      have := sortE_one hs k1 h k2
      subst this
      exact ⟨_, rfl, rfl⟩
theorem inE_none {l : List Ent} {name : Key} : inE l name = none ↔ ∀ e ∈ l, e.1 ≠ name := by
  unfold inE
  rw [Option.map_eq_none_iff, List.find?_eq_none]
  simp
/-- a name less, a name more -/
def lessE (l : List Ent) (name : Key) : List Ent := l.filter fun e => !(e.1 == name)
def withE (l : List Ent) (e : Ent) : List Ent := l.filter (fun y => lessK y.1 e.1) ++ e :: l.filter fun y => !lessK y.1 e.1
theorem mem_lessE {l : List Ent} {name : Key} {e : Ent} : e ∈ lessE l name ↔ e ∈ l ∧ e.1 ≠ name := by
  unfold lessE
  rw [List.mem_filter]
  simp
theorem filt_split {α : Type} (p : α → Bool) : ∀ (l : List α), (l.Pairwise fun a b => p b = true → p a = true) → l.filter p ++ l.filter (fun x => !p x) = l
  | [], _ => rfl
  | x :: r, h => by
    rw [List.pairwise_cons] at h
    cases e : p x
    · have h1 : r.filter p = [] := List.filter_eq_nil_iff.2 fun y hy k => by have := h.1 y hy k; rw [e] at this; cases this
      have h2 := filt_split p r h.2
      rw [h1, List.nil_append] at h2
      simp [e, h1, h2]
    · have h2 := filt_split p r h.2
      simp [e, h2]
theorem lessE_at {l : List Ent} (hs : SortE l) {e : Ent} (he : e ∈ l) : ∃ a b, l = a ++ e :: b ∧ lessE l e.1 = a ++ b := by
  obtain ⟨a, b, rfl⟩ := List.append_of_mem he
  refine ⟨a, b, rfl, ?_⟩
  rw [SortE, List.pairwise_append, List.pairwise_cons] at hs
  unfold lessE
  rw [List.filter_append, List.filter_cons]
  have h1 : a.filter (fun x => !(x.1 == e.1)) = a := List.filter_eq_self.2 fun y hy => by simpa using lessK_ne (hs.2.2 y hy e (by simp))
  have h2 : b.filter (fun x => !(x.1 == e.1)) = b := List.filter_eq_self.2 fun y hy => by simpa using (lessK_ne (hs.2.1.1 y hy)).symm
  rw [h1, h2]
  simp
theorem lessE_sort {l : List Ent} (hs : SortE l) (name : Key) : SortE (lessE l name) := hs.filter _
theorem lessE_none {l : List Ent} {name : Key} (h : inE l name = none) : lessE l name = l := List.filter_eq_self.2 fun y hy => by simpa using inE_none.1 h y hy
theorem withE_at {l : List Ent} (hs : SortE l) (e : Ent) : ∃ a b, l = a ++ b ∧ withE l e = a ++ e :: b := by
  refine ⟨_, _, (filt_split (fun y => lessK y.1 e.1) l (hs.imp fun {x y} h k => lessK_trans h k)).symm, rfl⟩
theorem withE_sort {l : List Ent} (hs : SortE l) {e : Ent} (h : ∀ x ∈ l, x.1 ≠ e.1) : SortE (withE l e) := by
  unfold withE
  rw [SortE, List.pairwise_append, List.pairwise_cons]
  refine ⟨hs.filter _, ⟨fun y hy => ?_, hs.filter _⟩, fun x hx y hy => ?_⟩
  · rw [List.mem_filter] at hy
    have h1 := h y hy.1
    cases k : lessK e.1 y.1
    · have h2 : lessK y.1 e.1 = false := by simpa using hy.2
      exact absurd (lessK_total h2 k) h1
    · rfl
  · rw [List.mem_filter] at hx
    rcases List.mem_cons.1 hy with rfl | hy
    · exact hx.2
    · rw [List.mem_filter] at hy
      have h2 : lessK y.1 e.1 = false := by simpa using hy.2
      cases k : lessK x.1 y.1
      · exfalso
        have h3 := lessK_le (a := y.1) (b := x.1) (c := e.1) k (by simpa using hx.2)
        rw [h2] at h3
        cases h3
      · rfl
theorem mem_withE {l : List Ent} (hs : SortE l) {e x : Ent} : x ∈ withE l e ↔ x = e ∨ x ∈ l := by
  obtain ⟨a, b, h1, h2⟩ := withE_at hs e
  rw [h2, h1]
  simp only [List.mem_append, List.mem_cons]
  constructor
  · rintro (h | h | h)
    · exact .inr (.inl h)
    · exact .inl h
    · exact .inr (.inr h)
  · rintro (h | h | h)
    · exact .inr (.inl h)
    · exact .inl h
    · exact .inr (.inr h)
theorem withE_len {l : List Ent} (hs : SortE l) (e : Ent) : (withE l e).length = l.length + 1 := by
  obtain ⟨a, b, h1, h2⟩ := withE_at hs e
  rw [h2, h1]
  simp
  omega
theorem lessE_len {l : List Ent} (hs : SortE l) {e : Ent} (he : e ∈ l) : (lessE l e.1).length + 1 = l.length := by
  obtain ⟨a, b, h1, h2⟩ := lessE_at hs he
  rw [h2]
  conv => rhs; rw [h1]
  simp
  omega
/-- a node more -/
def insN (l : List Nd) (n : Nd) : List Nd := l.filter (fun m => decide (m.ino < n.ino)) ++ n :: l.filter fun m => !decide (m.ino < n.ino)
theorem insN_at {l : List Nd} (hs : SortN l) (n : Nd) : ∃ a b, l = a ++ b ∧ insN l n = a ++ n :: b := by
  refine ⟨_, _, (filt_split (fun m => decide (m.ino < n.ino)) l (hs.imp fun {x y} h k => ?_)).symm, rfl⟩
  simp only [decide_eq_true_eq] at *
  omega
theorem insN_sort {l : List Nd} (hs : SortN l) {n : Nd} (h : n.ino ∉ inosL l) : SortN (insN l n) := by
  unfold insN
  rw [SortN, List.pairwise_append, List.pairwise_cons]
  refine ⟨hs.filter _, ⟨fun y hy => ?_, hs.filter _⟩, fun x hx y hy => ?_⟩
  · rw [List.mem_filter] at hy
    have h1 : y.ino ≠ n.ino := fun e => h (mem_inos.2 ⟨y, hy.1, e⟩)
    have h2 := hy.2
    simp at h2
    omega
  · rw [List.mem_filter] at hx
    have h1 := hx.2
    simp at h1
    rcases List.mem_cons.1 hy with rfl | hy
    · exact h1
    · rw [List.mem_filter] at hy
      have h2 := hy.2
      simp at h2
      omega
theorem mem_insN {l : List Nd} (hs : SortN l) {n m : Nd} : m ∈ insN l n ↔ m = n ∨ m ∈ l := by
  obtain ⟨a, b, h1, h2⟩ := insN_at hs n
  rw [h2, h1]
  simp only [List.mem_append, List.mem_cons]
  constructor
  · rintro (h | h | h)
    · exact .inr (.inl h)
    · exact .inl h
    · exact .inr (.inr h)
  · rintro (h | h | h)
    · exact .inr (.inl h)
    · exact .inl h
    · exact .inr (.inr h)
theorem insN_ents {l : List Nd} (hs : SortN l) {n : Nd} (h : n.names = []) : entsL (insN l n) = entsL l := by
  obtain ⟨a, b, h1, h2⟩ := insN_at hs n
  rw [h2, h1, entsL_app, entsL_app, entsL_cons, h, List.nil_append]
theorem insN_len {l : List Nd} (hs : SortN l) (n : Nd) : (insN l n).length = l.length + 1 := by
  obtain ⟨a, b, h1, h2⟩ := insN_at hs n
  rw [h2, h1]
  simp
  omega
/-- a node less -/
def outN (l : List Nd) (x : Nat) : List Nd := l.filter fun m => !(m.ino == x)
theorem mem_outN {l : List Nd} {x : Nat} {m : Nd} : m ∈ outN l x ↔ m ∈ l ∧ m.ino ≠ x := by
  unfold outN
  rw [List.mem_filter]
  simp
theorem outN_ents {l : List Nd} {x : Nat} (h : ∀ m ∈ l, m.ino = x → m.names = []) : entsL (outN l x) = entsL l := by
  induction l with
  | nil => rfl
  | cons m r ih =>
    have h2 := ih fun m hm => h m (by simp [hm])
    unfold outN at h2 ⊢
    rw [List.filter_cons]
    split
    · rw [entsL_cons, entsL_cons, h2]
    · rename_i hc
      have : m.ino = x := by simpa using hc
      rw [entsL_cons, h m (by simp) this, List.nil_append, h2]
/-- the least Ino that is not there -/
def gapI : Nat → List Nat → Nat
  | k, [] => k
  | k, i :: r => if i = k then gapI (k + 1) r else k
theorem gapI_is : ∀ (l : List Nat) (k : Nat), l.Pairwise (· < ·) → (∀ i ∈ l, k ≤ i) → k ≤ gapI k l ∧ gapI k l ≤ k + l.length ∧ gapI k l ∉ l
  | [], k, _, _ => ⟨Nat.le_refl _, Nat.le_refl _, by simp⟩
  | i :: r, k, h, hk => by
    rw [List.pairwise_cons] at h
    unfold gapI
    split
    · rename_i e
      subst e
      obtain ⟨a, b, c⟩ := gapI_is r (i + 1) h.2 fun j hj => h.1 j hj
      refine ⟨by omega, by simp; omega, ?_⟩
      rw [List.mem_cons]
      rintro (h | h)
      · omega
      · exact c h
    · rename_i e
      have := hk i (by simp)
      refine ⟨Nat.le_refl _, by omega, ?_⟩
      rw [List.mem_cons]
      rintro (h1 | h1)
      · exact e h1.symm
      · have := h.1 k h1
        omega
def freeI (l : List Nd) : Nat := gapI 1 (inosL l)

end Go.Proofs.YtenpmbfncnepgaaDoor

/- Trees, plain: what changes them, and that they may be behind it. Of no program. -/
namespace Go.Proofs.YtenpmbfncnepgaaDoor
open Go.RowKit Go.Shelf
set_option linter.unusedVariables false
set_option maxRecDepth 100000
set_option linter.unusedSimpArgs false

def nd0 : Nd := ⟨0, 0, false, 0, [], []⟩
def stampT (t : Tr) : Nat := t.boot * 4294967296 + (t.count + 1)
theorem NdOk.mono {l l' : List Nd} {a a' b b' : Nat} {n : Nd} (h : NdOk l a b n) (hl : ∀ i ∈ inosL l, i ∈ inosL l') (ha : a ≤ a') (hb : b ≤ b') : NdOk l' a' b' n :=
  ⟨h.pos, h.gen1, Nat.le_trans h.gen2 ha, Nat.le_trans h.chg hb, h.size, h.isDir, h.file, h.sort, fun e he => ⟨(h.good e he).1, hl _ (h.good e he).2⟩, h.many⟩
theorem root_upd {f : Nd → Nd} (hf : ∀ m, (f m).ino = m.ino ∧ (f m).gen = m.gen ∧ (f m).dir = m.dir) {i : Nat} {l : List Nd} (h : ∃ r ∈ l, r.ino = 1 ∧ r.gen = 1 ∧ r.dir = true) : ∃ r ∈ updN l i f, r.ino = 1 ∧ r.gen = 1 ∧ r.dir = true := by
  obtain ⟨r, h1, h2, h3, h4⟩ := h
  by_cases e : r.ino = i
  · exact ⟨f r, mem_updN.2 (.inr ⟨r, h1, e, rfl⟩), by rw [(hf r).1, h2], by rw [(hf r).2.1, h3], by rw [(hf r).2.2, h4]⟩
  · exact ⟨r, mem_updN.2 (.inl ⟨h1, e⟩), h2, h3, h4⟩
theorem ents_same {f : Nd → Nd} (hf : ∀ m, (f m).names = m.names) (i : Nat) (l : List Nd) : entsL (updN l i f) = entsL l := by
  unfold entsL updN
  rw [List.flatMap_map]
  have e : (fun m : Nd => (if m.ino = i then f m else m).names) = fun m => m.names := funext fun m => by
    split
    · exact hf m
    · rfl
  rw [e]
theorem under_same {f : Nd → Nd} (hf : ∀ m, (f m).names = m.names ∧ (f m).ino = m.ino) {i g y : Nat} {l : List Nd} (h : Under l g y) : Under (updN l i f) g y := by
  refine h.mono fun n hn e he => ?_
  by_cases k : n.ino = i
  · exact ⟨f n, mem_updN.2 (.inr ⟨n, hn, k, rfl⟩), (hf n).2, by rw [(hf n).1]; exact he⟩
  · exact ⟨n, mem_updN.2 (.inl ⟨hn, k⟩), rfl, he⟩
/-- bytes of a file anew -/
def dataT (t : Tr) (i : Nat) (g : List UInt8 → List UInt8) : Tr := { t with nodes := updN t.nodes i fun m => { m with chg := stampT t, data := g m.data }, count := t.count + 1 }
theorem may_data {t : Tr} (h : MayT t) {d : Nd} (hd : d ∈ t.nodes) (hf : d.dir = false) {g : List UInt8 → List UInt8} (hg : (g d.data).length ≤ 4096) : MayT (dataT t d.ino g) := by
  have hi : inosL (dataT t d.ino g).nodes = inosL t.nodes := updN_inos _ (by intro m; rfl) _ _
  have he : entsL (dataT t d.ino g).nodes = entsL t.nodes := ents_same (by intro m; rfl) _ _
  have htop : topT t ≤ topT (dataT t d.ino g) := by unfold topT dataT; dsimp only; omega
  refine ⟨h.boot1, h.boot2, h.last1, root_upd (by intro m; exact ⟨rfl, rfl, rfl⟩) h.root, by unfold dataT; dsimp only; rw [updN_len]; exact h.many, updN_sort (by intro m; rfl) h.rise, updN_gens (by intro m; rfl) h.gens, fun n hn => ?_, by rw [he]; exact h.once, by rw [he]; exact h.noroot, fun n hn => ?_⟩
  · rcases mem_updN.1 hn with ⟨h1, h2⟩ | ⟨d', h1, h2, rfl⟩
    · exact (h.ok n h1).mono (fun i hh => by rw [hi]; exact hh) (Nat.le_refl _) htop
    · obtain rfl := sort_one h.rise h1 hd h2
      have k := (h.ok d' h1).mono (l' := (dataT t d'.ino g).nodes) (fun i hh => by rw [hi]; exact hh) (Nat.le_refl _) htop
      exact ⟨k.pos, k.gen1, k.gen2, by show stampT t ≤ topT (dataT t d'.ino g); unfold topT dataT stampT; dsimp only; omega, hg, fun e => (by rw [show d'.dir = false from hf] at e; cases e), k.file, k.sort, k.good, k.many⟩
  · have h1 : n.ino ∈ inosL t.nodes := by rw [← hi]; exact mem_inos.2 ⟨n, hn, rfl⟩
    obtain ⟨m, h2, h3⟩ := mem_inos.1 h1
    rw [← h3]
    exact under_same (by intro m; exact ⟨rfl, rfl⟩) (h.above m h2)
theorem free_is {t : Tr} (h : MayT t) : 1 < freeI t.nodes ∧ freeI t.nodes ≤ 65 ∧ freeI t.nodes ∉ inosL t.nodes := by
  obtain ⟨a, b, c⟩ := gapI_is (inosL t.nodes) 1 (List.pairwise_map.2 h.rise) fun i hi => by
    obtain ⟨n, h1, rfl⟩ := mem_inos.1 hi
    exact (h.ok n h1).pos
  obtain ⟨r, h1, h2, _⟩ := h.root
  have h3 : 1 ∈ inosL t.nodes := mem_inos.2 ⟨r, h1, h2⟩
  have h4 : freeI t.nodes ≠ 1 := fun e => c (by unfold freeI at e; rw [e]; exact h3)
  have h5 : (inosL t.nodes).length ≤ 64 := by unfold inosL; rw [List.length_map]; exact h.many
  unfold freeI at *
  exact ⟨by omega, by omega, c⟩
def newN (t : Tr) (dir : Bool) : Nd := ⟨freeI t.nodes, t.lastGen + 1, dir, stampT t, [], []⟩
def madeT (t : Tr) (i : Nat) (name : Key) (dir : Bool) : Tr :=
  { t with nodes := insN (updN t.nodes i fun m => { m with chg := stampT t, names := withE m.names (name, freeI t.nodes) }) (newN t dir), lastGen := t.lastGen + 1, count := t.count + 1 }
theorem may_made {t : Tr} (h : MayT t) {d : Nd} (hd : d ∈ t.nodes) (hdir : d.dir = true) {name : Key} (hn : nameL name = true) (hnot : inE d.names name = none) (hm : t.nodes.length < 64) (hk : d.names.length < 32) (dir : Bool) : MayT (madeT t d.ino name dir) := by
  obtain ⟨f1, f2, f3⟩ := free_is h
  obtain ⟨x, hx⟩ : ∃ x, freeI t.nodes = x := ⟨_, rfl⟩
  rw [hx] at f1 f2 f3
  obtain ⟨L, hL⟩ : ∃ L, updN t.nodes d.ino (fun m => { m with chg := stampT t, names := withE m.names (name, x) }) = L := ⟨_, rfl⟩
  have hnodes : (madeT t d.ino name dir).nodes = insN L (newN t dir) := by unfold madeT; rw [hx, hL]
  have hLs : SortN L := by rw [← hL]; exact updN_sort (by intro m; rfl) h.rise
  have hLi : inosL L = inosL t.nodes := by rw [← hL]; exact updN_inos _ (by intro m; rfl) _ _
  have hxL : (newN t dir).ino ∉ inosL L := by rw [hLi]; show freeI t.nodes ∉ _; rw [hx]; exact f3
  have hi : ∀ i, i ∈ inosL (madeT t d.ino name dir).nodes ↔ i = x ∨ i ∈ inosL t.nodes := fun i => by
    rw [hnodes, mem_inos, ← hLi, mem_inos]
    constructor
    · rintro ⟨n, h1, h2⟩
      rcases (mem_insN hLs).1 h1 with rfl | h1
      · left; rw [← h2]; exact hx
      · exact .inr ⟨n, h1, h2⟩
    · rintro (h1 | ⟨n, h1, h2⟩)
      · exact ⟨_, (mem_insN hLs).2 (.inl rfl), by rw [h1]; exact hx⟩
      · exact ⟨n, (mem_insN hLs).2 (.inr h1), h2⟩
  have hdok := h.ok d hd
  obtain ⟨A, C, e1, e2⟩ := updN_ents h.rise hd fun m => { m with chg := stampT t, names := withE m.names (name, x) }
  rw [hL] at e2
  dsimp only at e2
  obtain ⟨a, b, e3, e4⟩ := withE_at hdok.sort (name, x)
  have he : entsL (madeT t d.ino name dir).nodes = A ++ (a ++ (name, x) :: b) ++ C := by rw [hnodes, insN_ents hLs rfl, e2, e4]
  have hperm : ((entsL (madeT t d.ino name dir).nodes).map (·.2)).Perm (x :: (entsL t.nodes).map (·.2)) := by
    rw [he, e1, e3]
    simp only [List.map_append, List.map_cons, List.append_assoc]
    refine (List.perm_middle (l₁ := A.map (·.2) ++ a.map (·.2)) (a := x) (l₂ := b.map (·.2) ++ C.map (·.2))).symm.symm.trans ?_ |> fun p => by simpa only [List.append_assoc, List.cons_append] using p
    simp only [List.append_assoc]
    exact List.Perm.refl _
  have hxe : x ∉ (entsL t.nodes).map (·.2) := fun hh => by
    obtain ⟨e, h1, h2⟩ := List.mem_map.1 hh
    obtain ⟨n, h3, h4⟩ := mem_ents.1 h1
    exact f3 (by rw [← h2]; exact ((h.ok n h3).good e h4).2)
  have htop : topT t ≤ topT (madeT t d.ino name dir) := by unfold topT madeT; dsimp only; omega
  have hmem : ∀ n, n ∈ (madeT t d.ino name dir).nodes ↔ n = newN t dir ∨ n ∈ L := fun n => by rw [hnodes]; exact mem_insN hLs
  have hstamp : stampT t ≤ topT (madeT t d.ino name dir) := by unfold topT madeT stampT; dsimp only; omega
  have hund : ∀ g y, Under t.nodes g y → Under (madeT t d.ino name dir).nodes g y := fun g y hu => hu.mono fun n hn1 e he1 => by
    by_cases k : n.ino = d.ino
    · obtain rfl := sort_one h.rise hn1 hd k
      refine ⟨{ n with chg := stampT t, names := withE n.names (name, x) }, (hmem _).2 (.inr (by rw [← hL]; exact mem_updN.2 (.inr ⟨n, hn1, rfl, rfl⟩))), rfl, ?_⟩
      exact (mem_withE hdok.sort).2 (.inr he1)
    · exact ⟨n, (hmem _).2 (.inr (by rw [← hL]; exact mem_updN.2 (.inl ⟨hn1, k⟩))), rfl, he1⟩
  refine ⟨h.boot1, h.boot2, Nat.le_succ_of_le h.last1, ?_, ?_, ?_, ?_, fun n hn1 => ?_, ?_, ?_, fun n hn1 => ?_⟩
  · obtain ⟨r, h1, h2⟩ := root_upd (f := fun m => { m with chg := stampT t, names := withE m.names (name, x) }) (i := d.ino) (fun _ => ⟨rfl, rfl, rfl⟩) h.root
    rw [hL] at h1
    exact ⟨r, (hmem _).2 (.inr h1), h2⟩
  · rw [hnodes, insN_len hLs, ← hL, updN_len]; exact hm
  · rw [hnodes]; exact insN_sort hLs hxL
  · rw [hnodes]
    obtain ⟨p, q, k1, k2⟩ := insN_at hLs (newN t dir)
    have hg : L.Pairwise fun a b => a.gen ≠ b.gen := by rw [← hL]; exact updN_gens (by intro m; rfl) h.gens
    have hlow : ∀ m ∈ L, m.gen ≤ t.lastGen := fun m hm1 => by
      rw [← hL] at hm1
      rcases mem_updN.1 hm1 with ⟨h1, _⟩ | ⟨d', h1, _, rfl⟩
      · exact (h.ok m h1).gen2
      · exact (h.ok d' h1).gen2
    rw [k2]
    rw [k1] at hg hlow
    rw [List.pairwise_append] at hg ⊢
    rw [List.pairwise_cons]
    refine ⟨hg.1, ⟨fun m hm1 => ?_, hg.2.1⟩, fun m hm1 m' hm2 => ?_⟩
    · have := hlow m (by simp [hm1]); show t.lastGen + 1 ≠ m.gen; omega
    · rcases List.mem_cons.1 hm2 with rfl | hm2
      · have := hlow m (by simp [hm1]); show m.gen ≠ t.lastGen + 1; omega
      · exact hg.2.2 m hm1 m' hm2
  · have hsub : ∀ i ∈ inosL t.nodes, i ∈ inosL (madeT t d.ino name dir).nodes := fun i hh => (hi i).2 (.inr hh)
    rcases (hmem n).1 hn1 with rfl | hn1
    · refine ⟨?_, Nat.le_add_left _ _, Nat.le_refl _, hstamp, Nat.zero_le _, fun _ => rfl, fun _ => rfl, List.Pairwise.nil, fun e he1 => (by cases he1), Nat.zero_le _⟩
      show 1 ≤ freeI t.nodes
      omega
    · rw [← hL] at hn1
      rcases mem_updN.1 hn1 with ⟨h1, _⟩ | ⟨d', h1, h2, rfl⟩
      · exact (h.ok n h1).mono hsub (Nat.le_succ _) htop
      · obtain rfl := sort_one h.rise h1 hd h2
        have k := hdok.mono hsub (Nat.le_succ _) htop
        refine ⟨k.pos, k.gen1, k.gen2, hstamp, k.size, k.isDir, fun e => ?_, ?_, fun e he1 => ?_, ?_⟩
        · have e' : d'.dir = false := e
          rw [hdir] at e'; cases e'
        · exact withE_sort k.sort fun y hy => inE_none.1 hnot y hy
        · rcases (mem_withE k.sort).1 he1 with rfl | he1
          · exact ⟨hn, (hi x).2 (.inl rfl)⟩
          · exact k.good e he1
        · show (withE d'.names (name, x)).length ≤ 32
          rw [withE_len hdok.sort]; omega
  · rw [hperm.nodup_iff, List.nodup_cons]; exact ⟨hxe, h.once⟩
  · rw [hperm.mem_iff, List.mem_cons]
    rintro (h1 | h1)
    · omega
    · exact h.noroot h1
  · rcases (hi n.ino).1 (mem_inos.2 ⟨n, hn1, rfl⟩) with h1 | h1
    · rw [h1]
      have hu := hund 1 d.ino (h.above d hd)
      exact Under.step (n := { d with chg := stampT t, names := withE d.names (name, x) }) (e := (name, x)) ((hmem _).2 (.inr (by rw [← hL]; exact mem_updN.2 (.inr ⟨d, hd, rfl, rfl⟩)))) ((mem_withE hdok.sort).2 (.inl rfl)) hu
    · obtain ⟨m, h2, h3⟩ := mem_inos.1 h1
      rw [← h3]
      exact hund 1 m.ino (h.above m h2)

end Go.Proofs.YtenpmbfncnepgaaDoor

/- Trees, plain: something removed, something renamed: they may be behind it. Of no program. -/
namespace Go.Proofs.YtenpmbfncnepgaaDoor
open Go.RowKit Go.Shelf
set_option linter.unusedVariables false
set_option maxRecDepth 100000
set_option linter.unusedSimpArgs false

theorem mem_outN_inos {l : List Nd} {x i : Nat} : i ∈ inosL (outN l x) ↔ i ∈ inosL l ∧ i ≠ x := by
  rw [mem_inos, mem_inos]
  constructor
  · rintro ⟨n, h1, rfl⟩
    obtain ⟨h2, h3⟩ := mem_outN.1 h1
    exact ⟨⟨n, h2, rfl⟩, h3⟩
  · rintro ⟨⟨n, h1, rfl⟩, h2⟩
    exact ⟨n, mem_outN.2 ⟨h1, h2⟩, rfl⟩
/-- the Ino of an entry is another's just once -/
theorem ents_one {l : List Nd} (h : ((entsL l).map (·.2)).Nodup) {n m : Nd} (hn : n ∈ l) (hm : m ∈ l) {e e' : Ent} (he : e ∈ n.names) (he' : e' ∈ m.names) (k : e.2 = e'.2) : e = e' := by
  have h1 := mem_ents.2 ⟨n, hn, he⟩
  have h2 := mem_ents.2 ⟨m, hm, he'⟩
  obtain ⟨a, b, hab⟩ := List.append_of_mem h1
  rw [hab] at h h2
  rw [List.map_append, List.map_cons, List.nodup_append] at h
  obtain ⟨_, h4, h5⟩ := h
  rw [List.nodup_cons] at h4
  simp only [List.mem_append, List.mem_cons] at h2
  rcases h2 with h2 | h2 | h2
  · exact absurd k.symm (h5 e'.2 (List.mem_map.2 ⟨e', h2, rfl⟩) e.2 (by simp))
  · exact h2.symm
  · exact absurd (by rw [k]; exact List.mem_map.2 ⟨e', h2, rfl⟩) h4.1
/-- .. so the directory is one, too -/
theorem ents_dir {l : List Nd} (hs : SortN l) (h : ((entsL l).map (·.2)).Nodup) {n m : Nd} (hn : n ∈ l) (hm : m ∈ l) {e e' : Ent} (he : e ∈ n.names) (he' : e' ∈ m.names) (k : e.2 = e'.2) : n = m := by
  obtain ⟨pre, post, rfl, h1, h2⟩ := sort_split hs hn
  rw [entsL_app, entsL_cons, List.map_append, List.map_append, List.nodup_append] at h
  obtain ⟨_, h4, h5⟩ := h
  rw [List.nodup_append] at h4
  simp only [List.mem_append, List.mem_cons] at hm
  have hx : e.2 ∈ n.names.map (·.2) := List.mem_map.2 ⟨e, he, rfl⟩
  rcases hm with hm | rfl | hm
  · exact absurd k.symm (h5 e'.2 (List.mem_map.2 ⟨e', mem_ents.2 ⟨m, hm, he'⟩, rfl⟩) e.2 (List.mem_append.2 (.inl hx)))
  · rfl
  · exact absurd k (h4.2.2 e.2 hx e'.2 (List.mem_map.2 ⟨e', mem_ents.2 ⟨m, hm, he'⟩, rfl⟩))
def removedT (t : Tr) (i : Nat) (name : Key) (x : Nat) : Tr :=
  { t with nodes := outN (updN t.nodes i fun m => { m with chg := stampT t, names := lessE m.names name }) x, count := t.count + 1 }
theorem may_removed {t : Tr} (h : MayT t) {d : Nd} (hd : d ∈ t.nodes) {name : Key} {x : Nat} (hx : (name, x) ∈ d.names) {m : Nd} (hm : m ∈ t.nodes) (hmx : m.ino = x) (hme : m.names = []) : MayT (removedT t d.ino name x) := by
  obtain ⟨L, hL⟩ : ∃ L, updN t.nodes d.ino (fun m => { m with chg := stampT t, names := lessE m.names name }) = L := ⟨_, rfl⟩
  have hnodes : (removedT t d.ino name x).nodes = outN L x := by unfold removedT; rw [hL]
  have hLs : SortN L := by rw [← hL]; exact updN_sort (by intro m; rfl) h.rise
  have hLi : inosL L = inosL t.nodes := by rw [← hL]; exact updN_inos _ (by intro m; rfl) _ _
  have hdok := h.ok d hd
  have hdm : d ≠ m := by rintro rfl; rw [hme] at hx; cases hx
  have hdx : d.ino ≠ x := fun e => hdm (sort_one h.rise hd hm (by rw [e, hmx]))
  have hx1 : x ≠ 1 := fun e => h.noroot (List.mem_map.2 ⟨(name, x), mem_ents.2 ⟨d, hd, hx⟩, e⟩)
  have hi : ∀ i, i ∈ inosL (removedT t d.ino name x).nodes ↔ i ∈ inosL t.nodes ∧ i ≠ x := fun i => by rw [hnodes, mem_outN_inos, hLi]
  have hmem : ∀ n, n ∈ (removedT t d.ino name x).nodes ↔ n ∈ L ∧ n.ino ≠ x := fun n => by rw [hnodes]; exact mem_outN
  have hxm : ∀ n ∈ L, n.ino = x → n.names = [] := fun n hn e => by
    rw [← hL] at hn
    rcases mem_updN.1 hn with ⟨h1, _⟩ | ⟨d', h1, h2, rfl⟩
    · rw [sort_one h.rise h1 hm (by rw [e, hmx]), hme]
    · exact absurd (h2.symm.trans e) hdx
  obtain ⟨A, C, e1, e2⟩ := updN_ents h.rise hd fun m => { m with chg := stampT t, names := lessE m.names name }
  rw [hL] at e2
  dsimp only at e2
  obtain ⟨a, b, e3, e4⟩ := lessE_at hdok.sort hx
  dsimp only at e4
  have he : entsL (removedT t d.ino name x).nodes = A ++ (a ++ b) ++ C := by rw [hnodes, outN_ents hxm, e2, e4]
  have hperm : ((entsL t.nodes).map (·.2)).Perm (x :: (entsL (removedT t d.ino name x).nodes).map (·.2)) := by
    rw [he, e1, e3]
    simp only [List.map_append, List.map_cons, List.append_assoc]
    refine (List.perm_middle (l₁ := A.map (·.2) ++ a.map (·.2)) (a := x) (l₂ := b.map (·.2) ++ C.map (·.2))).symm.symm.trans ?_ |> fun p => by simpa only [List.append_assoc, List.cons_append] using p
    simp only [List.append_assoc]
    exact List.Perm.refl _
  have hnd := hperm.nodup_iff.1 h.once
  rw [List.nodup_cons] at hnd
  have htop : topT t ≤ topT (removedT t d.ino name x) := by unfold topT removedT; dsimp only; omega
  have hstamp : stampT t ≤ topT (removedT t d.ino name x) := by unfold topT removedT stampT; dsimp only; omega
  have hund : ∀ y, Under t.nodes 1 y → y ≠ x → Under (removedT t d.ino name x).nodes 1 y := fun y hu => by
    induction hu with
    | here => exact fun _ => .here
    | @step n e hn he1 _ ih =>
      intro hy
      have hnx : n.ino ≠ x := fun k => by
        rw [sort_one h.rise hn hm (by rw [k, hmx]), hme] at he1
        cases he1
      have ih' := ih hnx
      by_cases k : n.ino = d.ino
      · obtain rfl := sort_one h.rise hn hd k
        refine Under.step (n := { n with chg := stampT t, names := lessE n.names name }) (e := e) ((hmem _).2 ⟨by rw [← hL]; exact mem_updN.2 (.inr ⟨n, hn, rfl, rfl⟩), hnx⟩) (mem_lessE.2 ⟨he1, fun k2 => hy ?_⟩) ih'
        rw [sortE_one hdok.sort he1 hx k2]
      · exact Under.step ((hmem _).2 ⟨by rw [← hL]; exact mem_updN.2 (.inl ⟨hn, k⟩), hnx⟩) he1 ih'
  refine ⟨h.boot1, h.boot2, h.last1, ?_, ?_, ?_, ?_, fun n hn1 => ?_, hnd.2, fun hh => h.noroot (hperm.mem_iff.2 (List.mem_cons.2 (.inr hh))), fun n hn1 => ?_⟩
  · obtain ⟨r, h1, h2, h3⟩ := root_upd (f := fun m => { m with chg := stampT t, names := lessE m.names name }) (i := d.ino) (by intro m; exact ⟨rfl, rfl, rfl⟩) h.root
    rw [hL] at h1
    exact ⟨r, (hmem _).2 ⟨h1, by rw [h2]; exact fun e => hx1 e.symm⟩, h2, h3⟩
  · rw [hnodes]
    have h1 : (outN L x).length ≤ L.length := List.length_filter_le _ _
    have h2 : L.length = t.nodes.length := by rw [← hL, updN_len]
    have := h.many
    omega
  · rw [hnodes]; exact hLs.filter _
  · rw [hnodes]
    have hg : L.Pairwise fun a b => a.gen ≠ b.gen := by rw [← hL]; exact updN_gens (by intro m; rfl) h.gens
    exact hg.filter _
  · obtain ⟨hn1, hnx⟩ := (hmem n).1 hn1
    have good : ∀ n' : Nd, (∀ e ∈ n'.names, e ∈ entsL (removedT t d.ino name x).nodes ∧ nameL e.1 = true ∧ e.2 ∈ inosL t.nodes) → ∀ e ∈ n'.names, nameL e.1 = true ∧ e.2 ∈ inosL (removedT t d.ino name x).nodes := fun n' hh e he1 => by
      obtain ⟨k1, k2, k3⟩ := hh e he1
      exact ⟨k2, (hi _).2 ⟨k3, fun k4 => hnd.1 (List.mem_map.2 ⟨e, k1, k4⟩)⟩⟩
    have hin : ∀ e ∈ n.names, e ∈ entsL (removedT t d.ino name x).nodes := fun e he1 => mem_ents.2 ⟨n, (hmem n).2 ⟨hn1, hnx⟩, he1⟩
    rw [← hL] at hn1
    rcases mem_updN.1 hn1 with ⟨h1, _⟩ | ⟨d', h1, h2, rfl⟩
    · have k := h.ok n h1
      exact ⟨k.pos, k.gen1, k.gen2, Nat.le_trans k.chg htop, k.size, k.isDir, k.file, k.sort, good n fun e he1 => ⟨hin e he1, k.good e he1⟩, k.many⟩
    · obtain rfl := sort_one h.rise h1 hd h2
      refine ⟨hdok.pos, hdok.gen1, hdok.gen2, hstamp, hdok.size, hdok.isDir, fun e => ?_, lessE_sort hdok.sort _, good _ fun e he1 => ⟨hin e he1, hdok.good e (mem_lessE.1 he1).1⟩, ?_⟩
      · show lessE d'.names name = []
        rw [hdok.file e]
        rfl
      · exact Nat.le_trans (List.length_filter_le _ _) hdok.many
  · obtain ⟨h1, h2⟩ := (hi n.ino).1 (mem_inos.2 ⟨n, hn1, rfl⟩)
    obtain ⟨p, h3, h4⟩ := mem_inos.1 h1
    rw [← h4]
    exact hund p.ino (h.above p h3) (by rw [h4]; exact h2)

end Go.Proofs.YtenpmbfncnepgaaDoor

/- Trees, plain: something renamed: they may be behind it. Of no program. -/
namespace Go.Proofs.YtenpmbfncnepgaaDoor
open Go.RowKit Go.Shelf
set_option linter.unusedVariables false
set_option maxRecDepth 100000
set_option linter.unusedSimpArgs false

/-- nodes of which one stands in no directory -/
structure Loose (l : List Nd) (lastGen top f : Nat) : Prop where
  root : ∃ r ∈ l, r.ino = 1 ∧ r.gen = 1 ∧ r.dir = true
  many : l.length ≤ 64
  rise : SortN l
  gens : l.Pairwise fun a b => a.gen ≠ b.gen
  ok : ∀ n ∈ l, NdOk l lastGen top n
  once : ((entsL l).map (·.2)).Nodup
  noroot : 1 ∉ (entsL l).map (·.2)
  off : f ∉ (entsL l).map (·.2)
  above : ∀ n ∈ l, Under l 1 n.ino ∨ Under l f n.ino
def lessF (st : Nat) (nm : Key) (m : Nd) : Nd := { m with chg := st, names := lessE m.names nm }
def withF (st : Nat) (e : Ent) (m : Nd) : Nd := { m with chg := st, names := withE m.names e }
theorem upd_ok {l l' : List Nd} {f : Nd → Nd} {i lg top : Nat} (hs : SortN l) (hl : ∀ n ∈ l, n.ino ≠ i → NdOk l' lg top n) (hd : ∀ d ∈ l, d.ino = i → NdOk l' lg top (f d)) : ∀ n ∈ updN l i f, NdOk l' lg top n := fun n hn => by
  rcases mem_updN.1 hn with ⟨h1, h2⟩ | ⟨d, h1, h2, rfl⟩
  · exact hl n h1 h2
  · exact hd d h1 h2
theorem less_perm {l : List Nd} (hs : SortN l) {d : Nd} (hd : d ∈ l) (hso : SortE d.names) {nm : Key} {x : Nat} (hx : (nm, x) ∈ d.names) (st : Nat) : ((entsL l).map (·.2)).Perm (x :: (entsL (updN l d.ino (lessF st nm))).map (·.2)) := by
  obtain ⟨A, C, e1, e2⟩ := updN_ents hs hd (lessF st nm)
  obtain ⟨a, b, e3, e4⟩ := lessE_at hso hx
  dsimp only at e4
  rw [e2, show (lessF st nm d).names = lessE d.names nm from rfl, e4, e1, e3]
  simp only [List.map_append, List.map_cons, List.append_assoc]
  refine (List.perm_middle (l₁ := A.map (·.2) ++ a.map (·.2)) (a := x) (l₂ := b.map (·.2) ++ C.map (·.2))).symm.symm.trans ?_ |> fun p => by simpa only [List.append_assoc, List.cons_append] using p
  simp only [List.append_assoc]
  exact List.Perm.refl _
theorem with_perm {l : List Nd} (hs : SortN l) {d : Nd} (hd : d ∈ l) (hso : SortE d.names) (nm : Key) (x : Nat) (st : Nat) : ((entsL (updN l d.ino (withF st (nm, x)))).map (·.2)).Perm (x :: (entsL l).map (·.2)) := by
  obtain ⟨A, C, e1, e2⟩ := updN_ents hs hd (withF st (nm, x))
  obtain ⟨a, b, e3, e4⟩ := withE_at hso (nm, x)
  rw [e2, show (withF st (nm, x) d).names = withE d.names (nm, x) from rfl, e4, e1, e3]
  simp only [List.map_append, List.map_cons, List.append_assoc]
  refine (List.perm_middle (l₁ := A.map (·.2) ++ a.map (·.2)) (a := x) (l₂ := b.map (·.2) ++ C.map (·.2))).symm.symm.trans ?_ |> fun p => by simpa only [List.append_assoc, List.cons_append] using p
  simp only [List.append_assoc]
  exact List.Perm.refl _
/-- what is taken out of its directory is loose -/
theorem detach {t : Tr} (h : MayT t) {d : Nd} (hd : d ∈ t.nodes) {nm : Key} {f : Nat} (hf : (nm, f) ∈ d.names) {st top : Nat} (hst : st ≤ top) (htop : topT t ≤ top) :
    Loose (updN t.nodes d.ino (lessF st nm)) t.lastGen top f ∧ ∀ y, Under t.nodes 1 y → ¬ Under t.nodes f y → Under (updN t.nodes d.ino (lessF st nm)) 1 y := by
  have hdok := h.ok d hd
  have hp := less_perm h.rise hd hdok.sort hf st
  have hnd := hp.nodup_iff.1 h.once
  rw [List.nodup_cons] at hnd
  have hi : inosL (updN t.nodes d.ino (lessF st nm)) = inosL t.nodes := updN_inos _ (by intro m; rfl) _ _
  have keep : ∀ n ∈ t.nodes, ∀ e ∈ n.names, e.2 ≠ f → ∃ n' ∈ updN t.nodes d.ino (lessF st nm), n'.ino = n.ino ∧ e ∈ n'.names := fun n hn e he hne => by
    by_cases k : n.ino = d.ino
    · obtain rfl := sort_one h.rise hn hd k
      refine ⟨lessF st nm n, mem_updN.2 (.inr ⟨n, hn, rfl, rfl⟩), rfl, mem_lessE.2 ⟨he, fun k2 => hne ?_⟩⟩
      rw [sortE_one hdok.sort he hf k2]
    · exact ⟨n, mem_updN.2 (.inl ⟨hn, k⟩), rfl, he⟩
  have up1 : ∀ y, Under t.nodes 1 y → Under (updN t.nodes d.ino (lessF st nm)) 1 y ∨ Under (updN t.nodes d.ino (lessF st nm)) f y := fun y hu => by
    induction hu with
    | here => exact .inl .here
    | @step n e hn he _ ih =>
      by_cases hne : e.2 = f
      · rw [hne]; exact .inr .here
      · obtain ⟨n', k1, k2, k3⟩ := keep n hn e he hne
        rw [← k2] at ih
        rcases ih with ih | ih
        · exact .inl (.step k1 k3 ih)
        · exact .inr (.step k1 k3 ih)
  refine ⟨⟨root_upd (by intro m; exact ⟨rfl, rfl, rfl⟩) h.root, by rw [updN_len]; exact h.many, updN_sort (by intro m; rfl) h.rise, updN_gens (by intro m; rfl) h.gens, ?_, hnd.2, fun hh => h.noroot (hp.mem_iff.2 (List.mem_cons.2 (.inr hh))), hnd.1, fun n hn => ?_⟩, fun y hu => ?_⟩
  · refine upd_ok h.rise (fun n hn _ => (h.ok n hn).mono (fun i hh => by rw [hi]; exact hh) (Nat.le_refl _) htop) fun d' hd' e => ?_
    obtain rfl := sort_one h.rise hd' hd e
    have k := hdok.mono (l' := updN t.nodes d'.ino (lessF st nm)) (fun i hh => by rw [hi]; exact hh) (Nat.le_refl _) htop
    refine ⟨k.pos, k.gen1, k.gen2, hst, k.size, k.isDir, fun e => ?_, lessE_sort k.sort _, fun e he => k.good e (mem_lessE.1 he).1, Nat.le_trans (List.length_filter_le _ _) k.many⟩
    show lessE d'.names nm = []
    rw [hdok.file e]
    rfl
  · have h1 : n.ino ∈ inosL t.nodes := by rw [← hi]; exact mem_inos.2 ⟨n, hn, rfl⟩
    obtain ⟨p, h2, h3⟩ := mem_inos.1 h1
    rw [← h3]
    exact up1 _ (h.above p h2)
  · induction hu with
    | here => exact fun _ => .here
    | @step n e hn he _ ih =>
      intro hno
      have hne : e.2 ≠ f := fun k => hno (by rw [k]; exact .here)
      obtain ⟨n', k1, k2, k3⟩ := keep n hn e he hne
      have := ih fun k => hno (.step hn he k)
      rw [← k2] at this
      exact .step k1 k3 this
/-- .. and may lose what is empty -/
theorem drop {l : List Nd} {lg top f : Nat} (h : Loose l lg top f) {d : Nd} (hd : d ∈ l) {nm : Key} {x : Nat} (hx : (nm, x) ∈ d.names) {m : Nd} (hm : m ∈ l) (hmx : m.ino = x) (hme : m.names = []) {st : Nat} (hst : st ≤ top) :
    Loose (outN (updN l d.ino (lessF st nm)) x) lg top f ∧ (∀ y, Under l 1 y → y ≠ x → Under (outN (updN l d.ino (lessF st nm)) x) 1 y) ∧ d.ino ≠ x ∧ f ≠ x := by
  have hdok := h.ok d hd
  have hp := less_perm h.rise hd hdok.sort hx st
  have hnd := hp.nodup_iff.1 h.once
  rw [List.nodup_cons] at hnd
  have hdm : d ≠ m := by rintro rfl; rw [hme] at hx; cases hx
  have hdx : d.ino ≠ x := fun e => hdm (sort_one h.rise hd hm (by rw [e, hmx]))
  have hxin : x ∈ (entsL l).map (·.2) := List.mem_map.2 ⟨(nm, x), mem_ents.2 ⟨d, hd, hx⟩, rfl⟩
  have hx1 : x ≠ 1 := fun e => h.noroot (by rw [← e]; exact hxin)
  have hfx : f ≠ x := fun e => h.off (by rw [e]; exact hxin)
  have hi : ∀ i, i ∈ inosL (outN (updN l d.ino (lessF st nm)) x) ↔ i ∈ inosL l ∧ i ≠ x := fun i => by rw [mem_outN_inos, updN_inos _ (by intro m; rfl)]
  have hxm : ∀ n ∈ updN l d.ino (lessF st nm), n.ino = x → n.names = [] := fun n hn e => by
    rcases mem_updN.1 hn with ⟨h1, _⟩ | ⟨d', h1, h2, rfl⟩
    · rw [sort_one h.rise h1 hm (by rw [e, hmx]), hme]
    · exact absurd (h2.symm.trans e) hdx
  have he := outN_ents hxm
  have keep : ∀ n ∈ l, ∀ e ∈ n.names, e.2 ≠ x → n.ino ≠ x ∧ ∃ n' ∈ outN (updN l d.ino (lessF st nm)) x, n'.ino = n.ino ∧ e ∈ n'.names := fun n hn e he1 hne => by
    have hnx : n.ino ≠ x := fun k => by
      rw [sort_one h.rise hn hm (by rw [k, hmx]), hme] at he1
      cases he1
    refine ⟨hnx, ?_⟩
    by_cases k : n.ino = d.ino
    · obtain rfl := sort_one h.rise hn hd k
      refine ⟨lessF st nm n, mem_outN.2 ⟨mem_updN.2 (.inr ⟨n, hn, rfl, rfl⟩), hnx⟩, rfl, mem_lessE.2 ⟨he1, fun k2 => hne ?_⟩⟩
      rw [sortE_one hdok.sort he1 hx k2]
    · exact ⟨n, mem_outN.2 ⟨mem_updN.2 (.inl ⟨hn, k⟩), hnx⟩, rfl, he1⟩
  have und : ∀ g y, Under l g y → y ≠ x → Under (outN (updN l d.ino (lessF st nm)) x) g y := fun g y hu => by
    induction hu with
    | here => exact fun _ => .here
    | @step n e hn he1 _ ih =>
      intro hy
      obtain ⟨hnx, n', k1, k2, k3⟩ := keep n hn e he1 hy
      have := ih hnx
      rw [← k2] at this
      exact .step k1 k3 this
  refine ⟨⟨?_, ?_, (updN_sort (by intro m; rfl) h.rise).filter _, (updN_gens (by intro m; rfl) h.gens).filter _, fun n hn => ?_, by rw [he]; exact hnd.2, by rw [he]; exact fun hh => h.noroot (hp.mem_iff.2 (List.mem_cons.2 (.inr hh))), by rw [he]; exact fun hh => h.off (hp.mem_iff.2 (List.mem_cons.2 (.inr hh))), fun n hn => ?_⟩, fun y => und 1 y, hdx, hfx⟩
  · obtain ⟨r, h1, h2, h3⟩ := root_upd (f := lessF st nm) (i := d.ino) (by intro m; exact ⟨rfl, rfl, rfl⟩) h.root
    exact ⟨r, mem_outN.2 ⟨h1, by rw [h2]; exact fun e => hx1 e.symm⟩, h2, h3⟩
  · have h1 : (outN (updN l d.ino (lessF st nm)) x).length ≤ (updN l d.ino (lessF st nm)).length := List.length_filter_le _ _
    rw [updN_len] at h1
    exact Nat.le_trans h1 h.many
  · obtain ⟨hn1, hnx⟩ := mem_outN.1 hn
    have good : ∀ e ∈ n.names, e.2 ∈ inosL l → e.2 ∈ inosL (outN (updN l d.ino (lessF st nm)) x) := fun e he1 k => (hi _).2 ⟨k, fun k4 => hnd.1 (by
      rw [← he]
      exact List.mem_map.2 ⟨e, mem_ents.2 ⟨n, hn, he1⟩, k4⟩)⟩
    rcases mem_updN.1 hn1 with ⟨h1, _⟩ | ⟨d', h1, h2, rfl⟩
    · have k := h.ok n h1
      exact ⟨k.pos, k.gen1, k.gen2, k.chg, k.size, k.isDir, k.file, k.sort, fun e he1 => ⟨(k.good e he1).1, good e he1 (k.good e he1).2⟩, k.many⟩
    · obtain rfl := sort_one h.rise h1 hd h2
      refine ⟨hdok.pos, hdok.gen1, hdok.gen2, hst, hdok.size, hdok.isDir, fun e => ?_, lessE_sort hdok.sort _, fun e he1 => ⟨(hdok.good e (mem_lessE.1 he1).1).1, good e he1 (hdok.good e (mem_lessE.1 he1).1).2⟩, Nat.le_trans (List.length_filter_le _ _) hdok.many⟩
      show lessE d'.names nm = []
      rw [hdok.file e]
      rfl
  · obtain ⟨h1, h2⟩ := (hi n.ino).1 (mem_inos.2 ⟨n, hn, rfl⟩)
    obtain ⟨p, h3, h4⟩ := mem_inos.1 h1
    rw [← h4]
    rcases h.above p h3 with k | k
    · exact .inl (und 1 _ k (by rw [h4]; exact h2))
    · exact .inr (und f _ k (by rw [h4]; exact h2))
/-- .. and is put under another name -/
theorem attach {l : List Nd} {lg top f : Nat} (h : Loose l lg top f) {d : Nd} (hd : d ∈ l) (hdir : d.dir = true) {nm : Key} (hnm : nameL nm = true) (hno : inE d.names nm = none) (hk : d.names.length < 32) (hf : f ∈ inosL l) (hf1 : f ≠ 1) (hu : Under l 1 d.ino) {st : Nat} (hst : st ≤ top) (t : Tr) (ht : t.nodes = updN l d.ino (withF st (nm, f))) (hlg : t.lastGen = lg) (htop : topT t = top) (hb : 1 ≤ t.boot ∧ t.boot ≤ 2147483648 ∧ 1 ≤ t.lastGen) : MayT t := by
  have hdok := h.ok d hd
  have hp := with_perm h.rise hd hdok.sort nm f st
  have hi : inosL (updN l d.ino (withF st (nm, f))) = inosL l := updN_inos _ (by intro m; rfl) _ _
  have und : ∀ g y, Under l g y → Under (updN l d.ino (withF st (nm, f))) g y := fun g y hy => hy.mono fun n hn e he => by
    by_cases k : n.ino = d.ino
    · obtain rfl := sort_one h.rise hn hd k
      exact ⟨withF st (nm, f) n, mem_updN.2 (.inr ⟨n, hn, rfl, rfl⟩), rfl, (mem_withE hdok.sort).2 (.inr he)⟩
    · exact ⟨n, mem_updN.2 (.inl ⟨hn, k⟩), rfl, he⟩
  have hu1 : Under (updN l d.ino (withF st (nm, f))) 1 f := Under.step (n := withF st (nm, f) d) (e := (nm, f)) (mem_updN.2 (.inr ⟨d, hd, rfl, rfl⟩)) ((mem_withE hdok.sort).2 (.inl rfl)) (und 1 d.ino hu)
  refine ⟨hb.1, hb.2.1, hb.2.2, ?_, ?_, ?_, ?_, ?_, ?_, ?_, ?_⟩
  · rw [ht]; exact root_upd (by intro m; exact ⟨rfl, rfl, rfl⟩) h.root
  · rw [ht, updN_len]; exact h.many
  · rw [ht]; exact updN_sort (by intro m; rfl) h.rise
  · rw [ht]; exact updN_gens (by intro m; rfl) h.gens
  · rw [hlg, htop, ht]
    refine upd_ok h.rise (fun n hn _ => (h.ok n hn).mono (fun i hh => by rw [hi]; exact hh) (Nat.le_refl _) (Nat.le_refl _)) fun d' hd' e => ?_
    obtain rfl := sort_one h.rise hd' hd e
    have k := hdok.mono (l' := updN l d'.ino (withF st (nm, f))) (fun i hh => by rw [hi]; exact hh) (Nat.le_refl _) (Nat.le_refl _)
    refine ⟨k.pos, k.gen1, k.gen2, hst, k.size, k.isDir, fun e => ?_, withE_sort k.sort fun y hy => inE_none.1 hno y hy, fun e he => ?_, ?_⟩
    · have e' : d'.dir = false := e
      rw [hdir] at e'; cases e'
    · rcases (mem_withE k.sort).1 he with rfl | he
      · exact ⟨hnm, by rw [hi]; exact hf⟩
      · exact k.good e he
    · show (withE d'.names (nm, f)).length ≤ 32
      rw [withE_len hdok.sort]; omega
  · rw [ht, hp.nodup_iff, List.nodup_cons]; exact ⟨h.off, h.once⟩
  · rw [ht, hp.mem_iff, List.mem_cons]
    rintro (h1 | h1)
    · exact hf1 h1.symm
    · exact h.noroot h1
  · rw [ht]
    intro n hn
    have h1 : n.ino ∈ inosL l := by rw [← hi]; exact mem_inos.2 ⟨n, hn, rfl⟩
    obtain ⟨p, h2, h3⟩ := mem_inos.1 h1
    rw [← h3]
    rcases h.above p h2 with k | k
    · exact und 1 _ k
    · exact hu1.trans (und f _ k)

end Go.Proofs.YtenpmbfncnepgaaDoor

/- Trees, plain: the ops, as the document has them, and what follows. Of no program. -/
namespace Go.Proofs.YtenpmbfncnepgaaDoor
open Go.RowKit Go.Shelf
set_option linter.unusedVariables false
set_option maxRecDepth 100000
set_option linter.unusedSimpArgs false

theorem updN_congr {l : List Nd} {i : Nat} {f g : Nd → Nd} (h : ∀ m ∈ l, m.ino = i → f m = g m) : updN l i f = updN l i g := by
  unfold updN
  refine List.map_congr_left fun m hm => ?_
  split
  · rename_i e; exact h m hm e
  · rfl
theorem updN_twice {l : List Nd} {i : Nat} {f g : Nd → Nd} (hf : ∀ m, (f m).ino = m.ino) : updN (updN l i f) i g = updN l i fun m => g (f m) := by
  unfold updN
  rw [List.map_map]
  refine List.map_congr_left fun m hm => ?_
  show (if (if m.ino = i then f m else m).ino = i then g (if m.ino = i then f m else m) else (if m.ino = i then f m else m)) = _
  by_cases e : m.ino = i
  · simp only [e, if_true, hf]
  · simp only [e, if_false]
theorem updN_out {l : List Nd} {i x : Nat} {g : Nd → Nd} (hg : ∀ m, (g m).ino = m.ino) : outN (updN l i g) x = updN (outN l x) i g := by
  unfold outN updN
  rw [List.filter_map]
  congr 1
  refine List.filter_congr fun m _ => ?_
  show (!((if m.ino = i then g m else m).ino == x)) = !(m.ino == x)
  split
  · rw [hg]
  · rfl
theorem inE_less {l : List Ent} (hs : SortE l) {nm k : Key} (h : nm ≠ k) : inE (lessE l nm) k = inE l k := by
  cases e : inE l k with
  | none => exact inE_none.2 fun y hy => inE_none.1 e y (mem_lessE.1 hy).1
  | some i => exact (inE_some (lessE_sort hs nm)).2 (mem_lessE.2 ⟨(inE_some hs).1 e, fun k2 => h k2.symm⟩)
theorem inE_gone {l : List Ent} (k : Key) : inE (lessE l k) k = none := inE_none.2 fun y hy => (mem_lessE.1 hy).2
def outO (l : List Nd) : Option Nat → List Nd
  | none => l
  | some x => outN l x
def renamedT (t : Tr) (i : Nat) (nm : Key) (j : Nat) (k : Key) (f : Nat) (xo : Option Nat) : Tr :=
  { t with nodes := outO (updN (updN t.nodes i (lessF (stampT t) nm)) j fun m => withF (stampT t) (k, f) (lessF (stampT t) k m)) xo, count := t.count + 1 }
theorem may_renamed {t : Tr} (h : MayT t) {d1 d2 : Nd} (hd1 : d1 ∈ t.nodes) (hd2 : d2 ∈ t.nodes) (hdir : d2.dir = true) {nm k : Key} {f : Nat} (hf : (nm, f) ∈ d1.names) (hk : nameL k = true) {xo : Option Nat} (hxo : inE d2.names k = xo) (hne : xo ≠ some f)
    (hem : ∀ x, xo = some x → ∃ m ∈ t.nodes, m.ino = x ∧ m.names = []) (hno : ¬ Under t.nodes f d2.ino) (hl : xo = none → d1.ino ≠ d2.ino → d2.names.length < 32) : MayT (renamedT t d1.ino nm d2.ino k f xo) := by
  obtain ⟨st, hst⟩ : ∃ st, stampT t = st := ⟨_, rfl⟩
  obtain ⟨top, htop⟩ : ∃ top, topT (renamedT t d1.ino nm d2.ino k f xo) = top := ⟨_, rfl⟩
  have h1 : st ≤ top := by rw [← hst, ← htop]; exact Nat.le_of_eq rfl
  have h2 : topT t ≤ top := by rw [← htop]; unfold topT renamedT; dsimp only; omega
  obtain ⟨hL, hup⟩ := detach h hd1 hf h1 h2
  have hu := hup d2.ino (h.above d2 hd2) hno
  have hd1ok := h.ok d1 hd1
  have hd2ok := h.ok d2 hd2
  have hfin : f ∈ inosL t.nodes := (hd1ok.good _ hf).2
  have hf1 : f ≠ 1 := fun e => h.noroot (List.mem_map.2 ⟨(nm, f), mem_ents.2 ⟨d1, hd1, hf⟩, e⟩)
  have hLi : inosL (updN t.nodes d1.ino (lessF st nm)) = inosL t.nodes := updN_inos _ (by intro m; rfl) _ _
  obtain ⟨d, hd, hdi, hdd, hdx, hdl⟩ : ∃ d ∈ updN t.nodes d1.ino (lessF st nm), d.ino = d2.ino ∧ d.dir = true ∧ inE d.names k = xo ∧ (xo = none → d.names.length < 32) := by
    by_cases e : d2.ino = d1.ino
    · obtain rfl := sort_one h.rise hd2 hd1 e
      have hnk : nm ≠ k := fun e2 => hne (by rw [← hxo, ← e2]; exact (inE_some hd2ok.sort).2 hf)
      refine ⟨lessF st nm d2, mem_updN.2 (.inr ⟨d2, hd2, rfl, rfl⟩), rfl, hdir, by rw [← hxo]; exact inE_less hd2ok.sort hnk, fun _ => ?_⟩
      have k1 := lessE_len hd2ok.sort hf
      have k2 := hd2ok.many
      show (lessE d2.names nm).length < 32
      dsimp only at k1
      omega
    · exact ⟨d2, mem_updN.2 (.inl ⟨hd2, e⟩), rfl, hdir, hxo, fun hx => hl hx fun e2 => e e2.symm⟩
  have hb : 1 ≤ (renamedT t d1.ino nm d2.ino k f xo).boot ∧ (renamedT t d1.ino nm d2.ino k f xo).boot ≤ 2147483648 ∧ 1 ≤ (renamedT t d1.ino nm d2.ino k f xo).lastGen := ⟨h.boot1, h.boot2, h.last1⟩
  cases xo with
  | none =>
    refine attach hL hd hdd hk hdx (hdl rfl) (by rw [hLi]; exact hfin) hf1 (by rw [hdi]; exact hu) h1 _ ?_ rfl htop hb
    show updN (updN t.nodes d1.ino (lessF (stampT t) nm)) d2.ino _ = _
    rw [hst, hdi]
    refine updN_congr fun m hm e => ?_
    obtain rfl := sort_one hL.rise hm hd (by rw [e, hdi])
    unfold withF lessF
    dsimp only
    rw [lessE_none hdx]
  | some x =>
    obtain ⟨m, hm, hmx, hme⟩ := hem x rfl
    have hm1 : m ∈ updN t.nodes d1.ino (lessF st nm) := mem_updN.2 (.inl ⟨hm, fun e => by
      rw [sort_one h.rise hm hd1 e] at hme
      rw [hme] at hf
      cases hf⟩)
    have hdok := hL.ok d hd
    have hxd : (k, x) ∈ d.names := (inE_some hdok.sort).1 hdx
    obtain ⟨hL2, hup2, hdx2, hfx⟩ := drop hL hd hxd hm1 hmx hme h1
    have hd3 : lessF st k d ∈ outN (updN (updN t.nodes d1.ino (lessF st nm)) d.ino (lessF st k)) x := mem_outN.2 ⟨mem_updN.2 (.inr ⟨d, hd, rfl, rfl⟩), hdx2⟩
    refine attach hL2 hd3 hdd hk (inE_gone k) ?_ ?_ hf1 (hup2 _ (by show Under _ 1 d.ino; rw [hdi]; exact hu) hdx2) h1 _ ?_ rfl htop hb
    · have k1 := lessE_len hdok.sort hxd
      have k2 := hdok.many
      show (lessE d.names k).length < 32
      dsimp only at k1
      omega
    · rw [mem_outN_inos, updN_inos _ (by intro m; rfl), hLi]
      exact ⟨hfin, hfx⟩
    · show outN (updN (updN t.nodes d1.ino (lessF (stampT t) nm)) d2.ino _) x = updN (outN (updN (updN t.nodes d1.ino (lessF st nm)) d.ino (lessF st k)) x) (lessF st k d).ino (withF st (k, f))
      rw [hst, show (lessF st k d).ino = d2.ino from hdi, hdi, ← updN_out (by intro m; rfl), updN_twice (by intro m; rfl)]

end Go.Proofs.YtenpmbfncnepgaaDoor

/- Trees, plain: the ops with their statuses; a step of a play. Of no program. -/
namespace Go.Proofs.YtenpmbfncnepgaaDoor
open Go.RowKit Go.Shelf
set_option linter.unusedVariables false
set_option maxRecDepth 100000
set_option linter.unusedSimpArgs false

def padB (l : List UInt8) (n : Nat) : List UInt8 := l ++ List.replicate (n - l.length) 0
def putB (l : List UInt8) (off : Nat) (d : List UInt8) : List UInt8 := (padB l (off + d.length)).take off ++ d ++ (padB l (off + d.length)).drop (off + d.length)
def resB (l : List UInt8) (n : Nat) : List UInt8 := (padB l n).take n
theorem padB_len (l : List UInt8) (n : Nat) : (padB l n).length = max l.length n := by
  unfold padB
  rw [List.length_append, List.length_replicate]
  omega
theorem putB_len (l : List UInt8) (off : Nat) (d : List UInt8) : (putB l off d).length = max l.length (off + d.length) := by
  unfold putB
  rw [List.length_append, List.length_append, List.length_take, List.length_drop, padB_len]
  omega
theorem resB_len (l : List UInt8) (n : Nat) : (resB l n).length = n := by
  unfold resB
  rw [List.length_take, padB_len]
  omega
open Classical in
noncomputable def makeT (t : Tr) (h : Nat × Nat) (nm : Key) (dir : Bool) : Tr × Nd × Nat :=
  if MayT t then
    match findT t.nodes h with
    | none => (t, nd0, 1)
    | some d =>
      if d.dir = false then (t, nd0, 4) else
      if nameL nm = false then (t, nd0, 8) else
      if (inE d.names nm).isSome then (t, nd0, 3) else
      if 64 ≤ t.nodes.length ∨ 32 ≤ d.names.length ∨ 2147483648 ≤ t.lastGen ∨ 2147483648 ≤ t.count then (t, nd0, 7) else (madeT t h.1 nm dir, newN t dir, 0)
  else (t, nd0, 8)
/-- may a node be removed? its status -/
def goneS (m : Nd) (dir : Bool) : Nat := if m.dir && !dir then 5 else if !m.dir && dir then 4 else if m.names ≠ [] then 6 else 0
open Classical in
noncomputable def removeT (t : Tr) (h : Nat × Nat) (nm : Key) (dir : Bool) : Tr × Nat :=
  if MayT t then
    match findT t.nodes h with
    | none => (t, 1)
    | some d =>
      if d.dir = false then (t, 4) else
      if nameL nm = false then (t, 8) else
      match inE d.names nm with
      | none => (t, 2)
      | some x =>
        match nodeT t.nodes x with
        | none => (t, 2)
        | some m => if goneS m dir ≠ 0 then (t, goneS m dir) else if 2147483648 ≤ t.count then (t, 7) else (removedT t h.1 nm x, 0)
  else (t, 8)
/-- may a node go where another one is? its status -/
def ontoS (l : List Nd) (a : Nd) (f : Nat) (xo : Option Nat) : Nat :=
  match xo with
  | none => 0
  | some x => if x = f then 0 else
    match nodeT l x with
    | none => 2
    | some b => if a.dir && !b.dir then 4 else if !a.dir && b.dir then 5 else if b.names ≠ [] then 6 else 0
open Classical in
noncomputable def renameT (t : Tr) (h : Nat × Nat) (nm : Key) (to : Nat × Nat) (k : Key) : Tr × Nat :=
  if MayT t then
    match findT t.nodes h, findT t.nodes to with
    | some d1, some d2 =>
      if d1.dir = false ∨ d2.dir = false then (t, 4) else
      if nameL nm = false ∨ nameL k = false then (t, 8) else
      match inE d1.names nm with
      | none => (t, 2)
      | some f =>
        match nodeT t.nodes f with
        | none => (t, 2)
        | some a =>
          if ontoS t.nodes a f (inE d2.names k) ≠ 0 then (t, ontoS t.nodes a f (inE d2.names k)) else
          if inE d2.names k = some f then (t, 0) else
          if a.dir = true ∧ Under t.nodes f to.1 then (t, 9) else
          if (inE d2.names k = none ∧ h.1 ≠ to.1 ∧ 32 ≤ d2.names.length) ∨ 2147483648 ≤ t.count then (t, 7) else (renamedT t h.1 nm to.1 k f (inE d2.names k), 0)
    | _, _ => (t, 1)
  else (t, 8)
open Classical in
noncomputable def writeT (t : Tr) (h : Nat × Nat) (off : Nat) (b : List UInt8) : Tr × Nat :=
  if MayT t then
    match findT t.nodes h with
    | none => (t, 1)
    | some d =>
      if d.dir = true then (t, 5) else
      if b = [] ∨ 64 < b.length ∨ 4096 < off + b.length then (t, 8) else
      if 2147483648 ≤ t.count then (t, 7) else (dataT t h.1 fun l => putB l off b, 0)
  else (t, 8)
open Classical in
noncomputable def resizeT (t : Tr) (h : Nat × Nat) (n : Nat) : Tr × Nat :=
  if MayT t then
    match findT t.nodes h with
    | none => (t, 1)
    | some d =>
      if d.dir = true then (t, 5) else
      if 4096 < n then (t, 8) else
      if 2147483648 ≤ t.count then (t, 7) else (dataT t h.1 fun l => resB l n, 0)
  else (t, 8)
/-- what a step of a play holds -/
structure StepOk (t x : Tr) (s : Nat) : Prop where
  may : MayT x
  bad : s ≠ 0 → x = t
  count : x.count = t.count ∨ x.count = t.count + 1
  boot : x.boot = t.boot
  nodes : ∀ n ∈ x.nodes, n ∈ t.nodes ∨ (x.count = t.count + 1 ∧ n.chg = topT x)
theorem StepOk.stay {t : Tr} (h : MayT t) (s : Nat) : StepOk t t s := ⟨h, fun _ => rfl, .inl rfl, rfl, fun n hn => .inl hn⟩
theorem upd_nodes {t : Tr} {l : List Nd} {i : Nat} {f : Nd → Nd} {c : Nat} (hf : ∀ m, (f m).chg = c) (h : ∀ n ∈ l, n ∈ t.nodes ∨ n.chg = c) : ∀ n ∈ updN l i f, n ∈ t.nodes ∨ n.chg = c := fun n hn => by
  rcases mem_updN.1 hn with ⟨h1, _⟩ | ⟨d, _, _, rfl⟩
  · exact h n h1
  · exact .inr (hf d)
theorem step_data {t : Tr} (h : MayT t) {d : Nd} (hd : d ∈ t.nodes) (hf : d.dir = false) {g : List UInt8 → List UInt8} (hg : (g d.data).length ≤ 4096) : StepOk t (dataT t d.ino g) 0 :=
  ⟨may_data h hd hf hg, fun e => absurd rfl e, .inr rfl, rfl, fun n hn => (upd_nodes (c := stampT t) (by intro m; rfl) (fun n hn => .inl hn) n hn).imp id fun e => ⟨rfl, e⟩⟩
theorem step_make {t : Tr} (h : MayT t) (hd : Nat × Nat) (nm : Key) (dir : Bool) : StepOk t (makeT t hd nm dir).1 (makeT t hd nm dir).2.2 := by
  unfold makeT
  rw [if_pos h]
  cases e : findT t.nodes hd with
  | none => exact StepOk.stay h _
  | some d =>
    obtain ⟨h1, h2, h3⟩ := (findT_some h.rise).1 e
    dsimp only
    split
    · exact StepOk.stay h _
    split
    · exact StepOk.stay h _
    split
    · exact StepOk.stay h _
    split
    · exact StepOk.stay h _
    · rename_i k1 k2 k3 k4
      have k3' : inE d.names nm = none := by simpa using k3
      have hm : MayT (madeT t hd.1 nm dir) := by rw [← h2]; exact may_made h h1 (by simpa using k1) (by simpa using k2) k3' (by omega) (by omega) dir
      refine ⟨hm, fun e => absurd rfl e, .inr rfl, rfl, fun n hn => ?_⟩
      have hn' : n ∈ insN (updN t.nodes hd.1 fun m => { m with chg := stampT t, names := withE m.names (nm, freeI t.nodes) }) (newN t dir) := hn
      rcases (mem_insN (updN_sort (by intro m; rfl) h.rise)).1 hn' with rfl | hn'
      · exact .inr ⟨rfl, rfl⟩
      · exact (upd_nodes (c := stampT t) (by intro m; rfl) (fun n hn => .inl hn) n hn').imp id fun e => ⟨rfl, e⟩
theorem goneS_0 {m : Nd} {dir : Bool} (h : goneS m dir = 0) : m.names = [] := by
  unfold goneS at h
  split at h
  · cases h
  split at h
  · cases h
  split at h
  · cases h
  · rename_i k; simpa using k
theorem step_remove {t : Tr} (h : MayT t) (hd : Nat × Nat) (nm : Key) (dir : Bool) : StepOk t (removeT t hd nm dir).1 (removeT t hd nm dir).2 := by
  unfold removeT
  rw [if_pos h]
  cases e : findT t.nodes hd with
  | none => exact StepOk.stay h _
  | some d =>
    obtain ⟨h1, h2, h3⟩ := (findT_some h.rise).1 e
    dsimp only
    split
    · exact StepOk.stay h _
    split
    · exact StepOk.stay h _
    cases e2 : inE d.names nm with
    | none => exact StepOk.stay h _
    | some x =>
      dsimp only
      cases e3 : nodeT t.nodes x with
      | none => exact StepOk.stay h _
      | some m =>
        dsimp only
        split
        · exact StepOk.stay h _
        split
        · exact StepOk.stay h _
        · rename_i k1 k2
          obtain ⟨k3, k4⟩ := (nodeT_some h.rise).1 e3
          have hx := (inE_some (h.ok d h1).sort).1 e2
          have hm : MayT (removedT t hd.1 nm x) := by rw [← h2]; exact may_removed h h1 hx k3 k4 (goneS_0 (by simpa using k1))
          refine ⟨hm, fun e => absurd rfl e, .inr rfl, rfl, fun n hn => ?_⟩
          have hn' : n ∈ outN (updN t.nodes hd.1 fun m => { m with chg := stampT t, names := lessE m.names nm }) x := hn
          exact (upd_nodes (c := stampT t) (by intro m; rfl) (fun n hn => .inl hn) n (mem_outN.1 hn').1).imp id fun e => ⟨rfl, e⟩
theorem under_leaf {l : List Nd} (hs : SortN l) {a : Nd} (ha : a ∈ l) (hn : a.names = []) {y : Nat} (h : Under l a.ino y) : y = a.ino := by
  obtain ⟨f, hf⟩ : ∃ f, a.ino = f := ⟨_, rfl⟩
  rw [hf] at h
  induction h with
  | here => exact hf.symm
  | @step n e hn1 he _ ih =>
    rw [sort_one hs hn1 ha ih, hn] at he
    cases he
theorem step_rename {t : Tr} (h : MayT t) (hd : Nat × Nat) (nm : Key) (to : Nat × Nat) (k : Key) : StepOk t (renameT t hd nm to k).1 (renameT t hd nm to k).2 := by
  unfold renameT
  rw [if_pos h]
  cases e : findT t.nodes hd with
  | none => exact StepOk.stay h _
  | some d1 =>
    cases e' : findT t.nodes to with
    | none => exact StepOk.stay h _
    | some d2 =>
      obtain ⟨h1, h2, h3⟩ := (findT_some h.rise).1 e
      obtain ⟨h1', h2', h3'⟩ := (findT_some h.rise).1 e'
      dsimp only
      split
      · exact StepOk.stay h _
      split
      · exact StepOk.stay h _
      cases e2 : inE d1.names nm with
      | none => exact StepOk.stay h _
      | some f =>
        dsimp only
        cases e3 : nodeT t.nodes f with
        | none => exact StepOk.stay h _
        | some a =>
          dsimp only
          split
          · exact StepOk.stay h _
          split
          · exact StepOk.stay h _
          split
          · exact StepOk.stay h _
          split
          · exact StepOk.stay h _
          · rename_i q1 q2 q3 q4 q5 q6
            obtain ⟨k3, k4⟩ := (nodeT_some h.rise).1 e3
            have hx := (inE_some (h.ok d1 h1).sort).1 e2
            have hd2 : d2.dir = true := by
              cases hh : d2.dir
              · exact absurd (.inr hh) q1
              · rfl
            have hnk : nameL k = true := by
              cases hh : nameL k
              · exact absurd (.inr hh) q2
              · rfl
            have hno : ¬ Under t.nodes f d2.ino := fun hu => by
              cases hh : a.dir
              · have hl := (h.ok a k3).file hh
                rw [← k4] at hu
                have := under_leaf h.rise k3 hl hu
                rw [sort_one h.rise h1' k3 this, hh] at hd2
                cases hd2
              · exact q5 ⟨hh, by rw [← h2']; exact hu⟩
            have hem : ∀ x, inE d2.names k = some x → ∃ m ∈ t.nodes, m.ino = x ∧ m.names = [] := fun x ex => by
              have q3' : ontoS t.nodes a f (inE d2.names k) = 0 := by simpa using q3
              rw [ex] at q3'
              unfold ontoS at q3'
              dsimp only at q3'
              split at q3'
              · rename_i ee
                subst ee
                exact absurd ex q4
              · cases e5 : nodeT t.nodes x with
                | none => rw [e5] at q3'; cases q3'
                | some b =>
                  rw [e5] at q3'
                  dsimp only at q3'
                  obtain ⟨b1, b2⟩ := (nodeT_some h.rise).1 e5
                  refine ⟨b, b1, b2, ?_⟩
                  split at q3'
                  · cases q3'
                  split at q3'
                  · cases q3'
                  split at q3'
                  · cases q3'
                  · rename_i q; simpa using q
            have hm : MayT (renamedT t hd.1 nm to.1 k f (inE d2.names k)) := by
              rw [← h2, ← h2']
              refine may_renamed h h1 h1' hd2 hx hnk rfl q4 hem hno fun ex hne => ?_
              by_cases hc : d2.names.length < 32
              · exact hc
              · exact absurd (.inl ⟨ex, by rw [← h2, ← h2']; exact hne, by omega⟩) q6
            refine ⟨hm, fun e => absurd rfl e, .inr rfl, rfl, fun n hn => ?_⟩
            have hn' : n ∈ outO (updN (updN t.nodes hd.1 (lessF (stampT t) nm)) to.1 fun m => withF (stampT t) (k, f) (lessF (stampT t) k m)) (inE d2.names k) := hn
            have hall := upd_nodes (t := t) (i := to.1) (f := fun m => withF (stampT t) (k, f) (lessF (stampT t) k m)) (c := stampT t) (by intro m; rfl) (upd_nodes (t := t) (i := hd.1) (f := lessF (stampT t) nm) (c := stampT t) (by intro m; rfl) (fun n (hn : n ∈ t.nodes) => .inl hn))
            refine (hall n ?_).imp id fun e => ⟨rfl, e⟩
            cases ex : inE d2.names k with
            | none => rw [ex] at hn'; exact hn'
            | some x => rw [ex] at hn'; exact (mem_outN.1 hn').1
theorem step_write {t : Tr} (h : MayT t) (hd : Nat × Nat) (off : Nat) (b : List UInt8) : StepOk t (writeT t hd off b).1 (writeT t hd off b).2 := by
  unfold writeT
  rw [if_pos h]
  cases e : findT t.nodes hd with
  | none => exact StepOk.stay h _
  | some d =>
    obtain ⟨h1, h2, h3⟩ := (findT_some h.rise).1 e
    dsimp only
    split
    · exact StepOk.stay h _
    split
    · exact StepOk.stay h _
    split
    · exact StepOk.stay h _
    · rename_i k1 k2 k3
      rw [← h2]
      show StepOk t (dataT t d.ino fun l => putB l off b) 0
      refine step_data h h1 (by simpa using k1) ?_
      rw [putB_len]
      have := (h.ok d h1).size
      have k2' : ¬ 4096 < off + b.length := fun hh => k2 (.inr (.inr hh))
      omega
theorem step_resize {t : Tr} (h : MayT t) (hd : Nat × Nat) (n : Nat) : StepOk t (resizeT t hd n).1 (resizeT t hd n).2 := by
  unfold resizeT
  rw [if_pos h]
  cases e : findT t.nodes hd with
  | none => exact StepOk.stay h _
  | some d =>
    obtain ⟨h1, h2, h3⟩ := (findT_some h.rise).1 e
    dsimp only
    split
    · exact StepOk.stay h _
    split
    · exact StepOk.stay h _
    split
    · exact StepOk.stay h _
    · rename_i k1 k2 k3
      rw [← h2]
      show StepOk t (dataT t d.ino fun l => resB l n) 0
      refine step_data h h1 (by simpa using k1) ?_
      rw [resB_len]
      omega
/-- a new tree -/
def newT : Tr := ⟨[⟨1, 1, true, 4294967297, [], []⟩], 1, 1, 1, [(0, 0, []), (0, 0, []), (0, 0, []), (0, 0, [])]⟩
theorem may_new : MayT newT := by
  refine ⟨by decide, by decide, by decide, ⟨_, List.mem_singleton.2 rfl, rfl, rfl, rfl⟩, by decide, List.pairwise_singleton _ _, List.pairwise_singleton _ _, fun n hn => ?_, List.nodup_nil, fun h => (by cases h), fun n hn => ?_⟩
  · obtain rfl := List.mem_singleton.1 hn
    exact ⟨by decide, by decide, by decide, by decide, by decide, fun _ => rfl, fun e => (by cases e), List.Pairwise.nil, fun e he => (by cases he), by decide⟩
  · obtain rfl := List.mem_singleton.1 hn
    exact .here

end Go.Proofs.YtenpmbfncnepgaaDoor
