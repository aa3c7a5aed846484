/- name.Path. -/
import Derived.Test.YtmmkoonnklfjkaaDoorNameSeq
namespace Go.Proofs.YtmmkoonnklfjkaaDoor
open Go.RowKit Go.Shelf Go.Lib Go.ChangeShapes Go.WideShapes Go.ChangeAt
set_option linter.unusedVariables false

attribute [local go_sem] Oper.semAt_some

/-- an append, as one step of a region that draws its order -/
theorem stepIn_append {F : Fence} {n : Nat} {P : Program} {ops : Array Oper} {o : Oper} {a : Act} {w : World} {K : Act → World → Prop} {Q : Exit → Act → World → Prop} {E : Prop}
    (hg : o.guard = none) (s x : Operand) (t : TypeId) (hop : o.op = Op.call { callee := Callee.builtin Builtin.append, args := #[s, x], argTypes := #[t, t] })
    (base : Nat) (e : TypeId) (i : TypeInfo) (z : Value) (size bytes : Nat) (h1 : P.underlying t = some (.slice e)) (h2 : P.info? e = some i) (h3 : i.zero = some z) (h4 : i.size = size) (h5 : i.bytes = bytes) (h6 : z.cells.size = size) (h7 : 0 < size)
    (v : Value) (k : Nat) (xs : List Value) (hs : a.eval s = v) (hown : w.ownsRow base e size v k xs) (ad : Addr) (m c : Nat) (news : List Value) (hx : a.eval x = .slice (some ad) m c) (hn : news.length = m * size)
    (hc : ∀ j u, news[j]? = some u → w.cell? (ad.add j) = some u) (h1c : ∀ u ∈ news, u.oneCell' = true) (b1 : k + m ≤ maxLen) (b2 : (k + m) * bytes ≤ 140737488355328) (b3 : base ≤ w.heap.size)
    (hK : ∀ v' w', w'.ownsRow base e size v' (k + m) (xs ++ news) → w.grownBy w' v.ownBlock → K (a.put o.dst v') w') :
    if Region.wanted o (yielded ops a.tmps) = true then Oper.wpIn F n P o a w K Q else E := by
  have hw : Region.wanted o (yielded ops a.tmps) = true := by simp [Region.wanted, hg]
  rw [if_pos hw]
  obtain ⟨v', w', hrun, r1, r2, -⟩ := run_append_own (P := P) w base t o.type e i z size bytes h1 h2 h3 h4 h5 h6 h7 v k xs hown ad m c news hn hc h1c b1 b2 b3
  unfold Oper.wpIn
  refine ⟨?_, ?_⟩
  · simp [Oper.about, hop, resolve, Target.leads, Sem.run_pure]
  · rw [Oper.semAt_plain F _ _ (by rw [hop]; intro c hc'; cases hc')]
    simp [execOp, hop, resolve, invoke, builtin, hs, hx, hrun, Result.andThen]
    exact hK v' w' r1 r2

theorem own_below {W W' : World} {base n : Nat} {e : TypeId} {v : Value} {xs : List Value} (h : W.ownsRow base e 1 v n xs) (hb : Below W.heap.size W W') : W'.ownsRow base e 1 v n xs := by
  refine ⟨h.1, ?_⟩
  rcases h.2 with h0 | ⟨g, cap, cur, hv, hg, hgg, rest⟩
  · exact .inl h0
  · exact .inr ⟨g, cap, cur, hv, hg, (hb.block g (Array.getElem?_eq_some_iff.1 hgg).1).trans hgg, rest⟩

theorem results_cells2 {P : Program} {fn : Func} {p q : Tmp} {t u : TypeId} (h : fn.results = #[.cell p t, .cell q u]) (tmps : Array Value) (w : World) (a b : Addr) (x y : Value)
    (hp : tmps.getD p undef = .pointer (some a)) (hq : tmps.getD q undef = .pointer (some b)) (hx : (loadVar t a).run P w = .ok x w) (hy : (loadVar u b).run P w = .ok y w) :
    (results fn tmps).run P w = .ok (.tuple #[x, y]) w := by
  have hp' : tmps[p]?.getD undef = .pointer (some a) := by simpa using hp
  have hq' : tmps[q]?.getD undef = .pointer (some b) := by simpa using hq
  simp [results, h, hp', hq', asAddr, hx, hy]
theorem load_slice (W : World) (b : Nat) (A : Option Addr) (n c : Nat) (h : W.cell? ⟨b, 0, none⟩ = some (.slice A n c)) : (loadVar 26 ⟨b, 0, none⟩).run Tryd.prog W = .ok (.slice A n c) W := by
  go_simp
theorem load_errno (W : World) (b : Nat) (k : Int) (h : W.cell? ⟨b, 0, none⟩ = some (.int .i64 k)) : (loadVar 27 ⟨b, 0, none⟩).run Tryd.prog W = .ok (.int .i64 k) W := by
  go_simp
theorem own_slice {w : World} {base n c : Nat} {A : Option Addr} {l : List ByteArray} (h : w.ownsRow base 9 1 (.slice A n c) n (strsOf l)) (hn : n = l.length) : RdS w A l ∧ l.length ≤ c ∧ c ≤ maxLen ∧ (A = none → l = [] ∧ c = 0) := by
  obtain ⟨A', c', e, h1, h2, h3, h4⟩ := own_rds h hn
  cases e
  exact ⟨h1, h2, h3, h4⟩

/-- the names so far: the first four -/
def kept (pre : List ByteArray) : List ByteArray := pre.take 4
/-- what a round of Path finds: the results' boxes, the list's, the mark's -/
def PathI (B : Nat) (w : World) (pre : List ByteArray) (W : World) : Prop :=
  (Cs W B 26 #[.slice none 0 0] ∧ Cs W (B + 1) 27 #[.int .i64 0] ∧ Cs W (B + 1 + 1 + 1) 4 #[.bool (decide (4 < pre.length))] ∧
    (∃ v, Cs W (B + 1 + 1) 26 #[v] ∧ W.ownsRow (B + 1 + 1 + 1 + 1 + 1 + 1 + 1) 9 1 v (kept pre).length (strsOf (kept pre)))) ∧ (LL pre).all nameL = true ∧ Below B w W ∧ B + 1 + 1 + 1 + 1 + 1 + 1 + 1 ≤ W.heap.size
/-- what a round leaves that has met no name -/
def PathX (B : Nat) (w : World) (c : Code) (pre : List ByteArray) (W : World) : Prop :=
  (c = .ret ∧ Cs W B 26 #[.slice none 0 0] ∧ Cs W (B + 1) 27 #[.int .i64 5]) ∧ (LL pre).all nameL = false ∧ Below B w W

theorem own_row_own {β : Type} (base : Nat) (e : TypeId) (t : TypeId) (b : Nat) (k : β → Nat) (f : β → List Value) : Own (fun s W => ∃ v, Cs W b t #[v] ∧ W.ownsRow base e 1 v (k s) (f s)) := by
  rintro s X Y row ⟨v, hv, hr⟩ hg hrow
  refine ⟨v, (grownBy_keeps_cells hg hrow hv rfl).trans hv, hr.kept hg ?_⟩
  rcases hr.2 with ⟨rfl, _⟩ | ⟨g, cap, cur, rfl, _, hgb, _⟩
  · exact .inl rfl
  · refine .inr fun e' => ?_
    obtain ⟨o, ho, hc⟩ := hrow g (by simpa [Value.ownBlock] using e'.symm)
    rw [hgb] at ho; cases ho; cases hc
theorem pathI_own (B D : Nat) (w : World) (hw : B ≤ w.heap.size) (hD : B ≤ D) : OwnFrom D (PathI B w) :=
  OwnFrom.and (OwnFrom.and ((cs_own _ _ (fun _ => #[.slice none 0 0])).from _) (OwnFrom.and ((cs_own _ _ (fun _ => #[.int .i64 0])).from _) (OwnFrom.and ((cs_own _ _ (fun pre : List ByteArray => #[.bool (decide (4 < pre.length))])).from _) ((own_row_own _ _ _ _ _ (fun pre => strsOf (kept pre))).from _))))
    (OwnFrom.and (ownFrom_pure _ (fun pre : List ByteArray => (LL pre).all nameL = true)) (OwnFrom.and (ownFrom_below hw hD) (fun _ _ _ _ hs hg _ => Nat.le_trans hs hg.size)))
theorem pathX_own (B D : Nat) (w : World) (c : Code) (hw : B ≤ w.heap.size) (hD : B ≤ D) : OwnFrom D (PathX B w c) :=
  OwnFrom.and (OwnFrom.and (ownFrom_pure _ (fun _ : List ByteArray => c = .ret)) (OwnFrom.and ((cs_own _ _ (fun _ => #[.slice none 0 0])).from _) ((cs_own _ _ (fun _ => #[.int .i64 5])).from _)))
    (OwnFrom.and (ownFrom_pure _ (fun pre : List ByteArray => (LL pre).all nameL = false)) (ownFrom_below hw hD))
theorem pathI_box (B : Nat) (w : World) (pre : List ByteArray) (X : World) (v : Value) (h : PathI B w pre X) : PathI B w pre (X.setCell ⟨B + 1 + 1 + 1 + 1, 0, none⟩ v) := by
  obtain ⟨⟨h1, h2, h3, u, h4, h5⟩, h6, h7, h8⟩ := h
  refine ⟨⟨h1.far (by dsimp only; omega) v, h2.far (by dsimp only; omega) v, h3.far (by dsimp only; omega) v, u, h4.far (by dsimp only; omega) v, ?_⟩, h6, h7.setCell (p := ⟨B + 1 + 1 + 1 + 1, 0, none⟩) (by dsimp only; omega) v, by rw [World.size_setCell]; exact h8⟩
  refine h5.kept (grownBy_setCell' X (B + 1 + 1 + 1 + 1) v) ?_
  rcases hu : u.ownBlock with _ | g
  · exact .inl rfl
  · refine .inr fun e => ?_
    have := own_base h5 g hu
    injection e with e
    omega

/-- what a round leaves as it was: the loop's own blocks, the iterator's boxes, whatever lay ahead of the call -/
def Fr (B : Nat) (X Y : World) : Prop := KeepsFrom (B + 1 + 1 + 1 + 1 + 1 + 1 + 1) X Y ∧ KeepsBlk [B + 1 + 1 + 1 + 1, B + 1 + 1 + 1 + 1 + 1, B + 1 + 1 + 1 + 1 + 1 + 1] X Y ∧ Below B X Y
theorem Fr.trans {B : Nat} {X Y Z : World} (h : Fr B X Y) (k : Fr B Y Z) : Fr B X Z := ⟨h.1.trans k.1, h.2.1.trans k.2.1, h.2.2.trans k.2.2⟩
theorem Fr.below {B : Nat} {X Y : World} (h : Below X.heap.size X Y) (hB : B ≤ X.heap.size) : Fr B X Y :=
  ⟨⟨h.size, fun k o _ hk _ => (h.block k (Array.getElem?_eq_some_iff.1 hk).1).trans hk⟩, fun b _ o hb => (h.block b (Array.getElem?_eq_some_iff.1 hb).1).trans hb, h.mono hB⟩
theorem Fr.store {B : Nat} (X : World) (p : Addr) (v : Value) (h0 : B ≤ p.block) (h1 : p.block < B + 1 + 1 + 1 + 1) : Fr B X (X.setCell p v) := by
  refine ⟨(KeepsOthers.setCell X p v).from _, fun b hb o ho => (Below.heap_setCell X p v b ?_).trans ho, (Below.refl B X).setCell h0 v⟩
  simp at hb
  omega
theorem Fr.alloc {B : Nat} (X : World) (o : Obj) (hB : B ≤ X.heap.size) : Fr B X (X.alloc o) := Fr.below ((Below.refl _ X).alloc (Nat.le_refl _) o) hB
theorem Fr.grown {B : Nat} {X Y : World} {row : Option Nat} (hg : X.grownBy Y row) (hB : B ≤ X.heap.size) (hr : ∀ g, row = some g → B + 1 + 1 + 1 + 1 + 1 + 1 + 1 ≤ g ∧ ∃ o, X.heap[g]? = some o ∧ o.isCells = true) : Fr B X Y := by
  refine ⟨⟨hg.size, fun k o hk hko hc => (hg.block k (Array.getElem?_eq_some_iff.1 hko).1 fun e => ?_).trans hko⟩, fun b hb o ho => (hg.block b (Array.getElem?_eq_some_iff.1 ho).1 fun e => ?_).trans ho, (Below.refl B X).grown hg hB fun k e => ?_⟩
  · obtain ⟨_, o', ho', hc'⟩ := hr k e.symm
    rw [hko] at ho'
    cases ho'
    rw [hc] at hc'
    cases hc'
  · have := (hr b e.symm).1
    simp at hb
    omega
  · have := (hr k e).1
    omega
theorem own_isCells {W : World} {base n : Nat} {e : TypeId} {v : Value} {xs : List Value} (h : W.ownsRow base e 1 v n xs) : ∀ g, v.ownBlock = some g → base ≤ g ∧ ∃ o, W.heap[g]? = some o ∧ o.isCells = true := by
  intro g hg
  rcases h.2 with ⟨rfl, _⟩ | ⟨g', cap, cur, rfl, hb, hgg, _⟩
  · cases hg
  · cases hg; exact ⟨hb, _, hgg, rfl⟩

theorem kept_full {pre : List ByteArray} (x : ByteArray) (h : 4 ≤ pre.length) : kept (pre ++ [x]) = kept pre := by
  unfold kept; rw [List.take_append_of_le_length h]
theorem kept_room {pre : List ByteArray} (x : ByteArray) (h : pre.length < 4) : kept (pre ++ [x]) = kept pre ++ [x] := by
  unfold kept
  rw [List.take_of_length_le (by rw [List.length_append]; simp; omega), List.take_of_length_le (by omega)]
theorem kept_len (pre : List ByteArray) : (kept pre).length = min 4 pre.length := by unfold kept; rw [List.length_take]
theorem all_snoc (pre : List ByteArray) (x : ByteArray) : (LL (pre ++ [x])).all nameL = ((LL pre).all nameL && nameL (L x)) := by
  rw [LL_snoc, List.all_append]; simp

/-- behind the append: the list's box is there still, and may be stored into -/
theorem app_cell {B : Nat} {W2 W3 W4 : World} {v : Value} {n : Nat} {xs : List Value} {o : Obj} (h4 : Cs W2 (B + 1 + 1) 26 #[v]) (h5 : W2.ownsRow (B + 1 + 1 + 1 + 1 + 1 + 1 + 1) 9 1 v n xs)
    (hb : Below W2.heap.size W2.drew W3) (hg : (W3.alloc o).grownBy W4 v.ownBlock) : Cs W4 (B + 1 + 1) 26 #[v] := by
  have k4 : Cs W3 (B + 1 + 1) 26 #[v] := h4.drew.below hb h4.lt
  have k5 := k4.alloc o
  exact (hg.block _ k5.lt fun e => by have := own_base h5 _ e.symm; omega).trans k5
/-- what a round leaves that has kept a name -/
theorem app_round {B : Nat} {w W W2 W3 W4 : World} {pre : List ByteArray} {x : ByteArray} {v v' : Value} {o : Obj} (hw : w.heap.size = B) (hW7 : B + 1 + 1 + 1 + 1 + 1 + 1 + 1 ≤ W.heap.size) (hB : Below B w W) (hb2 : Below W.heap.size W W2) (hlen : pre.length < 4)
    (h0 : Cs W2 B 26 #[.slice none 0 0]) (h1 : Cs W2 (B + 1) 27 #[.int .i64 0]) (h3 : Cs W2 (B + 1 + 1 + 1) 4 #[.bool (decide (4 < pre.length))]) (h4 : Cs W2 (B + 1 + 1) 26 #[v])
    (h5 : W2.ownsRow (B + 1 + 1 + 1 + 1 + 1 + 1 + 1) 9 1 v pre.length (strsOf (kept pre))) (hall : (LL (pre ++ [x])).all nameL = true)
    (hb : Below W2.heap.size W2.drew W3) (hg : (W3.alloc o).grownBy W4 v.ownBlock) (hown : W4.ownsRow (B + 1 + 1 + 1 + 1 + 1 + 1 + 1) 9 1 v' (pre.length + 1) (strsOf (kept pre) ++ strsOf [x])) :
    Fr B W (W4.setCell ⟨B + 1 + 1, 0, none⟩ v') ∧ PathI B w (pre ++ [x]) (W4.setCell ⟨B + 1 + 1, 0, none⟩ v') := by
  have hWs : B ≤ W.heap.size := by have := hB.size; omega
  have hW2s : B ≤ W2.heap.size := by have := hb2.size; omega
  have hW3s : W2.heap.size ≤ W3.heap.size := hb.size
  have q4 := app_cell h4 h5 hb hg
  have keep : ∀ {b : Nat} {t : TypeId} {cs : Array Value}, Cs W2 b t cs → b < B + 1 + 1 + 1 + 1 + 1 + 1 + 1 → Cs W4 b t cs := fun {b} {t} {cs} hc hlt => by
    have k3 : Cs W3 b t cs := hc.drew.below hb hc.lt
    exact (hg.block _ (k3.alloc o).lt fun e => by have := own_base h5 _ e.symm; omega).trans (k3.alloc o)
  have o3 : W3.ownsRow (B + 1 + 1 + 1 + 1 + 1 + 1 + 1) 9 1 v pre.length (strsOf (kept pre)) := own_below (W := W2.drew) h5 hb
  have fr : Fr B W (W4.setCell ⟨B + 1 + 1, 0, none⟩ v') := by
    refine ((((Fr.below hb2 hWs).trans (Fr.below (Y := W2.drew) (Below.drew (Below.refl _ _)) hW2s)).trans (Fr.below (X := W2.drew) hb hW2s)).trans (Fr.alloc W3 o (by omega))).trans ((Fr.grown hg (by simp; omega) (own_isCells (o3.alloc o))).trans (Fr.store W4 ⟨B + 1 + 1, 0, none⟩ v' (by dsimp only; omega) (by dsimp only; omega)))
  refine ⟨fr, ⟨(keep h0 (by omega)).far (by dsimp only; omega) v', (keep h1 (by omega)).far (by dsimp only; omega) v', ?_, v', q4.set 0 v', ?_⟩, hall, hB.trans fr.2.2, Nat.le_trans hW7 fr.1.size⟩
  · have := (keep h3 (by omega)).far (p := ⟨B + 1 + 1, 0, none⟩) (by dsimp only; omega) v'
    rw [decide_eq_false (show ¬ 4 < (pre ++ [x]).length by rw [List.length_append]; simp; omega)]
    rw [decide_eq_false (show ¬ 4 < pre.length by omega)] at this
    exact this
  · rw [kept_room x hlen, strsOf_append, List.length_append]
    have hk : (kept pre).length = pre.length := by rw [kept_len]; omega
    rw [hk]
    refine hown.kept (grownBy_setCell' W4 (B + 1 + 1) v') ?_
    rcases hu : v'.ownBlock with _ | g
    · exact .inl rfl
    · refine .inr fun e => ?_
      have := own_base hown g hu
      injection e with e
      omega

set_option maxRecDepth 100000 in
set_option maxHeartbeats 4000000 in
theorem Path_in (s : ByteArray) (hs : s.size ≤ 281474976710656) (h0 : s.toList ≠ []) (w : World) (hT : Tabs w) :
    CallsIn Fence.wide 5 Tryd.prog 12 #[.string s] w fun e w' => PathRet s w.heap.size w e w' := by
  have b0 : s.toList.isEmpty = false := by simpa using h0
  have HT := Lib.hid hT
  have HNE := Lib.hid (show L s ≠ [] by rw [← toList_L]; exact h0)
  clear hT h0
  refine callsIn_of_wp_marks Tryd.func12 rfl trivial ?_ rfl
  simp only [Tryd.ntmps12, List.size_toArray, List.length_cons, List.length_nil, Nat.reduceAdd, Nat.reduceSub, Array.replicate_succ, Array.replicate_zero, List.push_toArray, List.append_toArray, List.nil_append, List.cons_append]
  gi_wp2_with fail
  refine ⟨trivial, ?_⟩
  refine (SplitSeq_in _ (by decide) _ _ _).mono ?_
  rintro e w' ⟨rfl, rfl⟩
  gi_wp2
  clear b0
  have c0 := Cs.new w 26 #[.slice none 0 0]
  have c1 := Cs.new (w.alloc (.cells #[.slice none 0 0] 26)) 27 #[.int .i64 0]
  have c2 := Cs.new ((w.alloc (.cells #[.slice none 0 0] 26)).alloc (.cells #[.int .i64 0] 27)) 26 #[.slice none 0 0]
  have c3 := Cs.new (((w.alloc (.cells #[.slice none 0 0] 26)).alloc (.cells #[.int .i64 0] 27)).alloc (.cells #[.slice none 0 0] 26)) 4 #[.bool false]
  have c4 := Cs.new ((((w.alloc (.cells #[.slice none 0 0] 26)).alloc (.cells #[.int .i64 0] 27)).alloc (.cells #[.slice none 0 0] 26)).alloc (.cells #[.bool false] 4)) 9 #[.string s]
  have c5 := Cs.new (((((w.alloc (.cells #[.slice none 0 0] 26)).alloc (.cells #[.int .i64 0] 27)).alloc (.cells #[.slice none 0 0] 26)).alloc (.cells #[.bool false] 4)).alloc (.cells #[.string s] 9)) 9 #[.string ⟨#[47]⟩]
  have c6 := Cs.new ((((((w.alloc (.cells #[.slice none 0 0] 26)).alloc (.cells #[.int .i64 0] 27)).alloc (.cells #[.slice none 0 0] 26)).alloc (.cells #[.bool false] 4)).alloc (.cells #[.string s] 9)).alloc (.cells #[.string ⟨#[47]⟩] 9)) 3 #[.int .i64 0]
  simp only [World.size_alloc] at c1 c2 c3 c4 c5 c6
  have hB0 := (((((((Below.refl w.heap.size w).alloc (Nat.le_refl _) (.cells #[.slice none 0 0] 26)).alloc (by simp) (.cells #[.int .i64 0] 27)).alloc (by simp; omega) (.cells #[.slice none 0 0] 26)).alloc (by simp; omega) (.cells #[.bool false] 4)).alloc (by simp; omega) (.cells #[.string s] 9)).alloc (by simp; omega) (.cells #[.string ⟨#[47]⟩] 9)).alloc (by simp; omega) (.cells #[.int .i64 0] 3)
  have hbx : Boxes (w.heap.size + 1 + 1 + 1 + 1) (w.heap.size + 1 + 1 + 1 + 1 + 1) (w.heap.size + 1 + 1 + 1 + 1 + 1 + 1) s _ := ⟨(c4.alloc _).alloc _, c5.alloc _, c6⟩
  have hI0 : PathI w.heap.size w [] _ := ⟨⟨(((((c0.alloc _).alloc _).alloc _).alloc _).alloc _).alloc _, ((((c1.alloc _).alloc _).alloc _).alloc _).alloc _, ((c3.alloc _).alloc _).alloc _, _, (((c2.alloc _).alloc _).alloc _).alloc _, World.ownsRow_nil _ _ _ _⟩, rfl, hB0, by simp⟩
  have hsz : ((((((((w.alloc (.cells #[.slice none 0 0] 26)).alloc (.cells #[.int .i64 0] 27)).alloc (.cells #[.slice none 0 0] 26)).alloc (.cells #[.bool false] 4)).alloc (.cells #[.string s] 9)).alloc (.cells #[.string ⟨#[47]⟩] 9)).alloc (.cells #[.int .i64 0] 3))).heap.size = w.heap.size + 1 + 1 + 1 + 1 + 1 + 1 + 1 := by simp
  clear c0 c1 c2 c3 c4 c5 c6 hB0
  generalize (((((((w.alloc (.cells #[.slice none 0 0] 26)).alloc (.cells #[.int .i64 0] 27)).alloc (.cells #[.slice none 0 0] 26)).alloc (.cells #[.bool false] 4)).alloc (.cells #[.string s] 9)).alloc (.cells #[.string ⟨#[47]⟩] 9)).alloc (.cells #[.int .i64 0] 3)) = W0 at *
  refine wpIn_rangeBox rfl (by omega) (gf := 33) (lb := #[.pointer (some ⟨w.heap.size + 1 + 1 + 1 + 1 + 1, 0, none⟩), .pointer (some ⟨w.heap.size + 1 + 1 + 1 + 1, 0, none⟩), .pointer (some ⟨w.heap.size + 1 + 1 + 1 + 1 + 1 + 1, 0, none⟩)]) rfl trivial (enters_of Tryd.func33 (by kernel_rfl) rfl)
    (split_box (5 - 1) (by omega) (w.heap.size + 1 + 1 + 1 + 1) (w.heap.size + 1 + 1 + 1 + 1 + 1) (w.heap.size + 1 + 1 + 1 + 1 + 1 + 1) (by omega) (by omega) s hs W0 hbx) (by rw [hsz]; omega) KeepsBlk.trans (keepsBlk_b (by rw [hsz]; simp)) (fun _ => rfl)
    (PathI w.heap.size w) (PathX w.heap.size w) (pathI_own _ _ _ (Nat.le_refl _) (by rw [hsz]; omega)) (fun c => pathX_own _ _ _ c (Nat.le_refl _) (by rw [hsz]; omega)) (pathI_box w.heap.size w) hI0
    (fun x => { tmps := (.string s :: undef :: .pointer (some ⟨w.heap.size, 0, none⟩) :: .pointer (some ⟨w.heap.size + 1, 0, none⟩) :: .pointer (some ⟨w.heap.size + 1 + 1, 0, none⟩) :: .pointer (some ⟨w.heap.size + 1 + 1 + 1, 0, none⟩) :: .string x :: .string s :: .bool false :: .string s ::
      .func (.func 33) #[] #[.pointer (some ⟨w.heap.size + 1 + 1 + 1 + 1 + 1, 0, none⟩), .pointer (some ⟨w.heap.size + 1 + 1 + 1 + 1, 0, none⟩), .pointer (some ⟨w.heap.size + 1 + 1 + 1 + 1 + 1 + 1, 0, none⟩)] ::
      .string x :: undef :: undef :: undef :: undef :: undef :: undef :: undef :: undef :: undef :: undef :: undef :: undef :: undef :: [] : List Value).toArray, defers := [] }) ?assign ?body ?done ?stop
  case assign =>
    intro r x W K hK
    gi_wp2
    exact hK
  case body =>
    clear hbx hI0
    rintro r pre x W ⟨⟨d0, d1, d3, v, d4, d5⟩, hall, hB, hW7⟩ hplen
    have his := Is_any x W (HT.out.below hB)
    have hBs := hB.size
    have hsn := all_snoc pre x
    rw [hall, Bool.true_and] at hsn
    have HALL := Lib.hid hall
    cases hn : nameL (L x)
    · rw [hn] at his hsn
      have HSN := Lib.hid hsn
      clear hsn hall hn
      gi_wp2_with fail
      refine ⟨trivial, ?_⟩
      refine (CallsIn.inRound r (callsIn_wide.2 his)).mono ?_
      clear his
      rintro e W2 ⟨rfl, hb2⟩
      have c0 := d0.below hb2 d0.lt
      have c1 := d1.below hb2 d1.lt
      have f0 := c0.frozen 0
      have f1 := c1.frozen 0
      have e0 := c0.cell 0 rfl
      have e1 := c1.cell 0 rfl
      have HC0 := Lib.hid c0
      have HC1 := Lib.hid c1
      clear c0 c1 d0 d1 d3 d4 d5
      gi_wp2
      have fr : Fr w.heap.size W ((W2.setCell ⟨w.heap.size, 0, none⟩ (.slice none 0 0)).setCell ⟨w.heap.size + 1, 0, none⟩ (.int .i64 5)) :=
        (Fr.below hb2 hBs).trans ((Fr.store W2 ⟨w.heap.size, 0, none⟩ _ (Nat.le_refl _) (by dsimp only; omega)).trans (Fr.store _ ⟨w.heap.size + 1, 0, none⟩ _ (by dsimp only; omega) (by dsimp only; omega)))
      refine ⟨by rw [hsz]; exact fr.1, ⟨rfl, (HC0.out.set 0 (.slice none 0 0)).far (p := ⟨w.heap.size + 1, 0, none⟩) (by dsimp only; omega) (.int .i64 5), (HC1.out.far (p := ⟨w.heap.size, 0, none⟩) (by dsimp only; omega) (.slice none 0 0)).set 0 (.int .i64 5)⟩, HSN.out, hB.trans fr.2.2⟩
    · rw [hn] at his hsn
      have HSN := Lib.hid hsn
      have hx32 := name_short hn
      rw [← L_size] at hx32
      clear hsn hall hn
      obtain ⟨A, cv, rfl, -⟩ := own_rds d5 rfl
      gi_wp2_with fail
      refine ⟨trivial, ?_⟩
      refine (CallsIn.inRound r (callsIn_wide.2 his)).mono ?_
      clear his
      rintro e W2 ⟨rfl, hb2⟩
      have c0 := d0.below hb2 d0.lt
      have c1 := d1.below hb2 d1.lt
      have c3 := d3.below hb2 d3.lt
      have c4 := d4.below hb2 d4.lt
      have c5 := own_below d5 hb2
      have hkl := kept_len pre
      have e4 := c4.cell 0 rfl
      have f4 := c4.frozen 0
      have e3 := c3.cell 0 rfl
      have f3 := c3.frozen 0
      by_cases h4 : 4 ≤ pre.length
      · have hk4 : (kept pre).length = 4 := by omega
        rw [hk4] at e4
        have hkf := kept_full x h4
        have HC0 := Lib.hid c0
        have HC1 := Lib.hid c1
        have HC3 := Lib.hid c3
        have HC4 := Lib.hid c4
        have HC5 := Lib.hid c5
        have HKF := Lib.hid hkf
        have HK4 := Lib.hid hk4
        clear c0 c1 c3 c4 c5 d0 d1 d3 d4 d5 hkf hk4 hkl
        gi_wp2
        have fr : Fr w.heap.size W (W2.setCell ⟨w.heap.size + 1 + 1 + 1, 0, none⟩ (.bool true)) :=
          (Fr.below hb2 hBs).trans (Fr.store W2 ⟨w.heap.size + 1 + 1 + 1, 0, none⟩ _ (by dsimp only; omega) (by dsimp only; omega))
        have q3 := HC3.out.set 0 (.bool true)
        have ne5 : (Value.slice A (kept pre).length cv).ownBlock = none ∨ (Value.slice A (kept pre).length cv).ownBlock ≠ some (w.heap.size + 1 + 1 + 1) := by
          rcases hu : (Value.slice A (kept pre).length cv).ownBlock with _ | g
          · exact .inl rfl
          · refine .inr fun e => ?_
            have := own_base HC5.out g hu
            injection e with e
            omega
        refine ⟨by rw [hsz]; exact fr.1, fr.2.1, ⟨HC0.out.far (p := ⟨w.heap.size + 1 + 1 + 1, 0, none⟩) (by dsimp only; omega) (.bool true), HC1.out.far (p := ⟨w.heap.size + 1 + 1 + 1, 0, none⟩) (by dsimp only; omega) (.bool true), ?_, _, HC4.out.far (p := ⟨w.heap.size + 1 + 1 + 1, 0, none⟩) (by dsimp only; omega) (.bool true), ?_⟩, HSN.out, hB.trans fr.2.2, Nat.le_trans hW7 fr.1.size⟩
        · rw [decide_eq_true (show 4 < (pre ++ [x]).length by rw [List.length_append]; simp; omega)]
          exact q3
        · rw [HKF.out]
          exact HC5.out.kept (grownBy_setCell' W2 (w.heap.size + 1 + 1 + 1) (.bool true)) ne5
      · have hk4 : (kept pre).length = pre.length := by omega
        have hkr := kept_room x (show pre.length < 4 by omega)
        have y4 : ((pre.length : Int) == 4) = false := by simp; omega
        rw [hk4] at e4
        have HC0 := Lib.hid c0
        have HC1 := Lib.hid c1
        have HC3 := Lib.hid c3
        have HC4 := Lib.hid c4
        have HC5 := Lib.hid c5
        have HKR := Lib.hid hkr
        have HK4 := Lib.hid hk4
        clear c0 c1 c3 c4 c5 d0 d1 d3 d4 d5 hkr hk4 hkl
        gi_wp2
        obtain ⟨i0, hi, hz0, hz1, hz2⟩ := info_parts infoStr
        have hcl := fun W => Clone_any x (by omega) W
        have hmix : Tryd.prog.follows .mixedOrders = true := by kernel_rfl
        have H5 := HC5.out
        rw [HK4.out] at H5
        have H4 := HC4.out
        rw [HK4.out] at H4
        have HH5 := Lib.hid H5
        have HH4 := Lib.hid H4
        clear H5 H4
        refine wpIn_region_any hmix ?_
        change wpAnyIn _ _ _ _ _ _ _ _ _ (World.drew _)
        refine wpAnyIn_ready (rs := [0, 1]) (by kernel_rfl) (by simp) ?_
        refine AllReadyIn.cons rfl (fun K hK => ?_) (AllReadyIn.cons rfl (fun K hK => ?_) AllReadyIn.nil)
        · go_simp
          refine hK _ _ ?_
          clear hK K
          refine wpAnyIn_ready (rs := [1]) (by kernel_rfl) (by simp) ?_
          refine AllReadyIn.cons rfl (fun K hK => ?_) AllReadyIn.nil
          go_simp
          refine hK _ _ ?_
          clear hK K
          refine wpAnyIn_ready (rs := [2]) (by kernel_rfl) (by simp) ?_
          refine AllReadyIn.cons rfl (fun K hK => ?_) AllReadyIn.nil
          go_simp
          refine ⟨trivial, ?_⟩
          refine (CallsIn.inRound r (callsIn_wide.2 (hcl _))).mono ?_
          rintro e W3 ⟨rfl, hb3⟩
          have k4 := (show Cs W3 (w.heap.size + 1 + 1) 26 #[.slice A pre.length cv] from HH4.out.drew.below hb3 HH4.out.lt)
          have e4' := k4.cell 0 rfl
          have HKB := Lib.hid k4
          refine hK _ _ ?_
          clear hK K k4
          refine wpAnyIn_ready (rs := [3]) (by kernel_rfl) (by simp) ?_
          refine AllReadyIn.cons rfl (fun K hK => ?_) AllReadyIn.nil
          go_simp
          refine hK _ _ ?_
          clear hK K
          have e4b := (HKB.out.alloc (.cells #[.string x] 9)).cell 0 rfl
          refine wpAnyIn_ready (rs := [4]) (by kernel_rfl) (by simp) ?_
          refine AllReadyIn.cons rfl (fun K hK => ?_) AllReadyIn.nil
          refine stepIn_append rfl (.tmp 18) (.tmp 21) 26 rfl (w.heap.size + 1 + 1 + 1 + 1 + 1 + 1 + 1) 9 i0 (.string ⟨#[]⟩) 1 16 Tryd.underlying26 hi hz0 hz1 hz2 rfl (by decide) (.slice A pre.length cv) pre.length (strsOf (kept pre)) rfl ((own_below (W := W2.drew) HH5.out hb3).alloc _) ⟨W3.heap.size, 0, none⟩ 1 1 (strsOf [x]) rfl rfl (cell_one_new _ _ _) (by intro u hu; simp [strsOf] at hu; subst hu; rfl) (by unfold maxLen; omega) (by omega) (by have := hb3.size; have := hb2.size; simp at *; omega) ?_
          intro v' W4 hown hgrow
          obtain ⟨g', cap', rfl⟩ := ownsRow_succ hown
          have q4 := app_cell HH4.out HH5.out hb3 hgrow
          have e5 := q4.cell 0 rfl
          have f5 := q4.frozen 0
          refine hK _ _ ?_
          clear hK K q4
          refine wpAnyIn_ready (rs := [5]) (by kernel_rfl) (by simp) ?_
          refine AllReadyIn.cons rfl (fun K hK => ?_) AllReadyIn.nil
          go_simp
          refine hK _ _ ?_
          clear hK K
          refine wpAnyIn_done (by kernel_rfl) ?_ _
          obtain ⟨fr, hI⟩ := app_round rfl hW7 hB hb2 (by omega) HC0.out HC1.out HC3.out HH4.out HH5.out HSN.out hb3 hgrow hown
          exact ⟨by rw [hsz]; exact fr.1, fr.2.1, hI⟩
        · go_simp
          refine hK _ _ ?_
          clear hK K
          refine wpAnyIn_ready (rs := [0, 2]) (by kernel_rfl) (by simp) ?_
          refine AllReadyIn.cons rfl (fun K hK => ?_) (AllReadyIn.cons rfl (fun K hK => ?_) AllReadyIn.nil)
          · go_simp
            refine hK _ _ ?_
            clear hK K
            refine wpAnyIn_ready (rs := [2]) (by kernel_rfl) (by simp) ?_
            refine AllReadyIn.cons rfl (fun K hK => ?_) AllReadyIn.nil
            go_simp
            refine ⟨trivial, ?_⟩
            refine (CallsIn.inRound r (callsIn_wide.2 (hcl _))).mono ?_
            rintro e W3 ⟨rfl, hb3⟩
            have k4 := (show Cs W3 (w.heap.size + 1 + 1) 26 #[.slice A pre.length cv] from HH4.out.drew.below hb3 HH4.out.lt)
            have e4' := k4.cell 0 rfl
            have HKB := Lib.hid k4
            refine hK _ _ ?_
            clear hK K k4
            refine wpAnyIn_ready (rs := [3]) (by kernel_rfl) (by simp) ?_
            refine AllReadyIn.cons rfl (fun K hK => ?_) AllReadyIn.nil
            go_simp
            refine hK _ _ ?_
            clear hK K
            have e4b := (HKB.out.alloc (.cells #[.string x] 9)).cell 0 rfl
            refine wpAnyIn_ready (rs := [4]) (by kernel_rfl) (by simp) ?_
            refine AllReadyIn.cons rfl (fun K hK => ?_) AllReadyIn.nil
            refine stepIn_append rfl (.tmp 18) (.tmp 21) 26 rfl (w.heap.size + 1 + 1 + 1 + 1 + 1 + 1 + 1) 9 i0 (.string ⟨#[]⟩) 1 16 Tryd.underlying26 hi hz0 hz1 hz2 rfl (by decide) (.slice A pre.length cv) pre.length (strsOf (kept pre)) rfl ((own_below (W := W2.drew) HH5.out hb3).alloc _) ⟨W3.heap.size, 0, none⟩ 1 1 (strsOf [x]) rfl rfl (cell_one_new _ _ _) (by intro u hu; simp [strsOf] at hu; subst hu; rfl) (by unfold maxLen; omega) (by omega) (by have := hb3.size; have := hb2.size; simp at *; omega) ?_
            intro v' W4 hown hgrow
            obtain ⟨g', cap', rfl⟩ := ownsRow_succ hown
            have q4 := app_cell HH4.out HH5.out hb3 hgrow
            have e5 := q4.cell 0 rfl
            have f5 := q4.frozen 0
            refine hK _ _ ?_
            clear hK K q4
            refine wpAnyIn_ready (rs := [5]) (by kernel_rfl) (by simp) ?_
            refine AllReadyIn.cons rfl (fun K hK => ?_) AllReadyIn.nil
            go_simp
            refine hK _ _ ?_
            clear hK K
            refine wpAnyIn_done (by kernel_rfl) ?_ _
            obtain ⟨fr, hI⟩ := app_round rfl hW7 hB hb2 (by omega) HC0.out HC1.out HC3.out HH4.out HH5.out HSN.out hb3 hgrow hown
            exact ⟨by rw [hsz]; exact fr.1, fr.2.1, hI⟩
          · go_simp
            refine ⟨trivial, ?_⟩
            refine (CallsIn.inRound r (callsIn_wide.2 (hcl _))).mono ?_
            rintro e W3 ⟨rfl, hb3⟩
            have k4 := (show Cs W3 (w.heap.size + 1 + 1) 26 #[.slice A pre.length cv] from HH4.out.drew.below hb3 HH4.out.lt)
            have e4' := k4.cell 0 rfl
            have HKB := Lib.hid k4
            refine hK _ _ ?_
            clear hK K k4
            refine wpAnyIn_ready (rs := [0, 3]) (by kernel_rfl) (by simp) ?_
            refine AllReadyIn.cons rfl (fun K hK => ?_) (AllReadyIn.cons rfl (fun K hK => ?_) AllReadyIn.nil)
            · go_simp
              refine hK _ _ ?_
              clear hK K
              refine wpAnyIn_ready (rs := [3]) (by kernel_rfl) (by simp) ?_
              refine AllReadyIn.cons rfl (fun K hK => ?_) AllReadyIn.nil
              go_simp
              refine hK _ _ ?_
              clear hK K
              have e4b := (HKB.out.alloc (.cells #[.string x] 9)).cell 0 rfl
              refine wpAnyIn_ready (rs := [4]) (by kernel_rfl) (by simp) ?_
              refine AllReadyIn.cons rfl (fun K hK => ?_) AllReadyIn.nil
              refine stepIn_append rfl (.tmp 18) (.tmp 21) 26 rfl (w.heap.size + 1 + 1 + 1 + 1 + 1 + 1 + 1) 9 i0 (.string ⟨#[]⟩) 1 16 Tryd.underlying26 hi hz0 hz1 hz2 rfl (by decide) (.slice A pre.length cv) pre.length (strsOf (kept pre)) rfl ((own_below (W := W2.drew) HH5.out hb3).alloc _) ⟨W3.heap.size, 0, none⟩ 1 1 (strsOf [x]) rfl rfl (cell_one_new _ _ _) (by intro u hu; simp [strsOf] at hu; subst hu; rfl) (by unfold maxLen; omega) (by omega) (by have := hb3.size; have := hb2.size; simp at *; omega) ?_
              intro v' W4 hown hgrow
              obtain ⟨g', cap', rfl⟩ := ownsRow_succ hown
              have q4 := app_cell HH4.out HH5.out hb3 hgrow
              have e5 := q4.cell 0 rfl
              have f5 := q4.frozen 0
              refine hK _ _ ?_
              clear hK K q4
              refine wpAnyIn_ready (rs := [5]) (by kernel_rfl) (by simp) ?_
              refine AllReadyIn.cons rfl (fun K hK => ?_) AllReadyIn.nil
              go_simp
              refine hK _ _ ?_
              clear hK K
              refine wpAnyIn_done (by kernel_rfl) ?_ _
              obtain ⟨fr, hI⟩ := app_round rfl hW7 hB hb2 (by omega) HC0.out HC1.out HC3.out HH4.out HH5.out HSN.out hb3 hgrow hown
              exact ⟨by rw [hsz]; exact fr.1, fr.2.1, hI⟩
            · go_simp
              refine hK _ _ ?_
              clear hK K
              have e4b := (HKB.out.alloc (.cells #[.string x] 9)).cell 0 rfl
              refine wpAnyIn_ready (rs := [0]) (by kernel_rfl) (by simp) ?_
              refine AllReadyIn.cons rfl (fun K hK => ?_) AllReadyIn.nil
              go_simp
              refine hK _ _ ?_
              clear hK K
              refine wpAnyIn_ready (rs := [4]) (by kernel_rfl) (by simp) ?_
              refine AllReadyIn.cons rfl (fun K hK => ?_) AllReadyIn.nil
              refine stepIn_append rfl (.tmp 18) (.tmp 21) 26 rfl (w.heap.size + 1 + 1 + 1 + 1 + 1 + 1 + 1) 9 i0 (.string ⟨#[]⟩) 1 16 Tryd.underlying26 hi hz0 hz1 hz2 rfl (by decide) (.slice A pre.length cv) pre.length (strsOf (kept pre)) rfl ((own_below (W := W2.drew) HH5.out hb3).alloc _) ⟨W3.heap.size, 0, none⟩ 1 1 (strsOf [x]) rfl rfl (cell_one_new _ _ _) (by intro u hu; simp [strsOf] at hu; subst hu; rfl) (by unfold maxLen; omega) (by omega) (by have := hb3.size; have := hb2.size; simp at *; omega) ?_
              intro v' W4 hown hgrow
              obtain ⟨g', cap', rfl⟩ := ownsRow_succ hown
              have q4 := app_cell HH4.out HH5.out hb3 hgrow
              have e5 := q4.cell 0 rfl
              have f5 := q4.frozen 0
              refine hK _ _ ?_
              clear hK K q4
              refine wpAnyIn_ready (rs := [5]) (by kernel_rfl) (by simp) ?_
              refine AllReadyIn.cons rfl (fun K hK => ?_) AllReadyIn.nil
              go_simp
              refine hK _ _ ?_
              clear hK K
              refine wpAnyIn_done (by kernel_rfl) ?_ _
              obtain ⟨fr, hI⟩ := app_round rfl hW7 hB hb2 (by omega) HC0.out HC1.out HC3.out HH4.out HH5.out HSN.out hb3 hgrow hown
              exact ⟨by rw [hsz]; exact fr.1, fr.2.1, hI⟩
  case done =>
    clear hbx hI0
    rintro D ys W hD hS ⟨⟨d0, d1, d3, v, d4, d5⟩, hall, hB, -⟩ hK
    have hlen : (LL ys).length = ys.length := LL_length ys
    obtain ⟨A, cv, rfl, -⟩ := own_rds d5 rfl
    have e3 := d3.cell 0 rfl
    have e4 := d4.cell 0 rfl
    have f0 := d0.frozen 0
    have f1 := d1.frozen 0
    have e0 := d0.cell 0 rfl
    have e1 := d1.cell 0 rfl
    have hDl : w.heap.size + 1 < D := by omega
    have hKs : ∀ u v, ((W.setCell ⟨w.heap.size, 0, none⟩ u).setCell ⟨w.heap.size + 1, 0, none⟩ v).heap[D]? = some (.deferred (some [])) := fun u v =>
      (Below.heap_setCell _ _ _ D (by dsimp only; omega)).trans ((Below.heap_setCell _ _ _ D (by dsimp only; omega)).trans hK)
    have HKS := Lib.hid hKs
    clear hKs
    by_cases h4 : 4 < ys.length
    · rw [decide_eq_true h4] at e3
      have HS := Lib.hid hS
      have HALL := Lib.hid hall
      have HD0 := Lib.hid d0
      have HD1 := Lib.hid d1
      clear hS hall d0 d1 d3 d4 d5
      gi_wp2
      refine ⟨by simp, .inl ⟨_, _, rfl, run_takeDeferred (HKS.out _ _), ?_⟩⟩
      have g0 := ((HD0.out.set 0 (.slice none 0 0)).far (p := ⟨w.heap.size + 1, 0, none⟩) (by dsimp only; omega) (.int .i64 3)).put (.deferred none) (HKS.out _ _) rfl
      have g1 := ((HD1.out.far (p := ⟨w.heap.size, 0, none⟩) (by dsimp only; omega) (.slice none 0 0)).set 0 (.int .i64 3)).put (.deferred none) (HKS.out _ _) rfl
      refine ⟨_, results_cells2 rfl _ _ ⟨w.heap.size, 0, none⟩ ⟨w.heap.size + 1, 0, none⟩ (.slice none 0 0) (.int .i64 3) rfl rfl (load_slice _ _ _ _ _ (g0.cell 0 rfl)) (load_errno _ _ _ (g1.cell 0 rfl)), ?_⟩
      have hp : pathL (L s) = ([], 3) := by
        unfold pathL
        rw [if_neg HNE.out, ← HS.out, if_neg (by rw [HALL.out]; decide), if_pos (by rw [hlen]; exact h4)]
      have hb3 := (hB.setCell (p := ⟨w.heap.size, 0, none⟩) (Nat.le_refl _) (.slice none 0 0)).setCell (p := ⟨w.heap.size + 1, 0, none⟩) (by dsimp only; omega) (.int .i64 3)
      exact ⟨none, 0, [], by rw [hp]; rfl, by rw [hp]; rfl, .inl rfl, fun _ => ⟨rfl, rfl⟩, Nat.le_refl _, Nat.zero_le _, hb3.trans (belowK_b (w := w) (Nat.le_refl _) _ D _ _ (by omega) (HKS.out _ _) rfl rfl)⟩
    · rw [decide_eq_false h4] at e3
      have HS := Lib.hid hS
      have HALL := Lib.hid hall
      have HD0 := Lib.hid d0
      have HD1 := Lib.hid d1
      have HD5 := Lib.hid d5
      have hke : kept ys = ys := by unfold kept; rw [List.take_of_length_le (by omega)]
      have HKE := Lib.hid hke
      clear hS hall d0 d1 d3 d4 d5 hke
      gi_wp2
      refine ⟨by simp, .inl ⟨_, _, rfl, run_takeDeferred (HKS.out _ _), ?_⟩⟩
      have g0 := ((HD0.out.set 0 (.slice A (kept ys).length cv)).far (p := ⟨w.heap.size + 1, 0, none⟩) (by dsimp only; omega) (.int .i64 0)).put (.deferred none) (HKS.out _ _) rfl
      have g1 := ((HD1.out.far (p := ⟨w.heap.size, 0, none⟩) (by dsimp only; omega) (.slice A (kept ys).length cv)).set 0 (.int .i64 0)).put (.deferred none) (HKS.out _ _) rfl
      refine ⟨_, results_cells2 rfl _ _ ⟨w.heap.size, 0, none⟩ ⟨w.heap.size + 1, 0, none⟩ (.slice A (kept ys).length cv) (.int .i64 0) rfl rfl (load_slice _ _ _ _ _ (g0.cell 0 rfl)) (load_errno _ _ _ (g1.cell 0 rfl)), ?_⟩
      have hp : pathL (L s) = (splitL (L s), 0) := by
        unfold pathL
        rw [if_neg HNE.out, ← HS.out, if_neg (by rw [HALL.out]; decide), if_neg (by rw [hlen]; omega)]
      have hb3 := (hB.setCell (p := ⟨w.heap.size, 0, none⟩) (Nat.le_refl _) (.slice A (kept ys).length cv)).setCell (p := ⟨w.heap.size + 1, 0, none⟩) (by dsimp only; omega) (.int .i64 0)
      have hne : ∀ q, q < w.heap.size + 1 + 1 + 1 + 1 + 1 + 1 + 1 → (Value.slice A (kept ys).length cv).ownBlock = none ∨ (Value.slice A (kept ys).length cv).ownBlock ≠ some q := by
        intro q hq
        rcases hu : (Value.slice A (kept ys).length cv).ownBlock with _ | g
        · exact .inl rfl
        · refine .inr fun e => ?_
          have := own_base HD5.out g hu
          injection e with e
          omega
      have hw5 := ownsRow_putObj ((HD5.out.kept (grownBy_setCell' W w.heap.size (.slice A (kept ys).length cv)) (hne _ (by omega))).kept (grownBy_setCell' _ (w.heap.size + 1) (.int .i64 0)) (hne _ (by omega))) (.deferred none) (HKS.out _ _) rfl
      obtain ⟨r1, r2, r3, r4⟩ := own_slice hw5 rfl
      exact ⟨A, cv, kept ys, by rw [hp], by rw [hp, HKE.out]; exact HS.out, r1, r4, r2, r3, hb3.trans (belowK_b (w := w) (Nat.le_refl _) _ D _ _ (by omega) (HKS.out _ _) rfl rfl)⟩
  case stop =>
    clear hbx hI0
    rintro D c pre W hD ⟨rest, hS⟩ ⟨⟨rfl, d0, d1⟩, hall, hB⟩ hK
    have HS := Lib.hid hS
    have HALL := Lib.hid hall
    have hDl : w.heap.size + 1 < D := by omega
    clear hS hall
    gi_wp2
    refine ⟨by simp, .inl ⟨_, _, rfl, run_takeDeferred hK, ?_⟩⟩
    have g0 := d0.put (.deferred none) hK rfl
    have g1 := d1.put (.deferred none) hK rfl
    refine ⟨_, results_cells2 rfl _ _ ⟨w.heap.size, 0, none⟩ ⟨w.heap.size + 1, 0, none⟩ (.slice none 0 0) (.int .i64 5) rfl rfl (load_slice _ _ _ _ _ (g0.cell 0 rfl)) (load_errno _ _ _ (g1.cell 0 rfl)), ?_⟩
    have hp : pathL (L s) = ([], 5) := by
      unfold pathL
      rw [if_neg HNE.out, HS.out, if_pos (by rw [List.all_append, HALL.out]; rfl)]
    exact ⟨none, 0, [], by rw [hp]; rfl, by rw [hp]; rfl, .inl rfl, fun _ => ⟨rfl, rfl⟩, Nat.le_refl _, Nat.zero_le _, hB.trans (belowK_b (w := w) (Nat.le_refl _) _ D _ _ (by omega) hK rfl rfl)⟩
end Go.Proofs.YtmmkoonnklfjkaaDoor
