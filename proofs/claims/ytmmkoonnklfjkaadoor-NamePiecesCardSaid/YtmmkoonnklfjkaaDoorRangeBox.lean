/- A range over a function whose iterator keeps what is left in a box of its own (a variable that its closure captures, made ahead of the loop). -/
import Derived.RangeFuncNested
import Derived.RangeFuncBound
import Derived.RangeFuncCalls
import Derived.RangeFuncLeaves
import Derived.RangeFuncBox
import Derived.Below
namespace Go.Proofs.YtmmkoonnklfjkaaDoor
open Go.RowKit

/-- The iterator's word: what it stores between two rounds goes into block Bs alone. The caller's invariants abide such stores; in return the iterator's body may make them. -/
def SeqBox {α : Type} (F : Fence) (n : Nat) (P : Program) (g : Nat) (lb : Array Value) (encs : α → Array Value) (Kp : World → World → Prop) (S Sp : List α → Prop) (N Bs : Nat) (w : World) : Prop :=
  ∀ (l : Nat) (J Jx : List α → World → Prop) (W : World), Below w.heap.size w W → AbidesFrom W.heap.size J → AbidesFrom W.heap.size Jx → (∀ s X v, J s X → J s (X.setCell ⟨Bs, 0, none⟩ v)) →
    (∀ pre x X, J pre X → pre.length < N → YieldAt F (n - 1) P l (encs x) X fun e W' =>
      (e = .returned (.bool true) ∧ J (pre ++ [x]) W' ∧ Kp X W') ∨ (e = .returned (.bool false) ∧ Jx (pre ++ [x]) W')) →
    J [] W →
    CallsIn F n P g (#[.func (.yield l) #[] #[]] ++ lb) W fun e W' => (∃ v, e = .returned v) ∧ ((∃ xs, S xs ∧ J xs W') ∨ (∃ pre, Sp pre ∧ Jx pre W'))

/-- the loop's own two blocks: its record in block D + 1, the rounds' deferred calls in block D -/
structure Book (D : Nat) (r : Loop) (W : World) : Prop where
  loop : W.heap[D + 1]? = some (.loop r)
  late : W.heap[D]? = some (.deferred (some []))
theorem Book.lt {D : Nat} {r : Loop} {W : World} (h : Book D r W) : D + 1 < W.heap.size := (Array.getElem?_eq_some_iff.1 h.loop).1
theorem Book.walk {D : Nat} {r : Loop} {X Y : World} {row : Option Nat} (h : Book D r X) (hg : X.grownBy Y row) (hr : ∀ q, row = some q → ∃ o : Obj, X.heap[q]? = some o ∧ o.isWalk = true) : Book D r Y :=
  ⟨(grownBy_keeps hg hr h.loop rfl).trans h.loop, (grownBy_keeps hg hr h.late rfl).trans h.late⟩
theorem Book.store {D : Nat} {r : Loop} {X : World} (h : Book D r X) {p : Addr} (hp : p.block < D) (v : Value) : Book D r (X.setCell p v) :=
  ⟨(Below.heap_setCell X p v (D + 1) (by omega)).trans h.loop, (Below.heap_setCell X p v D (by omega)).trans h.late⟩
theorem Book.from {D : Nat} {r : Loop} {X Y : World} (h : Book D r X) (k : KeepsFrom D X Y) : Book D r Y :=
  ⟨k.same _ _ (by omega) h.loop rfl, k.same _ _ (Nat.le_refl _) h.late rfl⟩
theorem Book.put {D : Nat} {r : Loop} {X : World} (h : Book D r X) (r' : Loop) : Book D r' (X.putObj (D + 1) (.loop r')) :=
  ⟨World.putObj_heap_same h.lt, (World.putObj_heap_other (by omega)).trans h.late⟩

variable {F : Fence} {n : Nat} {P : Program}

/-- THE LAW: beside what is asked anywhere, that the caller's invariants abide a store into the iterator's box. -/
theorem wpIn_rangeBox {α : Type} {g : Operand} {ps : Array Tmp} {assign body : Code} {Q : Exit → Act → World → Prop} {a : Act} {w : World}
    (hro : F.round = none) (h1 : 1 ≤ n) {gf : Nat} {lb : Array Value} (hg : a.eval g = .func (.func gf) #[] lb) (hFg : F.fn gf) (eg : ∀ args w, (callFunc gf args).run P w = .ok (.enter gf args) w)
    {encs : α → Array Value} {Kp : World → World → Prop} {S Sp : List α → Prop} {N Bs : Nat} (hseq : SeqBox F (n - 1) P gf lb encs Kp S Sp N Bs w) (hBs : Bs < w.heap.size)
    (hKt : ∀ {A B C : World}, Kp A B → Kp B C → Kp A C) (hKb : ∀ (W : World) (l : Nat) (o o' : Obj), w.heap.size ≤ l → W.heap[l]? = some o → o.isCells = false → o.isWalk = false → Kp W (W.putObj l o'))
    (hps : ∀ x, (encs x).size = ps.size) (I : List α → World → Prop) (Ix : Code → List α → World → Prop) (hI : OwnFrom w.heap.size I) (hIx : ∀ c, OwnFrom w.heap.size (Ix c))
    (hIB : ∀ s X v, I s X → I s (X.setCell ⟨Bs, 0, none⟩ v)) (h0 : I [] w) (a₁ : α → Act)
    (hassign : ∀ (l : Nat) (x : α) (W : World) (K : Act → World → Prop), K (a₁ x) W →
      assign.wpIn (F.inRound l) (n - 1 - 1) P (Exit.then K (fun _ _ _ => False)) { tmps := (ps.zip (encs x)).foldl (fun t (p, v) => t.setIfInBounds p v) a.tmps, defers := [] } W)
    (hbody : ∀ (l : Nat) (pre : List α) (x : α) (W : World), I pre W → pre.length < N → body.wpIn (F.inRound l) (n - 1 - 1) P (ownPostG w.heap.size Kp I Ix (pre ++ [x]) W) (a₁ x) W)
    (hdone : ∀ (D : Nat) (xs : List α) (W : World), w.heap.size ≤ D → S xs → I xs W → W.heap[D]? = some (.deferred (some [])) → Q .normal { a with defers := { target := .collected D, args := #[] } :: a.defers } W)
    (hstop : ∀ (D : Nat) (c : Code) (pre : List α) (W : World), w.heap.size ≤ D → Sp pre → Ix c pre W → W.heap[D]? = some (.deferred (some [])) → c.wpIn F n P Q { a with defers := { target := .collected D, args := #[] } :: a.defers } W) :
    (Code.rangeFunc g ps assign body).wpIn F n P Q a w := by
  refine wpIn_rangeFunc fun fn hfn => ?_
  rw [hro]
  let r : LoopState → Option Code → Loop := fun st pe => { state := st, pending := pe, fn, tmps := a.tmps, params := ps, assign, body, defers := w.heap.size }
  have hbook : Book w.heap.size (r .ready none) ((w.alloc (.deferred (some []))).alloc (.loop (r .ready none))) := by
    refine ⟨?_, (Below.heap_alloc _ _ _ (by simp)).trans (World.alloc_heap_new w _)⟩
    have := World.alloc_heap_new (w.alloc (.deferred (some []))) (.loop (r .ready none))
    rwa [World.size_alloc] at this
  have hb : Below w.heap.size w ((w.alloc (.deferred (some []))).alloc (.loop (r .ready none))) := ((Below.refl _ w).alloc (Nat.le_refl _) _).alloc (by simp) _
  have hstart : I [] ((w.alloc (.deferred (some []))).alloc (.loop (r .ready none))) := hI.alloc _ (hI.alloc _ h0)
  have henter := run_enterLoop_outer (P := P) (w := w) fn a.tmps ps assign body
  change (Instr.enterLoop fn a.tmps ps assign body none).run P w = .ok (w.heap.size + 1, [{ target := .collected w.heap.size, args := #[] }]) ((w.alloc (.deferred (some []))).alloc (.loop (r .ready none))) at henter
  have hsz : ((w.alloc (.deferred (some []))).alloc (.loop (r .ready none))).heap.size = w.heap.size + 2 := by simp
  generalize (w.alloc (.deferred (some []))).alloc (.loop (r .ready none)) = W1 at *
  refine ⟨w.heap.size + 1, [{ target := .collected w.heap.size, args := #[] }], W1, { target := .fn (.func gf) lb, args := #[.func (.yield (w.heap.size + 1)) #[] #[]] }, W1, gf,
    #[.func (.yield (w.heap.size + 1)) #[] #[]] ++ lb, W1, henter, ?_, ?_, ?_, fun _ => h1, ?_⟩
  · simp only [resolve, hg]
    simp [go_sem]
  · intro f' hf'
    simp [Target.leads] at hf'
    subst hf'
    exact hFg
  · simp [invoke, go_sem, eg]
  have far : ∀ {X : World} {row : Option Nat}, (∀ q, row = some q → W1.heap.size ≤ q ∧ ∃ o : Obj, X.heap[q]? = some o ∧ o.isWalk = true) → ∀ q, row = some q → w.heap.size ≤ q ∧ ∃ o : Obj, X.heap[q]? = some o ∧ o.isCells = false :=
    fun h q e => by
      obtain ⟨h2, o, ho, hw⟩ := h q e
      exact ⟨by omega, o, ho, Obj.not_cells_of_walk hw⟩
  refine (hseq (w.heap.size + 1) (fun pre W => I pre W ∧ Book w.heap.size (r .ready none) W) (fun pre W => ∃ c, Ix c pre W ∧ Book w.heap.size (r .done (some c)) W) W1 hb
    (fun s A B row hs hg' hr => ⟨hI s A B row hs.1 hg' (far hr), hs.2.walk hg' fun q e => (hr q e).2⟩)
    (fun s A B row hs hg' hr => by
      obtain ⟨c, hc, hk⟩ := hs
      exact ⟨c, hIx c s A B row hc hg' (far hr), hk.walk hg' fun q e => (hr q e).2⟩)
    (fun s X v hs => ⟨hIB s X v hs.1, hs.2.store hBs v⟩) ?_ ⟨hstart, hbook⟩).mono ?_
  · -- one round
    rintro pre x W ⟨hi, hk⟩ hlen
    have hy := run_yield (P := P) (args := encs x) hk.loop (hps x)
    refine ⟨fn, _, assign, body, hy, roundIn_of_wpIn hfn (hassign _ x W _ ⟨_, run_beginRound hk.loop rfl, ?_⟩)⟩
    have hbusy : Book w.heap.size (r .busy none) (W.putObj (w.heap.size + 1) (.loop (r .busy none))) := hk.put _
    have hk0 : Kp W (W.putObj (w.heap.size + 1) (.loop (r .busy none))) := hKb _ _ _ _ (by omega) hk.loop rfl rfl
    refine wpIn_mono (hbody _ pre x _ (hI.putObj _ hi (by omega) hk.loop rfl) hlen) ?_
    rintro e a3 W3 hp
    have away : ∀ (c : Code), KeepsFrom w.heap.size (W.putObj (w.heap.size + 1) (.loop (r .busy none))) W3 → Ix c (pre ++ [x]) W3 →
        (Instr.endRound (w.heap.size + 1) (some c)).run P W3 = .ok (.bool false) (W3.putObj (w.heap.size + 1) (.loop (r .done (some c)))) ∧ Ix c (pre ++ [x]) (W3.putObj (w.heap.size + 1) (.loop (r .done (some c)))) ∧ Book w.heap.size (r .done (some c)) (W3.putObj (w.heap.size + 1) (.loop (r .done (some c)))) :=
      fun c kf hx => ⟨run_endRound (some c) (hbusy.from kf).loop, (hIx c).putObj _ hx (by omega) (hbusy.from kf).loop rfl, (hbusy.from kf).put _⟩
    cases e with
    | normal =>
      obtain ⟨kf, kp, hi3⟩ := hp
      have hb3 := hbusy.from kf
      exact ⟨_, _, run_endRound none hb3.loop, .inl ⟨rfl, ⟨hI.putObj _ hi3 (by omega) hb3.loop rfl, hb3.put _⟩, hKt (hKt hk0 kp) (hKb _ _ _ _ (by omega) hb3.loop rfl rfl)⟩⟩
    | ret => obtain ⟨h1, h2, h3⟩ := away _ hp.1 hp.2; exact ⟨_, _, h1, .inr ⟨rfl, _, h2, h3⟩⟩
    | exit id => obtain ⟨h1, h2, h3⟩ := away _ hp.1 hp.2; exact ⟨_, _, h1, .inr ⟨rfl, _, h2, h3⟩⟩
    | goto t => obtain ⟨h1, h2, h3⟩ := away _ hp.1 hp.2; exact ⟨_, _, h1, .inr ⟨rfl, _, h2, h3⟩⟩
    | panic ch => exact hp.elim
    | outgrown => exact hp.elim
  · -- behind the iterator
    rintro e W2 ⟨⟨v, rfl⟩, (⟨xs, hS, hi, hk⟩ | ⟨pre, hSp, c, hi, hk⟩)⟩
    · exact ⟨none, _, run_endLoop hk.loop (by simp [r]), hdone _ xs _ (Nat.le_refl _) hS (hI.putObj _ hi (by omega) hk.loop rfl) ((World.putObj_heap_other (by omega)).trans hk.late)⟩
    · exact ⟨some c, _, run_endLoop hk.loop (by simp [r]), hstop _ c pre _ (Nat.le_refl _) hSp ((hIx c).putObj _ hi (by omega) hk.loop rfl) ((World.putObj_heap_other (by omega)).trans hk.late)⟩

/-- what lies in these blocks stays -/
def KeepsBlk (bs : List Nat) (X Y : World) : Prop := ∀ b ∈ bs, ∀ o, X.heap[b]? = some o → Y.heap[b]? = some o
theorem KeepsBlk.trans {bs : List Nat} {X Y Z : World} (h : KeepsBlk bs X Y) (k : KeepsBlk bs Y Z) : KeepsBlk bs X Z := fun b hb o ho => k b hb o (h b hb o ho)
theorem keepsBlk_b {bs : List Nat} {w : World} (hbs : ∀ b ∈ bs, b < w.heap.size) (W : World) (l : Nat) (o o' : Obj) (hl : w.heap.size ≤ l) (_ : W.heap[l]? = some o) (_ : o.isCells = false) (_ : o.isWalk = false) : KeepsBlk bs W (W.putObj l o') :=
  fun b hb q hq => (World.putObj_heap_other (by have := hbs b hb; omega)).trans hq
theorem KeepsBlk.cell {bs : List Nat} {X Y : World} (h : KeepsBlk bs X Y) {b : Nat} (hb : b ∈ bs) {cs : Array Value} {t : TypeId} {fz : Nat × Nat} (hx : X.heap[b]? = some (.cells cs t fz)) : Y.heap[b]? = some (.cells cs t fz) := h b hb _ hx

end Go.Proofs.YtmmkoonnklfjkaaDoor
