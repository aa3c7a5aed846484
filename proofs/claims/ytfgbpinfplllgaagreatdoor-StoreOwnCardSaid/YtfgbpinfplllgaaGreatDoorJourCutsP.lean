/- SWEPT -/
import Derived.Deep.Slices
import Derived.Test.YtfgbpinfplllgaaGreatDoorJourOwnW
set_option linter.unusedVariables false
set_option linter.unusedSimpArgs false
namespace Go.Proofs.YtfgbpinfplllgaaGreatDoor
open Go.RowKit Go.Shelf
set_option maxRecDepth 100000
def Else (F : Nat → Prop) (w : World) (i : Nat) : Prop := ¬ F i ∧ i < w.heap.size
structure Foot (F : Nat → Prop) (w : World) (F' : Nat → Prop) (w' : World) : Prop where
  turn : Turn w w' F
  take : ∀ i, F' i → (F i ∨ w.heap.size ≤ i) ∧ i < w'.heap.size
theorem Foot.els {F F' : Nat → Prop} {w w' : World} (h : Foot F w F' w') {i : Nat} (hi : Else F w i) : Else F' w' i :=
  ⟨fun hf => by rcases (h.take i hf).1 with h1 | h1; exact hi.1 h1; exact absurd hi.2 (Nat.not_lt.2 h1), Nat.lt_of_lt_of_le hi.2 h.turn.size⟩
theorem Foot.ownR {F F' : Nat → Prop} {w w' : World} (h : Foot F w F' w') {base : Nat} {v : Value} {ls : List (List UInt8)} (hr : OwnR w base (Else F w) v ls) : OwnR w' base (Else F' w') v ls :=
  (hr.turn h.turn fun k hk => hk.1).mono fun k _ hk => h.els hk
theorem Foot.cs {F F' : Nat → Prop} {w w' : World} (h : Foot F w F' w') {g : Nat} {t : TypeId} {cs : Array Value} (hc : Cs w g t cs) (hg : Else F w g) : Cs w' g t cs ∧ Else F' w' g := ⟨hc.turn h.turn hg.1, h.els hg⟩
theorem Foot.below {F F' : Nat → Prop} {w0 w w' : World} (h : Foot F w F' w') (hb : Below w0.heap.size w0 w) (hF : ∀ i, F i → w0.heap.size ≤ i) : Below w0.heap.size w0 w' := hb.trans (h.turn.below hb.size hF)
theorem Foot.of_below {F : Nat → Prop} {w w' : World} (hb : Below w.heap.size w w') (hF : ∀ i, F i → i < w.heap.size) : Foot F w F w' := ⟨Turn.of_below hb F, fun i hi => ⟨.inl hi, Nat.lt_of_lt_of_le (hF i hi) hb.size⟩⟩
theorem OnJ.tight {w : World} {jb d : Nat} {v : Value} {j : JS} {s : DS} {H : Nat} {F : Nat → Prop} (h : OnJ w jb d v j s H F) : OnJ w jb d v j s H (fun i => F i ∧ i < w.heap.size) := h.mono fun k hk hf => ⟨hf, hk⟩
theorem Tells.own {s : DS} {H : Nat} {j : JS} (h : Tells s H j) {now : List (List UInt8)} (hb : batchesT s.laid H = now) : j.batches = now := h.batches.trans hb
theorem Head.up {H i : Nat} {s : DS} {now : List (List UInt8)} (h : Head H s now i) : Head H s now (i + 1) := ⟨h.light, h.queue, h.young, h.blocks, h.within, h.there, h.batches, by have := h.next; omega, by have := h.steps; omega⟩
structure CutI (w : World) (d jb : Nat) (A : Option Addr) (c k : Nat) (now : List (List UInt8)) (F : Nat → Prop) (v : Value) (s : DS) (j : JS) (wr : World) : Prop where
  on : OnJ wr jb d v j s 64 F
  tells : Tells s 64 j
  head : Head 64 s now k
  mem : ∀ i, F i → w.heap.size ≤ i ∧ i < wr.heap.size
  now' : RdR wr (Else F wr) A now
  non : A = none → now = [] ∧ c = 0
  cap : now.length ≤ c ∧ c ≤ maxLen
  short : ∀ b ∈ now, b.length ≤ 2000
  below : Below w.heap.size w wr
theorem CutI.few {w : World} {d jb : Nat} {A : Option Addr} {c k : Nat} {now : List (List UInt8)} {F : Nat → Prop} {v : Value} {s : DS} {j : JS} {wr : World} (h : CutI w d jb A c k now F v s j wr) : now.length ≤ 8192 := by
  obtain ⟨FD, FJ, h1, h2, _⟩ := h.on
  have := h2.few
  rw [h.tells.own h.head.batches] at this
  omega
theorem RdI.old {w w' : World} {A : Option Addr} {l : List Int} (h : RdI w A l) (hb : Below w.heap.size w w') : RdI w' A l := by
  rcases h with h | ⟨b, f, e, hc⟩
  · exact .inl h
  · exact .inr ⟨b, f, e, fun j hj => (hb.cell (lt_of_cell (hc j hj))).trans (hc j hj)⟩
def Old (F : Nat → Prop) (B i : Nat) : Prop := ¬ F i ∧ i < B
theorem Foot.old {F F' : Nat → Prop} {w w' : World} (h : Foot F w F' w') {B : Nat} (hB : B ≤ w.heap.size) {A : Option Addr} {ls : List (List UInt8)} (hr : RdR w (Old F B) A ls) : RdR w' (Old F' B) A ls :=
  (hr.turn h.turn fun k hk => hk.1).mono fun k hk => ⟨fun hf => by rcases (h.take k hf).1 with h1 | h1; exact hk.1 h1; have := hk.2; omega, hk.2⟩
theorem RdR.src {w : World} {F : Nat → Prop} {A : Option Addr} {ls : List (List UInt8)} (h : RdR w F A ls) (hn : ls ≠ []) : ∃ b off vs, A = some ⟨b, off, none⟩ ∧ BsL w F vs ls ∧ ∀ j v, vs[j]? = some v → w.cell? ⟨b, off + j, none⟩ = some v := by
  rcases h with h | ⟨b, off, vs, e, _, hl, hc⟩
  · exact absurd h hn
  · exact ⟨b, off, vs, e, hl, hc⟩
end Go.Proofs.YtfgbpinfplllgaaGreatDoor
