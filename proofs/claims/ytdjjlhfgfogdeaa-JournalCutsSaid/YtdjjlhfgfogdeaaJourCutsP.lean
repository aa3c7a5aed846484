/- Steps of a journal and its disk, with the memory that they take: what lies elsewhere stays. -/
import Derived.Test.YtdjjlhfgfogdeaaJourOwnW
import Derived.Deep.Slices
namespace Go.Proofs.Ytdjjlhfgfogdeaa
open Go.RowKit Go.Shelf
set_option linter.unusedVariables false
set_option maxRecDepth 100000
set_option linter.unusedSimpArgs false

/-- all blocks that are there, but those of F -/
def Else (F : Nat → Prop) (w : World) (i : Nat) : Prop := ¬ F i ∧ i < w.heap.size
/-- a step of something that lies in F: it turns nothing else, and lies in F' behind it -/
structure Foot (F : Nat → Prop) (w : World) (F' : Nat → Prop) (w' : World) : Prop where
  turn : Turn w w' F
  take : ∀ i, F' i → (F i ∨ w.heap.size ≤ i) ∧ i < w'.heap.size
theorem Foot.els {F F' : Nat → Prop} {w w' : World} (h : Foot F w F' w') {i : Nat} (hi : Else F w i) : Else F' w' i :=
  ⟨fun hf => by rcases (h.take i hf).1 with h1 | h1; exact hi.1 h1; exact absurd hi.2 (Nat.not_lt.2 h1), Nat.lt_of_lt_of_le hi.2 h.turn.size⟩
theorem Foot.rdR {F F' : Nat → Prop} {w w' : World} (h : Foot F w F' w') {A : Option Addr} {ls : List (List UInt8)} (hr : RdR w (Else F w) A ls) : RdR w' (Else F' w') A ls :=
  (hr.turn h.turn fun k hk => hk.1).mono fun k hk => h.els hk
theorem Foot.ownR {F F' : Nat → Prop} {w w' : World} (h : Foot F w F' w') {base : Nat} {v : Value} {ls : List (List UInt8)} (hr : OwnR w base (Else F w) v ls) : OwnR w' base (Else F' w') v ls :=
  (hr.turn h.turn fun k hk => hk.1).mono fun k _ hk => h.els hk
theorem Foot.cs {F F' : Nat → Prop} {w w' : World} (h : Foot F w F' w') {g : Nat} {t : TypeId} {cs : Array Value} (hc : Cs w g t cs) (hg : Else F w g) : Cs w' g t cs ∧ Else F' w' g := ⟨hc.turn h.turn hg.1, h.els hg⟩
theorem Foot.low {F F' : Nat → Prop} {w w' : World} {B : Nat} (h : Foot F w F' w') (hB : B ≤ w.heap.size) (hF : ∀ i, F i → B ≤ i) : ∀ i, F' i → B ≤ i := fun i hi => by rcases (h.take i hi).1 with h1 | h1; exact hF i h1; omega
theorem Foot.below {F F' : Nat → Prop} {w0 w w' : World} (h : Foot F w F' w') (hb : Below w0.heap.size w0 w) (hF : ∀ i, F i → w0.heap.size ≤ i) : Below w0.heap.size w0 w' := hb.trans (h.turn.below hb.size hF)
theorem Foot.of_below {F : Nat → Prop} {w w' : World} (hb : Below w.heap.size w w') (hF : ∀ i, F i → i < w.heap.size) : Foot F w F w' := ⟨Turn.of_below hb F, fun i hi => ⟨.inl hi, Nat.lt_of_lt_of_le (hF i hi) hb.size⟩⟩
/-- with what is new -/
def More (F : Nat → Prop) (w : World) (i : Nat) : Prop := F i ∨ w.heap.size ≤ i
/-- lent to a step that may take what is new -/
theorem Foot.more {F F' : Nat → Prop} {w w' : World} (h : Turn w w' (More F w)) (hF : ∀ i, F' i → More F w i ∧ i < w'.heap.size) : Foot F w F' w' := ⟨h.mono fun i hi hm => hm.elim id fun hge => absurd hi (Nat.not_lt.2 hge), hF⟩
theorem OnJ.tight {w : World} {jb d : Nat} {v : Value} {j : JS} {s : DS} {H : Nat} {F : Nat → Prop} (h : OnJ w jb d v j s H F) : OnJ w jb d v j s H (fun i => F i ∧ i < w.heap.size) := h.mono fun k hk hf => ⟨hf, hk⟩
theorem OnJ.more {w : World} {jb d : Nat} {v : Value} {j : JS} {s : DS} {H : Nat} {F : Nat → Prop} (h : OnJ w jb d v j s H F) : OnJ w jb d v j s H (More F w) := h.mono fun k _ hf => .inl hf
/-- the disk alone is lent -/
theorem OnJ.lend {w : World} {jb d : Nat} {v : Value} {j : JS} {s : DS} {H : Nat} {F : Nat → Prop} (h : OnJ w jb d v j s H F) (hF : ∀ k, w.heap.size ≤ k → F k) :
    ∃ FD, DiskV w d s FD ∧ (∀ k, w.heap.size ≤ k → FD k) ∧ (∀ k, FD k → F k) ∧ ∀ w' s', DiskV w' d s' FD → Turn w w' FD → s'.blocks = s.blocks → OnJ w' jb d v j s' H F := by
  have hjl := h.lt
  obtain ⟨FD, FJ, h1, h2, h3, h4, h5, h6, h7, h8⟩ := h
  refine ⟨More FD w, h1.within fun k hk _ => .inl hk, fun k hk => .inr hk, fun k hk => hk.elim (fun h => (h3 k h).1) (hF k), fun w' s' hd ht hb => ?_⟩
  have hz := ht.size
  refine ⟨fun k => More FD w k ∧ k < w'.heap.size, FJ, hd.within fun k hk hl => ⟨hk, hl⟩, h2.turn ht (fun k hk hm => ?_) (fun hm => ?_), fun k hk => ?_, fun k hk => ⟨(h4 k hk).1, by have := (h4 k hk).2; omega⟩, h5, hb.trans h6, h7, h8⟩
  · rcases hm with hm | hm
    · exact (h3 k hm).2.1 hk
    · have := (h4 k hk).2; omega
  · rcases hm with hm | hm
    · exact (h3 _ hm).2.2.1 rfl
    · omega
  · rcases hk.1 with hm | hm
    · exact ⟨(h3 k hm).1, (h3 k hm).2.1, (h3 k hm).2.2.1, hk.2⟩
    · exact ⟨hF k hm, fun hj => by have := (h4 k hj).2; omega, fun e => by omega, hk.2⟩
theorem rdf_else {w : World} {F : Nat → Prop} {A : Option Addr} {l : List UInt8} (h : RdF w (Else F w) A l) : RdF w (fun k => ¬ More F w k) A l := by
  rcases h with h | ⟨b, off, e, hb, hc⟩
  · exact .inl h
  · exact .inr ⟨b, off, e, fun hm => hm.elim hb.1 fun h => absurd hb.2 (Nat.not_lt.2 h), hc⟩
/-- Arm, in the light -/
theorem step_arm {w : World} {jb d : Nat} {v : Value} {j : JS} {s : DS} {H : Nat} {F : Nat → Prop} (h : OnJ w jb d v j s H F) (hl : s.dark = false) (n : Nat) (hn : n < 256) :
    Calls Try.prog 8 #[.pointer (some ⟨d, 0, none⟩), .int .i64 (n : Int)] w fun e w' => e = .returned (.int .i64 0) ∧ ∃ F', OnJ w' jb d v j (armed s n) H F' ∧ Foot F w F' w' := by
  obtain ⟨FD, h1, h2, h3, h4⟩ := h.more.lend fun k hk => .inr hk
  refine (Arm_v h1 h2 (n : Int) (by omega)).mono ?_
  rintro e w' ⟨rfl, hd, ht⟩
  have e1 : armE s (n : Int) = 0 := by unfold armE; rw [hl, if_neg (by decide), if_neg (by omega)]
  have e2 : armS s (n : Int) = armed s n := by unfold armS; rw [hl, if_neg (by rintro (h | h) <;> first | cases h | omega)]; rfl
  rw [e2] at hd
  rw [e1]
  exact ⟨rfl, _, (h4 w' _ hd ht rfl).tight, Foot.more (ht.mono fun i _ hi => h3 i hi) fun i hi => hi⟩
/-- Append -/
theorem step_app {w : World} {jb d : Nat} {v : Value} {j : JS} {s : DS} {H : Nat} {F : Nat → Prop} {A : Option Addr} {c : Nat} (l : List UInt8) (h : OnJ w jb d v j s H F) (hr : RdF w (Else F w) A l) (hA : A = none → l = [] ∧ c = 0) (hlc : l.length ≤ c) (hc : c ≤ maxLen)
    (hs : s.steps + 30000 < 4611686018427387904) (hq : s.q = []) :
    Calls Try.prog 11 #[.pointer (some ⟨jb, 0, none⟩), .slice A l.length c] w fun e w' => e = .returned (.int .i64 (appR s j H l).2) ∧ ∃ v' F', OnJ w' jb d v' (appJ s j H l) (appR s j H l).1 H F' ∧ Foot F w F' w' := by
  refine (Append_v (F := More F w) l h.more (fun k hk => .inr hk) (rdf_else hr) hA hlc hc hs (by rw [hq]; decide)).mono ?_
  rintro e w' ⟨he, v', ho, ht⟩
  exact ⟨he, v', _, ho.tight, Foot.more ht fun i hi => hi⟩
/-- Replace -/
theorem step_rep {w : World} {jb d : Nat} {v : Value} {j : JS} {s : DS} {H : Nat} {F : Nat → Prop} {A : Option Addr} {c : Nat} (l : List UInt8) (h : OnJ w jb d v j s H F) (hr : RdF w (Else F w) A l) (hA : A = none → l = [] ∧ c = 0) (hlc : l.length ≤ c) (hc : c ≤ maxLen)
    (hs : s.steps + 30000 < 4611686018427387904) (hq : s.q = []) :
    Calls Try.prog 10 #[.pointer (some ⟨jb, 0, none⟩), .slice A l.length c] w fun e w' => e = .returned (.int .i64 (repR s j H l).2) ∧ ∃ v' F', OnJ w' jb d v' (repJ s j H l) (repR s j H l).1 H F' ∧ Foot F w F' w' := by
  refine (Replace_v (F := More F w) l h.more (fun k hk => .inr hk) (rdf_else hr) hA hlc hc hs (by rw [hq]; decide)).mono ?_
  rintro e w' ⟨he, v', ho, ht⟩
  exact ⟨he, v', _, ho.tight, Foot.more ht fun i hi => hi⟩
/-- Crash -/
theorem step_crash {w : World} {d : Nat} {s : DS} {F : Nat → Prop} (h : DiskV w d s F) (picks : List Int) (PA : Option Addr) (pc : Nat) (hr : RdI w PA picks) (hwf : ∀ x ∈ picks, -9223372036854775808 ≤ x ∧ x ≤ 9223372036854775807) (hq : s.q.length ≤ 50) (hpl : picks.length ≤ 9223372036854775807) :
    Calls Try.prog 12 #[.pointer (some ⟨d, 0, none⟩), .slice PA picks.length pc] w fun e w' => e = .returned (.int .i64 0) ∧ ∃ F', DiskV w' d (crashed s picks) F' ∧ Foot F w F' w' := by
  refine (Crash_v (F := More F w) (h.within fun k hk _ => .inl hk) (fun k hk => .inr hk) picks PA pc hr hwf (by omega) hpl).mono ?_
  rintro e w' ⟨he, hd, ht⟩
  exact ⟨he, fun i => More F w i ∧ i < w'.heap.size, hd.within fun k hk hl => ⟨hk, hl⟩, Foot.more ht fun i hi => hi⟩
theorem Tells.own {s : DS} {H : Nat} {j : JS} (h : Tells s H j) {now : List (List UInt8)} (hb : batchesT s.laid H = now) : j.batches = now := h.batches.trans hb
/-- Open, behind a Crash -/
theorem step_open {w : World} {d H i : Nat} {s : DS} {F : Nat → Prop} {now : List (List UInt8)} (h : DiskV w d s F) (hh : Head H s now i) (hi : i ≤ 1000) (hFl : ∀ k, F k → k < w.heap.size) :
    Calls Try.prog 13 #[.pointer (some ⟨d, 0, none⟩)] w fun e w' => ∃ jb v j F', e = .returned (.tuple #[.pointer (some ⟨jb, 0, none⟩), .int .i64 0]) ∧ OnJ w' jb d v j s H F' ∧ Tells s H j ∧ Foot F w F' w' ∧ Below w.heap.size w w' := by
  obtain ⟨t1, t2, t3⟩ := open_tells hh.light hh.young hh.blocks hh.within
  have hn := hh.next
  have hu := used_le s.laid H
  refine (Open_v (Hf := H) h hh.light hh.blocks (by rw [t3]; omega)).mono ?_
  rintro e w' ⟨hb, hc⟩
  have h0 : ¬ (openJ s H).first = 0 := fun e0 => t2.1 e0 hh.there
  rw [if_neg h0] at hc
  obtain ⟨jb, v, rfl, hjb, hj⟩ := hc
  have hz := hb.size
  refine ⟨jb, v, openJ s H, fun k => (F k ∨ w.heap.size ≤ k) ∧ k < w'.heap.size, rfl, ⟨F, _, h.below hb, hj, fun k hk => ⟨⟨.inl hk, by have := hFl k hk; omega⟩, fun hx => by have := hFl k hk; omega, by have := hFl k hk; omega, by have := hFl k hk; omega⟩, fun k hk => ⟨⟨.inr hk.1, hk.2.1⟩, hk.2.1⟩, ⟨.inr hjb, hj.cells.lt⟩, hh.blocks, ?_, ?_⟩, t1, ⟨Turn.of_below hb F, fun k hk => hk⟩, hb⟩
  · rw [t1.used]; omega
  · have := t1.frm
    have hst : 0 ≤ startT H (secondT s.laid H) ∧ startT H (secondT s.laid H) ≤ H := by unfold startT; split <;> omega
    omega
theorem Head.arm {H i n : Nat} {s : DS} {now : List (List UInt8)} (h : Head H s now i) : Head H (armed s n) now i := ⟨h.light, h.queue, h.young, h.blocks, h.within, h.there, h.batches, h.next, h.steps⟩
theorem Head.up {H i : Nat} {s : DS} {now : List (List UInt8)} (h : Head H s now i) : Head H s now (i + 1) := ⟨h.light, h.queue, h.young, h.blocks, h.within, h.there, h.batches, by have := h.next; omega, by have := h.steps; omega⟩
/-- what stands at the loop's head -/
structure CutI (w : World) (d jb : Nat) (A : Option Addr) (c k : Nat) (now : List (List UInt8)) (F : Nat → Prop) (v : Value) (s : DS) (j : JS) (wr : World) : Prop where
  on : OnJ wr jb d v j s 64 F
  tells : Tells s 64 j
  head : Head 64 s now k
  mem : ∀ i, F i → w.heap.size ≤ i ∧ i < wr.heap.size
  now' : RdR wr (Else F wr) A now
  non : A = none → now = [] ∧ c = 0
  cap : now.length ≤ c ∧ c ≤ maxLen
  short : ∀ b ∈ now, b.length ≤ 2000
  below : Below w.heap.size w wr
theorem CutI.few {w : World} {d jb : Nat} {A : Option Addr} {c k : Nat} {now : List (List UInt8)} {F : Nat → Prop} {v : Value} {s : DS} {j : JS} {wr : World} (h : CutI w d jb A c k now F v s j wr) : now.length ≤ 8192 := by
  obtain ⟨FD, FJ, h1, h2, _⟩ := h.on
  have := h2.few
  rw [h.tells.own h.head.batches] at this
  omega
set_option maxHeartbeats 1000000 in
/-- Make, on a new disk, of no bytes -/
theorem cut_make {w u : World} {d : Nat} (hb : Below w.heap.size w u) (h : DiskV u d (fresh (2 * 64)) (w.heap.size ≤ ·)) :
    Calls Try.prog 7 #[.pointer (some ⟨d, 0, none⟩), .slice none 0 0] u fun e w' => ∃ jb v s j, e = .returned (.tuple #[.pointer (some ⟨jb, 0, none⟩), .int .i64 0]) ∧ OnJ w' jb d v j s 64 (fun i => w.heap.size ≤ i ∧ i < w'.heap.size) ∧ Tells s 64 j ∧ Head 64 s [[]] 0 ∧ Below w.heap.size w w' := by
  obtain ⟨m1, m2, m3, m4, m5⟩ := mak_fresh (H := 64) (l := []) (by decide) (by rw [m0]; decide) (by decide) (by decide)
  refine (Make_v (A := none) (c := 0) (Hf := 64) [] h rfl (by rw [fresh_next]; decide) (fun k hk => Nat.le_trans hb.size hk) (.inl rfl) (fun _ => ⟨rfl, rfl⟩) (Nat.le_refl _) (Nat.zero_le _) (by show 0 + 30000 < 4611686018427387904; decide) (by show 0 + 30000 < 1099511627776; decide)).mono ?_
  rintro e w' ⟨ht, hh⟩
  rcases hh with ⟨h0, _⟩ | ⟨_, jb, v, rfl, _, ho⟩
  · exact absurd m1 h0
  · exact ⟨jb, v, _, _, rfl, ho.tight, m5, m4 m0, hb.trans (ht.below hb.size fun i hi => hi)⟩
theorem RdI.old {w w' : World} {A : Option Addr} {l : List Int} (h : RdI w A l) (hb : Below w.heap.size w w') : RdI w' A l := by
  rcases h with h | ⟨b, f, e, hc⟩
  · exact .inl h
  · exact .inr ⟨b, f, e, fun j hj => (hb.cell (lt_of_cell (hc j hj))).trans (hc j hj)⟩
/-- blocks that were there ahead, but those of F -/
def Old (F : Nat → Prop) (B i : Nat) : Prop := ¬ F i ∧ i < B
theorem Foot.old {F F' : Nat → Prop} {w w' : World} (h : Foot F w F' w') {B : Nat} (hB : B ≤ w.heap.size) {A : Option Addr} {ls : List (List UInt8)} (hr : RdR w (Old F B) A ls) : RdR w' (Old F' B) A ls :=
  (hr.turn h.turn fun k hk => hk.1).mono fun k hk => ⟨fun hf => by rcases (h.take k hf).1 with h1 | h1; exact hk.1 h1; have := hk.2; omega, hk.2⟩
/-- behind an append to a list of one's own -/
theorem cut_add {w1 w2 u : World} {F : Nat → Prop} {base : Nat} {v v2 : Value} {ls2 : List (List UInt8)} (hF : ∀ i, F i → i < w1.heap.size) (h1 : Below w1.heap.size w1 w2) (h2 : w2.grownBy u v.ownBlock) (ho2 : OwnR u base (More (Else F w1) w1) v2 ls2) : OwnR u base (Else F u) v2 ls2 ∧ Turn w1 u (fun k => v.ownBlock = some k) ∧ ∀ i, F i → i < u.heap.size := by
  have hz := h1.size
  have hz2 := h2.size
  refine ⟨ho2.mono fun k hk hm => ⟨fun hf => ?_, hk⟩, (Turn.of_below h1 _).trans (Turn.of_grown h2) fun i _ e => e, fun i hi => by have := hF i hi; omega⟩
  rcases hm with hm | hm
  · exact hm.1 hf
  · have := hF k hf; omega
/-- a list of lists that is there, as a source of append -/
theorem RdR.src {w : World} {F : Nat → Prop} {A : Option Addr} {ls : List (List UInt8)} (h : RdR w F A ls) (hn : ls ≠ []) : ∃ b off vs, A = some ⟨b, off, none⟩ ∧ BsL w F vs ls ∧ ∀ j v, vs[j]? = some v → w.cell? ⟨b, off + j, none⟩ = some v := by
  rcases h with h | ⟨b, off, vs, e, _, hl, hc⟩
  · exact absurd h hn
  · exact ⟨b, off, vs, e, hl, hc⟩

/-- bytes of old memory, on their way into a list of one's own -/
theorem rdf_app {w u u' : World} {F : Nat → Prop} {A : Option Addr} {l : List UInt8} {base : Nat} {v : Value} {ls : List (List UInt8)} (h : Rd w A l) (hb : Below w.heap.size w u) (hF : ∀ i, F i → w.heap.size ≤ i) (ho : OwnR u base (Else F u) v ls) (hbase : w.heap.size ≤ base) (hu : Below u.heap.size u u') : RdF u' (fun k => More (Else F u) u k ∧ v.ownBlock ≠ some k) A l := by
  have h1 : RdF w (· < w.heap.size) A l := h.f fun b off _ hlt => hlt
  rcases h1 with h1 | ⟨b, off, e, hlt, hc⟩
  · exact .inl h1
  · refine .inr ⟨b, off, e, ⟨.inl ⟨fun hf => absurd (hF b hf) (Nat.not_le.2 hlt), Nat.lt_of_lt_of_le hlt hb.size⟩, fun e1 => ?_⟩, fun j hj => ?_⟩
    · have := (ho.lt b e1).1
      omega
    · have c1 := (hb.cell (lt_of_cell (hc j hj))).trans (hc j hj)
      exact (hu.cell (lt_of_cell c1)).trans c1
/-- what stands behind the append of a batch to the list that is to be -/
structure Aft (w : World) (B d jb : Nat) (v : Value) (j : JS) (s : DS) (F : Nat → Prop) (A : Option Addr) (now : List (List UInt8)) (g : Nat) (t : TypeId) (cs : Array Value) (v6 : Value) (th : List (List UInt8)) (u : World) : Prop where
  on : OnJ u jb d v j s 64 F
  now' : RdR u (Old F B) A now
  cs : Cs u g t cs
  els : Else F u g
  below : Below w.heap.size w u
  mem : ∀ i, F i → i < u.heap.size
  own : OwnR u B (Else F u) v6 th
theorem cut_aft {w u5 u u6 : World} {B d jb : Nat} {v : Value} {j : JS} {s : DS} {F : Nat → Prop} {A : Option Addr} {now : List (List UInt8)} {g : Nat} {t : TypeId} {cs : Array Value} {v4 v6 : Value} {ls th : List (List UInt8)} (ht : t ≠ 31)
    (on : OnJ u5 jb d v j s 64 F) (hn : RdR u5 (Old F B) A now) (hc : Cs u5 g t cs) (he : Else F u5 g) (hb : Below w.heap.size w u5) (hm : ∀ i, F i → i < u5.heap.size) (ho : OwnR u5 B (Else F u5) v4 ls) (hB : w.heap.size ≤ B) (h1 : Below u5.heap.size u5 u) (h2 : u.grownBy u6 v4.ownBlock) (ho2 : OwnR u6 B (More (Else F u5) u5) v6 th) : Aft w B d jb v j s F A now g t cs v6 th u6 := by
  obtain ⟨o6, t6, m6⟩ := cut_add hm h1 h2 ho2
  have hg : ¬ v4.ownBlock = some g := fun e => by
    obtain ⟨⟨vs, hr, _⟩, _⟩ := ho
    obtain ⟨_, cs', hcs⟩ := own_blk hr e
    exact Cs.ne hc hcs ht rfl
  exact ⟨on.turn t6 fun k hk e => (ho.sub k e).1 hk, hn.turn t6 fun k hk e => by have := (ho.lt k e).1; have := hk.2; omega, hc.turn t6 hg, ⟨he.1, (hc.turn t6 hg).lt⟩, hb.trans (t6.below hb.size fun k e => Nat.le_trans hB (ho.lt k e).1), m6, o6⟩
/-- the loop's head again, behind a refusal -/
theorem cut_full {w wr u7 : World} {d jb : Nat} {A : Option Addr} {c k n : Nat} {now : List (List UInt8)} {F F7 : Nat → Prop} {v v5 : Value} {s : DS} {j : JS} (h : CutI w d jb A c k now F v s j wr) (on : OnJ u7 jb d v5 j (armed (armed s n) 0) 64 F7) (hm : ∀ i, F7 i → w.heap.size ≤ i ∧ i < u7.heap.size) (hn : RdR u7 (Old F7 wr.heap.size) A now) (hz : wr.heap.size ≤ u7.heap.size) (hb : Below w.heap.size w u7) : CutI w d jb A c (k + 1) now F7 v5 (armed (armed s n) 0) j u7 :=
  ⟨on, armed_tells (armed_tells h.tells), h.head.arm.arm.up, hm, hn.mono fun i hi => ⟨hi.1, Nat.lt_of_lt_of_le hi.2 hz⟩, h.non, h.cap, h.short, hb⟩

end Go.Proofs.Ytdjjlhfgfogdeaa
