/- SWEPT -/
import Derived.Test.YtfgbpinfplllgaaGreatDoorZStCutA
import Derived.Test.YtfgbpinfplllgaaGreatDoorZStCutP
import Derived.Test.YtfgbpinfplllgaaGreatDoorZStLivesW
set_option linter.unusedVariables false
set_option linter.unusedSimpArgs false
namespace Go.Proofs.YtfgbpinfplllgaaGreatDoor
open Go.RowKit Go.Shelf
set_option maxRecDepth 100000
theorem OnS.tight {w : World} {sb d : Nat} {j : JS} {s : DS} {rows : List Rw} {cut : Bool} {H : Nat} {F : Nat → Prop} (h : OnS w sb d j s rows cut H F) : OnS w sb d j s rows cut H (fun i => F i ∧ i < w.heap.size) := h.mono fun k hk hf => ⟨hf, hk⟩
theorem OnS.more {w : World} {sb d : Nat} {j : JS} {s : DS} {rows : List Rw} {cut : Bool} {H : Nat} {F : Nat → Prop} (h : OnS w sb d j s rows cut H F) : OnS w sb d j s rows cut H (More F w) := h.mono fun k _ hf => .inl hf
theorem Foot.lsV {α : Type} {E : Elem α} {F F' : Nat → Prop} {w w' : World} (h : Foot F w F' w') {v : Value} {ls : List α} (hr : LsV E w (Else F w) v ls) : LsV E w' (Else F' w') v ls := (hr.turn h.turn fun k hk => hk.1).mono8 fun k _ hk => h.els hk
theorem OnS.lend {w : World} {sb d : Nat} {j : JS} {s : DS} {rows : List Rw} {cut : Bool} {H : Nat} {F : Nat → Prop} (h : OnS w sb d j s rows cut H F) (hF : ∀ k, w.heap.size ≤ k → F k) :
    ∃ FD, DiskV w d s FD ∧ (∀ k, w.heap.size ≤ k → FD k) ∧ (∀ k, FD k → F k) ∧ ∀ w' s', DiskV w' d s' FD → Turn w w' FD → s'.blocks = s.blocks → OnS w' sb d j s' rows cut H F := by
  have hsl := h.lt
  obtain ⟨jb, v, A, n, c, FJ, FR, h1, h2, h3, h4, h5, h6⟩ := h
  obtain ⟨FD, k1, k2, k3, k4⟩ := h2.more.lend fun k hk => .inr hk
  have hFD : ∀ k, FD k → FJ k ∨ w.heap.size ≤ k := fun k hk => k3 k hk
  refine ⟨FD, k1, k2, fun k hk => (hFD k hk).elim (fun h => (h4 k h).1) (hF k), fun w' s' hd ht hb => ?_⟩
  have hz := ht.size
  have hnsb : ¬ FD sb := fun hk => (hFD sb hk).elim (fun h => (h4 sb h).2.2.1 rfl) fun h => by omega
  have hnr : ∀ k, FR k → ¬ FD k := fun k hr hk => (hFD k hk).elim (fun h => (h4 k h).2.1 hr) fun h => by have := (h5 k hr).2.2; omega
  refine ⟨jb, v, A, n, c, fun k => More FJ w k ∧ k < w'.heap.size, FR, h1.turn ht hnsb, (k4 w' s' hd ht hb).tight, h3.turn ht hnr, fun k hk => ?_, fun k hk => ⟨(h5 k hk).1, (h5 k hk).2.1, by have := (h5 k hk).2.2; omega⟩, h6⟩
  rcases hk.1 with hm | hm
  · exact ⟨(h4 k hm).1, (h4 k hm).2.1, (h4 k hm).2.2.1, hk.2⟩
  · exact ⟨hF k hm, fun hr => by have := (h5 k hr).2.2; omega, fun e => by omega, hk.2⟩
theorem step_armS {w : World} {sb d : Nat} {j : JS} {s : DS} {rows : List Rw} {cut : Bool} {H : Nat} {F : Nat → Prop} (h : OnS w sb d j s rows cut H F) (hl : s.dark = false) (n : Nat) (hn : n < 256) :
    Calls Tryz.prog 13 #[.pointer (some ⟨d, 0, none⟩), .int .i64 (n : Int)] w fun e w' => e = .returned (.int .i64 0) ∧ ∃ F', OnS w' sb d j (armed s n) rows cut H F' ∧ Foot F w F' w' := by
  obtain ⟨FD, h1, h2, h3, h4⟩ := h.more.lend fun k hk => .inr hk
  refine (Arm_v h1 h2 (n : Int) (by omega)).mono ?_
  rintro e w' ⟨rfl, hd, ht⟩
  have e1 : armE s (n : Int) = 0 := by unfold armE; rw [hl, if_neg (by decide), if_neg (by omega)]
  have e2 : armS s (n : Int) = armed s n := by unfold armS; rw [hl, if_neg (by rintro (h | h) <;> first | cases h | omega)]; rfl
  rw [e2] at hd
  rw [e1]
  exact ⟨rfl, _, (h4 w' _ hd ht rfl).tight, Foot.more (ht.mono fun i _ hi => h3 i hi) fun i hi => hi⟩
theorem step_comS (K : K7) {w : World} {sb d : Nat} {u : Value} {j : JS} {s : DS} {H : Nat} {F G : Nat → Prop} {rows : List Rw} {l : List Ch} (h : OnS w sb d j s rows false H F) (hg : LaidErr w) (hF0 : ¬ F 0) (hw0 : 0 < w.heap.size)
    (hl : rows.length ≤ 10000) (hm : mayP rows = true) (hlc : l.length ≤ 10000) (hsc : SmallC l) (hrc : LsV chgE w G u l) (hst : s.steps + 30000 < 4611686018427387904) (hq : s.q = []) :
    Calls Tryz.prog 18 #[.pointer (some ⟨sb, 0, none⟩), u] w fun e w' => e = .returned (.int .i64 (comR j s rows H l).1.e) ∧ ∃ F', OnS w' sb d (comR j s rows H l).1.j (comR j s rows H l).1.s (comR j s rows H l).1.rows (comR j s rows H l).2 H F' ∧ Foot F w F' w' := by
  refine (Commit_v (F := More F w) K h.more hg (fun hh => hh.elim hF0 fun hh => by omega) (fun k hk => .inr hk) hl hm hlc hsc hrc hst (by rw [hq]; decide)).mono ?_
  rintro e w' ⟨he, ht, ho⟩
  exact ⟨he, _, ho.tight, Foot.more ht fun i hi => hi⟩
theorem decs_of {bts : List (List UInt8)} {rows : List Rw} {N : Nat} (h : ToldN bts rows N) {bs : List (List Ch)} (hb : decs bts = some bs) : bs.flatten.length ≤ N ∧ tellsP bs = rows := by
  obtain ⟨cs, h1, rfl, h3⟩ := h
  have h2 := decs_ok.1 hb
  have e : cs.map (Except.ok (ε := Int)) = bs.map Except.ok := h1.symm.trans h2
  have : cs = bs := (List.map_inj_right fun x y h => by cases h; rfl).1 e
  subst this
  exact ⟨h3, rfl⟩
theorem step_openS (K : K7) {w : World} {d H i N : Nat} {s : DS} {F : Nat → Prop} {bts : List (List UInt8)} {rows : List Rw} (h : DiskV w d s F) (hg : LaidErr w) (hh : Head H s bts i) (htd : ToldN bts rows N) (hsh : ∀ b ∈ bts, b.length ≤ 2000) (hN : N ≤ 20000) (hi : i ≤ 1000) :
    Calls Tryz.prog 15 #[.pointer (some ⟨d, 0, none⟩)] w fun e w' => ∃ sb j F', e = .returned (.tuple #[.pointer (some ⟨sb, 0, none⟩), .int .i64 0]) ∧ OnS w' sb d j s rows false H F' ∧ Tells s H j ∧ Foot F w F' w' ∧ Below w.heap.size w w' := by
  obtain ⟨t1, t2, t3⟩ := open_tells hh.light hh.young hh.blocks hh.within
  have hn := hh.next
  have hjb : (openJ s H).batches = bts := t1.own hh.batches
  have h0 : ¬ (openJ s H).first = 0 := fun e0 => t2.1 e0 hh.there
  obtain ⟨cs, hcs, -, -⟩ := id htd
  have hdc : decs bts = some cs := decs_ok.2 hcs
  refine (OpenS_v K h hg hh.light hh.blocks (by rw [t3]; omega) (by rw [hjb]; exact fun b hb => by have := hsh b hb; omega) (by rw [hjb]; exact fun bs hb => by have := (decs_of htd hb).1; omega)).mono ?_
  rintro e w' ⟨hb, hc⟩
  rw [hjb] at hc
  rcases hc with ⟨hc, _⟩ | ⟨_, bs, sb, hbs, rfl, hsb, ho⟩
  · rcases hc with hc | hc
    · exact absurd hc h0
    · rw [hdc] at hc; cases hc
  · rw [(decs_of htd hbs).2] at ho
    exact ⟨sb, openJ s H, _, rfl, ho, t1, ⟨Turn.of_below hb F, fun k hk => ⟨hk.1.imp (fun h => h.1) id, hk.2⟩⟩, hb⟩
theorem cut_makeS {w u : World} {d : Nat} (hb : Below w.heap.size w u) (hg : LaidErr u) (hw0 : 0 < w.heap.size) (h : DiskV u d (fresh (2 * 45)) (w.heap.size ≤ ·)) :
    Calls Tryz.prog 10 #[.pointer (some ⟨d, 0, none⟩)] u fun e w' => ∃ sb s j, e = .returned (.tuple #[.pointer (some ⟨sb, 0, none⟩), .int .i64 0]) ∧ OnS w' sb d j s [] false 45 (fun i => w.heap.size ≤ i ∧ i < w'.heap.size) ∧ Tells s 45 j ∧ Head 45 s [[]] 0 ∧ Below w.heap.size w w' := by
  obtain ⟨m1, m2, m3, m4, m5⟩ := mak_fresh (H := 45) (l := []) (by decide) (by rw [m0]; decide) (by decide) (by decide)
  refine (MakeS_v (H := 45) h hg (by omega) rfl (by rw [fresh_next]; decide) (fun k hk => Nat.le_trans hb.size hk) (by show 0 + 30000 < 4611686018427387904; decide) (by show 0 + 30000 < 1099511627776; decide)).mono ?_
  rintro e w' ⟨ht, hh⟩
  rcases hh with ⟨h0, _⟩ | ⟨_, sb, rfl, _, ho⟩
  · exact absurd m1 h0
  · exact ⟨sb, _, _, rfl, ho.tight, m5, m4 m0, hb.trans (ht.below hb.size fun i hi => hi)⟩
structure CutI8 (w : World) (d sb k : Nat) (v : Value) (rows : List Rw) (F : Nat → Prop) (s : DS) (j : JS) (bts : List (List UInt8)) (wr : World) : Prop where
  on : OnS wr sb d j s rows false 45 F
  tells : Tells s 45 j
  head : Head 45 s bts k
  told : ToldN bts rows (12 * k)
  short : ∀ b ∈ bts, b.length ≤ 2000
  mem : ∀ i, F i → w.heap.size ≤ i ∧ i < wr.heap.size
  now' : LsV rowE wr (Else F wr) v rows
  below : Below w.heap.size w wr
end Go.Proofs.YtfgbpinfplllgaaGreatDoor
