/- SWEPT -/
import Derived.Test.YtfgbpinfplllgaaGreatDoorZJourCK
import Derived.Test.YtfgbpinfplllgaaGreatDoorZStTableW
set_option linter.unusedVariables false
set_option linter.unusedSimpArgs false
open Go.Lib (hid)
namespace Go.Proofs.YtfgbpinfplllgaaGreatDoor
open Go.RowKit Go.Shelf
set_option maxRecDepth 100000
def PutNew (l : List Ch) (w : World) (e : Ending) (w' : World) : Prop := Below w.heap.size w w' ∧ ∃ A c, e = .returned (.tuple #[.slice A (putFrom [] l).length c, .int .i64 0]) ∧ RdF w' (fun k => w.heap.size ≤ k ∧ k < w'.heap.size) A (putFrom [] l) ∧ (A = none → putFrom [] l = [] ∧ c = 0) ∧ (putFrom [] l).length ≤ c ∧ c ≤ maxLen
theorem put_new {l : List Ch} {u : Value} {G : Nat → Prop} {w : World} (hs : SmallC l) (hl : l.length ≤ 100000) (hr : LsV chgE w G u l) (hm : mayCP l = true) : Calls Tryz.prog 160 #[u] w fun e w' => PutNew l w e w' := by
  obtain ⟨A, c, rfl, h, -⟩ := hr
  refine (BPut_any l A c G w hs hl h).mono fun e w' ⟨hb, h⟩ => ⟨hb, ?_⟩
  rw [if_pos hm] at h
  obtain ⟨v, he, ho⟩ := h
  obtain ⟨A', c', rfl, h2, h3, h4, h5⟩ := BsV.own ho
  exact ⟨A', c', he, by
    rcases h2 with h2 | ⟨b, off, e1, hF, hc⟩
    · exact .inl h2
    · by_cases h0 : putFrom [] l = []
      · exact .inl h0
      · exact .inr ⟨b, off, e1, ⟨hF, lt_of_cell (hc 0 (List.length_pos_iff.2 h0))⟩, hc⟩, h3, h4, h5⟩
def grownF (FJ : Nat → Prop) (w : World) (k : Nat) : Prop := FJ k ∨ w.heap.size ≤ k
def layARet (jb d : Nat) (j : JS) (s : DS) (H : Nat) (FJ : Nat → Prop) (l : List Ch) (w : World) (e : Ending) (w' : World) : Prop := ∃ ev v', e = .returned ev ∧ ErV w' (w.heap.size ≤ ·) ev (appR s j H (putFrom [] l)).2 ∧ OnJ w' jb d v' (appJ s j H (putFrom [] l)) (appR s j H (putFrom [] l)).1 H (grownF FJ w) ∧ Turn w w' (grownF FJ w)
set_option maxHeartbeats 4000000 in
theorem layA_v {w : World} {jb d : Nat} {v u : Value} {j : JS} {s : DS} {H : Nat} {FJ G : Nat → Prop} {l : List Ch} (t : ByteArray) (h : OnJ w jb d v j s H FJ) (hFJ : ∀ k, FJ k → k < w.heap.size) (hs : SmallC l) (hl : l.length ≤ 100000) (hr : LsV chgE w G u l) (hm : mayCP l = true)
    (hst : s.steps + 30000 < 4611686018427387904) (hq : s.q.length + 30000 < 1099511627776) :
    Calls Tryz.prog 131 #[.string t, .func (.func 26) #[.pointer (some ⟨jb, 0, none⟩)] #[], u] w fun e w' => layARet jb d j s H FJ l w e w' := by
  have hp := put_new hs hl hr hm
  have hu1 : u.oneCell' = true := by
    obtain ⟨A, c, rfl, _⟩ := hr
    rfl
  have HJ := hid h
  have HF := hid hFJ
  have HST := hid (And.intro hst hq)
  clear h hFJ hs hl hr hm hst hq
  unfold layARet
  unfold PutNew at hp
  generalize putFrom [] l = b at hp ⊢
  obtain ⟨r, hr2⟩ : ∃ r, appR s j H b = r := ⟨_, rfl⟩
  rw [hr2]
  have HR2 := hid hr2
  clear hr2
  go_enter Tryz.func131, Tryz.ntmps131
  go_wp2_with fail
  refine hp.mono ?_
  clear hp
  rintro e w1 ⟨hb, A, c, rfl, hrd, hA, hc1, hc2⟩
  have B1 := hid hb
  have ha0 := (Append_v (A := A) (c := c) b (((HJ.out.mono fun k hk hf => (hf : FJ k)).below hb).mono (G := fun k => FJ k ∨ w1.heap.size ≤ k) fun k _ hf => .inl hf) (fun k hk => .inr hk) (by
    rcases hrd with h0 | ⟨g, off, e1, hF, hc⟩
    · exact .inl h0
    · exact .inr ⟨g, off, e1, fun hh => by rcases hh with hh | hh <;> first | (have := HF.out g hh; omega) | omega, hc⟩) hA hc1 hc2 HST.out.1 HST.out.2)
  rw [HR2.out] at ha0
  have ha := hid ha0
  clear ha0 hb hrd hA hc1 hc2
  go_wp2_with fail
  refine ha.out.mono ?_
  clear ha
  rintro e w2 ⟨rfl, v2, ho, ht⟩
  have O2 := hid ho
  have T2 := hid ht
  have HW := hid (wrap_v t r.2 w2)
  clear ho ht
  go_wp2_with fail
  refine HW.out.mono ?_
  rintro e w3 ⟨ev, rfl, her, hb3⟩
  have hE := hid her
  have B3 := hid hb3
  have hev : ev.oneCell' = true := by rcases her with ⟨_, rfl⟩ | ⟨_, g, rfl, _⟩ <;> rfl
  clear her hb3
  go_wp2_with fail
  go_ret
  have hs1 := B1.out.size
  have hs2 := T2.out.size
  have hsub : ∀ k, (FJ k ∨ w1.heap.size ≤ k) → grownF FJ w k := fun k hk => hk.imp id fun h => Nat.le_trans hs1 h
  refine ⟨ev, v2, rfl, hE.out.mono fun k _ hk => by omega, (O2.out.below B3.out).mono fun k _ hk => hsub k hk, ?_⟩
  exact ((Turn.of_below B1.out (grownF FJ w)).trans (T2.out.mono fun k _ hk => hsub k hk) fun _ _ h => h).trans (Turn.of_below B3.out (grownF FJ w)) fun _ _ h => h
def layRRet (jb d : Nat) (j : JS) (s : DS) (H : Nat) (FJ : Nat → Prop) (l : List Ch) (w : World) (e : Ending) (w' : World) : Prop := ∃ ev v', e = .returned ev ∧ ErV w' (w.heap.size ≤ ·) ev (repR s j H (putFrom [] l)).2 ∧ OnJ w' jb d v' (repJ s j H (putFrom [] l)) (repR s j H (putFrom [] l)).1 H (grownF FJ w) ∧ Turn w w' (grownF FJ w)
set_option maxHeartbeats 4000000 in
theorem layR_v {w : World} {jb d : Nat} {v u : Value} {j : JS} {s : DS} {H : Nat} {FJ G : Nat → Prop} {l : List Ch} (t : ByteArray) (h : OnJ w jb d v j s H FJ) (hFJ : ∀ k, FJ k → k < w.heap.size) (hs : SmallC l) (hl : l.length ≤ 100000) (hr : LsV chgE w G u l) (hm : mayCP l = true)
    (hst : s.steps + 30000 < 4611686018427387904) (hq : s.q.length + 30000 < 1099511627776) :
    Calls Tryz.prog 131 #[.string t, .func (.func 162) #[.pointer (some ⟨jb, 0, none⟩)] #[], u] w fun e w' => layRRet jb d j s H FJ l w e w' := by
  have hp := put_new hs hl hr hm
  have hu1 : u.oneCell' = true := by
    obtain ⟨A, c, rfl, _⟩ := hr
    rfl
  have HJ := hid h
  have HF := hid hFJ
  have HST := hid (And.intro hst hq)
  clear h hFJ hs hl hr hm hst hq
  unfold layRRet
  unfold PutNew at hp
  generalize putFrom [] l = b at hp ⊢
  obtain ⟨r, hr2⟩ : ∃ r, repR s j H b = r := ⟨_, rfl⟩
  rw [hr2]
  have HR2 := hid hr2
  clear hr2
  go_enter Tryz.func131, Tryz.ntmps131
  go_wp2_with fail
  refine hp.mono ?_
  clear hp
  rintro e w1 ⟨hb, A, c, rfl, hrd, hA, hc1, hc2⟩
  have B1 := hid hb
  have ha0 := (Replace_v (A := A) (c := c) b (((HJ.out.mono fun k hk hf => (hf : FJ k)).below hb).mono (G := fun k => FJ k ∨ w1.heap.size ≤ k) fun k _ hf => .inl hf) (fun k hk => .inr hk) (by
    rcases hrd with h0 | ⟨g, off, e1, hF, hc⟩
    · exact .inl h0
    · exact .inr ⟨g, off, e1, fun hh => by rcases hh with hh | hh <;> first | (have := HF.out g hh; omega) | omega, hc⟩) hA hc1 hc2 HST.out.1 HST.out.2)
  rw [HR2.out] at ha0
  have ha := hid ha0
  clear ha0 hb hrd hA hc1 hc2
  go_wp2_with fail
  refine ha.out.mono ?_
  clear ha
  rintro e w2 ⟨rfl, v2, ho, ht⟩
  have O2 := hid ho
  have T2 := hid ht
  have HW := hid (wrap_v t r.2 w2)
  clear ho ht
  go_wp2_with fail
  refine HW.out.mono ?_
  rintro e w3 ⟨ev, rfl, her, hb3⟩
  have hE := hid her
  have B3 := hid hb3
  have hev : ev.oneCell' = true := by rcases her with ⟨_, rfl⟩ | ⟨_, g, rfl, _⟩ <;> rfl
  clear her hb3
  go_wp2_with fail
  go_ret
  have hs1 := B1.out.size
  have hs2 := T2.out.size
  have hsub : ∀ k, (FJ k ∨ w1.heap.size ≤ k) → grownF FJ w k := fun k hk => hk.imp id fun h => Nat.le_trans hs1 h
  refine ⟨ev, v2, rfl, hE.out.mono fun k _ hk => by omega, (O2.out.below B3.out).mono fun k _ hk => hsub k hk, ?_⟩
  exact ((Turn.of_below B1.out (grownF FJ w)).trans (T2.out.mono fun k _ hk => hsub k hk) fun _ _ h => h).trans (Turn.of_below B3.out (grownF FJ w)) fun _ _ h => h
end Go.Proofs.YtfgbpinfplllgaaGreatDoor
