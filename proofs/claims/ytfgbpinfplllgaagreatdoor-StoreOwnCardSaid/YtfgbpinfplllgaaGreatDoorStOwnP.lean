/- SWEPT -/
import Derived.Test.YtfgbpinfplllgaaGreatDoorStLivesW
import Derived.Test.YtfgbpinfplllgaaGreatDoorStOwn1
set_option linter.unusedVariables false
set_option linter.unusedSimpArgs false
namespace Go.Proofs.YtfgbpinfplllgaaGreatDoor
open Go.RowKit Go.Shelf
set_option maxRecDepth 100000
theorem own_fresh : (makR (fresh (2 * 500)) 500 []).2 = 0 ∧ (makR (fresh (2 * 500)) 500 []).1.steps ≤ 5 ∧ (makR (fresh (2 * 500)) 500 []).1.q = [] := by
  obtain ⟨m1, m2, -⟩ := mak_fresh (H := 500) (l := []) (by decide) (by rw [m0]; decide) (by decide) (by decide)
  have := m2.steps
  rw [m0] at this
  exact ⟨m1, this, m2.queue⟩
theorem commR_tab {j : JS} {s : DS} {H : Nat} {l : List Ch} (hm : mayCP l = true) : mayP (commR j s [] H l).rows = true ∧ (commR j s [] H l).rows.length ≤ l.length := by
  have h1 := may_apply may_nil hm
  have h2 := apply_len l []
  unfold commR
  simp only
  split
  · dsimp only
    split
    · exact ⟨h1, by simpa using h2⟩
    · exact ⟨may_nil, Nat.zero_le _⟩
  · dsimp only
    split
    · exact ⟨h1, by simpa using h2⟩
    · exact ⟨may_nil, Nat.zero_le _⟩
theorem comR_tab {j : JS} {s : DS} {H : Nat} {l : List Ch} : mayP (comR j s [] H l).1.rows = true ∧ (comR j s [] H l).1.rows.length ≤ l.length := by
  unfold comR
  split
  · exact ⟨may_nil, Nat.zero_le _⟩
  · split
    · rename_i hm
      split
      · exact ⟨may_nil, Nat.zero_le _⟩
      · exact commR_tab hm
    · exact ⟨may_nil, Nat.zero_le _⟩
def OwnF (w : World) (N0 N1 : Nat) (A : Option Addr) (ls : List (Ch × Nat)) : Prop := ∀ j, (hj : j < ls.length) →
  ∃ b cap, A = some ⟨b, 0, none⟩ ∧ b < N1 ∧ w.cell? ⟨b, 0 + j * 3 + 1, none⟩ = some (.slice (some ⟨ls[j].2, 0, none⟩) ls[j].1.2.1.length cap) ∧ NineG w (fun k => N0 ≤ k ∧ k < N1) (.slice (some ⟨ls[j].2, 0, none⟩) ls[j].1.2.1.length cap) ls[j].2 ls[j].1.2.1 ∧ (∀ x ∈ ls, x.2 ≠ b)
theorem OwnG.f {w : World} {N : Nat} {A : Option Addr} {n c : Nat} {ls : List (Ch × Nat)} (h : OwnG w N (.slice A n c) ls) : OwnF w N w.heap.size A ls := fun j hj => by
  obtain ⟨b, cap, e, -, hb, hc, hn, hx⟩ := h.at j hj
  exact ⟨b, cap, e, hb, hc, hn.mono fun k hk h => ⟨h, hk⟩, hx⟩
theorem OwnF.turn {w w' : World} {N0 N1 : Nat} {A : Option Addr} {ls : List (Ch × Nat)} {G : Nat → Prop} (h : OwnF w N0 N1 A ls) (ht : Turn w w' G) (hG : ∀ k, G k → N1 ≤ k) : OwnF w' N0 N1 A ls := fun j hj => by
  obtain ⟨b, cap, e, hb, hc, hn, hx⟩ := h j hj
  have hg : ls[j].2 < N1 := by obtain ⟨_, _, h1, _⟩ := hn; exact h1.2
  exact ⟨b, cap, e, hb, (World.cell?_of_block (w := w) (ht.block b (lt_of_cell hc) fun h => by have := hG b h; omega)).trans hc, hn.turn ht fun h => by have := hG _ h; omega, hx⟩
def gsBlk (ls : List (Ch × Nat)) (k i : Nat) : Prop := i ∈ (ls.take k).map (·.2)
theorem gs_next {ls : List (Ch × Nat)} {k : Nat} (hk : k < ls.length) {i : Nat} (h : gsBlk ls k i ∨ i = ls[k].2) : gsBlk ls (k + 1) i := by
  unfold gsBlk at *
  rw [List.take_succ_eq_append_getElem hk, List.map_append]
  rcases h with h | rfl
  · exact List.mem_append_left _ h
  · exact List.mem_append_right _ (by simp)
theorem gs_new {ls : List (Ch × Nat)} (hp : (ls.map (·.2)).Pairwise (· < ·)) {k : Nat} (hk : k < ls.length) : ¬ gsBlk ls k ls[k].2 := by
  unfold gsBlk
  intro h
  obtain ⟨x, hx, e⟩ := List.mem_map.1 h
  obtain ⟨j, hj, rfl⟩ := List.getElem_of_mem hx
  rw [List.length_take] at hj
  rw [List.getElem_take] at e
  have := List.pairwise_iff_getElem.1 hp j k (by rw [List.length_map]; omega) (by rw [List.length_map]; omega) (by omega)
  rw [List.getElem_map, List.getElem_map] at this
  omega
theorem OwnF.gs {w : World} {N0 N1 : Nat} {A : Option Addr} {ls : List (Ch × Nat)} (h : OwnF w N0 N1 A ls) {k i : Nat} (hi : gsBlk ls k i) : N0 ≤ i ∧ i < N1 := by
  obtain ⟨x, hx, e⟩ := List.mem_map.1 hi
  have hx := List.mem_of_mem_take hx
  obtain ⟨j, hj, rfl⟩ := List.getElem_of_mem hx
  obtain ⟨b, cap, e1, hb, hc, ⟨_, _, h1, _⟩, hx⟩ := h j hj
  rw [← e]
  exact h1
theorem OwnF.at {w w' : World} {N0 N1 : Nat} {A : Option Addr} {ls : List (Ch × Nat)} (h : OwnF w N0 N1 A ls) (hp : (ls.map (·.2)).Pairwise (· < ·)) {k : Nat} (hk : k < ls.length) (ht : Turn w w' (gsBlk ls k)) :
    ∃ b cap, A = some ⟨b, 0, none⟩ ∧ w'.cell? ⟨b, 0 + k * 3 + 1, none⟩ = some (.slice (some ⟨ls[k].2, 0, none⟩) ls[k].1.2.1.length cap) ∧ ls[k].1.2.1.length + 3 ≤ cap ∧ cap ≤ maxLen ∧ Rd w' (some ⟨ls[k].2, 0, none⟩) (ls[k].1.2.1 ++ [9, 9, 9]) ∧ TyB w' (.slice (some ⟨ls[k].2, 0, none⟩) ls[k].1.2.1.length cap) := by
  obtain ⟨b, cap, e, hb, hc, hn, hx⟩ := h k hk
  have hc' := (World.cell?_of_block (w := w) (ht.block b (lt_of_cell hc) fun h => by
    obtain ⟨x, hx1, e⟩ := List.mem_map.1 h
    exact hx x (List.mem_of_mem_take hx1) e)).trans hc
  obtain ⟨cap', e', h1, h2, h3, h4, h5, h6⟩ := hn.turn ht (gs_new hp hk)
  cases e'
  exact ⟨b, cap, e, hc', h3, h4, h5, h6⟩
theorem gs_turn {w w' w'' : World} {ls : List (Ch × Nat)} {k cap : Nat} {e : Ending} (hk : k < ls.length) (h : Turn w w' (gsBlk ls k)) (hs : SpoiltRet (.slice (some ⟨ls[k].2, 0, none⟩) ls[k].1.2.1.length cap) w' e w'') : Turn w w'' (gsBlk ls (k + 1)) := by
  refine (h.mono fun i _ hi => gs_next hk (.inl hi)).trans hs.2.1 fun i _ hi => gs_next hk (.inr ?_)
  cases hi
  rfl
theorem gs_zero {w : World} {ls : List (Ch × Nat)} : Turn w w (gsBlk ls 0) := Turn.of_below (Below.refl _ _) _
end Go.Proofs.YtfgbpinfplllgaaGreatDoor
