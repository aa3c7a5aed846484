/- SWEPT -/
import Derived.Test.YtfgbpinfplllgaaGreatDoorBatOwn1
import Derived.Test.YtfgbpinfplllgaaGreatDoorBchDK
import Derived.Test.YtfgbpinfplllgaaGreatDoorTblSized
set_option linter.unusedVariables false
set_option linter.unusedSimpArgs false
namespace Go.Proofs.YtfgbpinfplllgaaGreatDoor
open Go.RowKit Go.Shelf Go.ChangeShapes Go.WideShapes Go.ChangeAt Go.Deep
set_option maxRecDepth 100000
def NineG (w : World) (F : Nat → Prop) (v : Value) (g : Nat) (l : List UInt8) : Prop := ∃ cap, v = .slice (some ⟨g, 0, none⟩) l.length cap ∧ F g ∧ g < w.heap.size ∧ l.length + 3 ≤ cap ∧ cap ≤ maxLen ∧ Rd w (some ⟨g, 0, none⟩) (l ++ [9, 9, 9]) ∧ TyB w v
theorem NineG.turn {w w' : World} {F G : Nat → Prop} {v : Value} {g : Nat} {l : List UInt8} (h : NineG w F v g l) (ht : Turn w w' G) (hG : ¬ G g) : NineG w' F v g l := by
  obtain ⟨cap, rfl, h1, h2, h3, h4, h5, h6⟩ := h
  refine ⟨cap, rfl, h1, Nat.lt_of_lt_of_le h2 ht.size, h3, h4, ?_, h6.turn ht fun k hk => by cases hk; exact hG⟩
  rcases h5 with h | ⟨b, off, e, hc⟩
  · simp at h
  · cases e
    exact .inr ⟨g, 0, rfl, fun j hj => (World.cell?_of_block (w := w) (ht.block g h2 hG)).trans (hc j hj)⟩
theorem NineG.mono {w : World} {F G : Nat → Prop} {v : Value} {g : Nat} {l : List UInt8} (h : NineG w F v g l) (hF : ∀ k, k < w.heap.size → F k → G k) : NineG w G v g l := by
  obtain ⟨cap, rfl, h1, h2, h3⟩ := h
  exact ⟨cap, rfl, hF g h2 h1, h2, h3⟩
theorem NineG.below {w w' : World} {F : Nat → Prop} {v : Value} {g : Nat} {l : List UInt8} (h : NineG w F v g l) (hb : Below w.heap.size w w') : NineG w' F v g l := h.turn (Turn.of_below hb fun _ => False) fun h => h
theorem NineG.bs {w : World} {F : Nat → Prop} {v : Value} {g : Nat} {l : List UInt8} (h : NineG w F v g l) : BsV w F v l := by
  obtain ⟨cap, rfl, h1, h2, h3, h4, h5, -⟩ := h
  exact ⟨_, cap, rfl, (rd_prefix h5).f fun b off e _ => (by cases e; exact h1), (fun e => by cases e), by omega, h4⟩
theorem kept_nineG (F : Nat → Prop) (v : Value) (g : Nat) (l : List UInt8) : Kept (fun u => NineG u F v g l) := fun u u' h hb => h.below hb
def chgG : Elem (Ch × Nat) where
  ety := 73
  sty := 43
  n := 3
  bytes := 48
  rd w F cs x := ∃ v, cs = [sv x.1.1, v, .bool x.1.2.2] ∧ NineG w F v x.2 x.1.2.1
  und := Tryz.underlying43
  info := ⟨_, _, rfl, rfl, rfl, rfl, rfl⟩
  pos := by decide
  byt := by decide
  len := by rintro w F cs x ⟨v, rfl, _⟩; rfl
  one := by
    rintro w F cs x ⟨v, rfl, h⟩ u hu
    simp at hu
    rcases hu with rfl | rfl | rfl
    · rfl
    · exact h.bs.one
    · rfl
  turn := by
    rintro w w' F G cs x ⟨v, h, hv⟩ ht hG
    exact ⟨v, h, hv.turn ht (hG _ (by obtain ⟨_, _, h1, _⟩ := hv; exact h1))⟩
  mono := by rintro w F G cs x ⟨v, h, hv⟩ hF; exact ⟨v, h, hv.mono hF⟩
theorem rdx_ofG {w : World} {F : Nat → Prop} {A : Option Addr} {ls : List (Ch × Nat)} (h : RdX chgG w F A ls) : RdX chgE w F A (ls.map (·.1)) := by
  rcases h with h | ⟨b, off, xs, e, hF, ⟨hl, hr⟩, hc⟩
  · exact .inl (by rw [h]; rfl)
  · refine .inr ⟨b, off, xs, e, hF, ⟨by rw [List.length_map]; exact hl, fun j hj => ?_⟩, hc⟩
    rw [List.length_map] at hj
    obtain ⟨v, h1, h2⟩ := hr j hj
    rw [List.getElem_map]
    exact ⟨v, h1, h2.bs⟩
structure OwnG (w : World) (N : Nat) (v : Value) (ls : List (Ch × Nat)) : Prop where
  own : OwnX chgG w N (N ≤ ·) v ls
  up : (ls.map (·.2)).Pairwise (· < ·)
theorem OwnG.below {w w' : World} {N : Nat} {v : Value} {ls : List (Ch × Nat)} (h : OwnG w N v ls) (hb : Below w.heap.size w w') : OwnG w' N v ls := ⟨h.own.below hb, h.up⟩
theorem kept_ownG (N : Nat) (v : Value) (ls : List (Ch × Nat)) : Kept (fun u => OwnG u N v ls) := fun u u' h hb => h.below hb
theorem OwnG.nil (w : World) (N : Nat) : OwnG w N (.slice none 0 0) [] := ⟨OwnX.nil _ _ _, List.Pairwise.nil⟩
theorem OwnG.lt {w : World} {N : Nat} {v : Value} {ls : List (Ch × Nat)} (h : OwnG w N v ls) : ∀ x ∈ ls, x.2 < w.heap.size ∧ N ≤ x.2 ∧ v.ownBlock ≠ some x.2 := by
  obtain ⟨⟨⟨xs, h1, h2, h3⟩, h4⟩, h5⟩ := h
  intro x hx
  obtain ⟨j, hj, rfl⟩ := List.getElem_of_mem hx
  obtain ⟨u, _, ⟨cap, _, k1, k2, _⟩⟩ := h3 j hj
  exact ⟨k2, k1.1, k1.2⟩
theorem OwnG.push {w w' : World} {N : Nat} {v v' : Value} {ls : List (Ch × Nat)} (h : OwnG w N v ls) {x : Ch} {g : Nat} (hg : w.heap.size ≤ g) (ho : OwnX chgG w' N (N ≤ ·) v' (ls ++ [(x, g)])) : OwnG w' N v' (ls ++ [(x, g)]) := by
  refine ⟨ho, ?_⟩
  rw [List.map_append]
  refine List.pairwise_append.2 ⟨h.up, by simp, fun a ha b hb => ?_⟩
  obtain ⟨y, hy, rfl⟩ := List.mem_map.1 ha
  simp at hb
  subst hb
  exact Nat.lt_of_lt_of_le (h.lt y hy).1 hg
theorem OwnG.at {w : World} {N : Nat} {A : Option Addr} {n c : Nat} {ls : List (Ch × Nat)} (h : OwnG w N (.slice A n c) ls) (j : Nat) (hj : j < ls.length) :
    ∃ b cap, A = some ⟨b, 0, none⟩ ∧ n = ls.length ∧ b < w.heap.size ∧ w.cell? ⟨b, 0 + j * 3 + 1, none⟩ = some (.slice (some ⟨ls[j].2, 0, none⟩) ls[j].1.2.1.length cap) ∧ NineG w (N ≤ ·) (.slice (some ⟨ls[j].2, 0, none⟩) ls[j].1.2.1.length cap) ls[j].2 ls[j].1.2.1 ∧ (∀ x ∈ ls, x.2 ≠ b) := by
  have hlt := h.lt
  obtain ⟨A', c', e, h1, h2, h3, h4⟩ := h.own.form
  cases e
  obtain ⟨b, off, cs, e, ⟨v, rfl, g1⟩, hat⟩ := h1.get j hj
  subst e
  have hc := hat 1 _ rfl
  obtain ⟨⟨vs, ho, _⟩, _⟩ := h.own
  rcases ho.2 with ⟨e, _⟩ | ⟨g, cap, cur, e, _⟩
  · cases e
  · cases e
    obtain ⟨cap', rfl, g2⟩ := id g1
    refine ⟨b, cap', rfl, rfl, lt_of_cell hc, hc, g1.mono fun k _ hk => hk, fun x hx e => (hlt x hx).2.2 (by rw [e]; rfl)⟩
theorem OwnG.chgE {w : World} {N : Nat} {v : Value} {ls : List (Ch × Nat)} (h : OwnG w N v ls) : LsV chgE w (N ≤ ·) v (ls.map (·.1)) := by
  obtain ⟨A, c, e, h1, h2, h3, h4⟩ := h.own.form
  exact ⟨A, c, by rw [List.length_map]; exact e, rdx_ofG h1, by rw [List.length_map]; exact h2, h3, fun e => by rw [(h4 e).1]; exact ⟨rfl, (h4 e).2⟩⟩
section
variable {H : Type} {enc : TypeId × Value → H} {W : World} {fuel : Nat}
theorem trod_change_sz {cs : List Value} {x : DataW H × List MemPlace} (h : DataW.trod enc Tryz.prog W 0 (fun _ => true) true fuel 73 cs = some x) (hz : ∀ n ∈ x.1.weights Tryz.prog 73, n ≤ reachBytes) : ∃ z : Ch, _root_.Go.Proofs.YtfgbpinfplllgaaGreatDoor.chgE.rd W (· < W.heap.size) cs z ∧ z.1.length ≤ maxLen ∧ z.2.1.length ≤ reachBytes := by
  obtain ⟨z, ⟨v, hcs, hv⟩, hk⟩ := trod_change h
  obtain ⟨y0, y1, y2, n, rfl, hl, f0, f1, f2⟩ := trod_struct3 Tryz.underlying73 h
  have h2 : Tryz.prog.cellsOf 60 = 1 := by kernel_rfl
  subst hcs
  change DataW.trod enc Tryz.prog W 0 _ true n 60 (([sv z.1, v, .bool z.2.2].drop 1).take (Tryz.prog.cellsOf 60)) = some y1 at f1
  rw [h2] at f1
  refine ⟨z, ⟨v, rfl, hv⟩, hk, trod_bytesV_sz f1 (fun m hm => hz m ?_) v z.2.1 rfl hv⟩
  rw [DataW.weights, Tryz.underlying73]
  exact DataW.weights_mem_each (j := 1) (t := 60) (d := y1.1) rfl rfl m hm
end
theorem open_chgs_sz {H : Type} {enc : TypeId × Value → H} {W : World} {base : Nat} {v : Value} {d : DataW H} {p : List MemPlace} {ts : List TypeId} {ds : List (DataW H)} (hsz : (DataW.weightsEach Tryz.prog ts ds).all (· ≤ reachBytes) = true) (j : Nat) (hj : ts[j]? = some 43) (hd : ds[j]? = some d)
    (hv : Value.okWide Tryz.prog W .any base 43 v) (h : DataW.Trod enc Tryz.prog W 0 (fun _ => true) true 43 v d p) :
    ∃ A l c, v = .slice A l.length c ∧ RdX _root_.Go.Proofs.YtfgbpinfplllgaaGreatDoor.chgE W (· < W.heap.size) A l ∧ (∀ x ∈ l, x.1.length ≤ maxLen ∧ x.2.1.length ≤ 140737488351232) ∧ l.length ≤ c ∧ c ≤ maxLen ∧ (A = none → l = [] ∧ c = 0) :=
  open_list_sz (E := _root_.Go.Proofs.YtfgbpinfplllgaaGreatDoor.chgE) (fun x => x.1.length ≤ maxLen ∧ x.2.1.length ≤ 140737488351232) (fun _ _ _ h hz => by
    obtain ⟨z, h1, h2, h3⟩ := trod_change_sz h hz
    exact ⟨z, h1, h2, by simpa [reachBytes] using h3⟩) (by kernel_rfl) hv h (fun n hn => by
    have := List.all_eq_true.1 hsz n (DataW.weights_mem_each hj hd n hn)
    simpa using this)
end Go.Proofs.YtfgbpinfplllgaaGreatDoor
