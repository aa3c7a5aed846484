/- The program: an entry cut, an entry set, two stamps, a node cut, each of a tree of one's own. -/
import Derived.Test.YtenpmbfncnepgaaDoorTzT
import Derived.Test.YtenpmbfncnepgaaDoorTzVK
namespace Go.Proofs.YtenpmbfncnepgaaDoor
open Go.RowKit Go.Shelf
set_option linter.unusedVariables false
set_option maxRecDepth 100000
set_option linter.unusedSimpArgs false

theorem bool_of (p : Prop) : ∃ q : Bool, q = true ↔ p := by
  classical exact ⟨decide p, by simp⟩
theorem updN_get {l : List Nd} {x : Nat} {f : Nd → Nd} {i : Nat} (hi : i < l.length) (hi' : i < (updN l x f).length) : (updN l x f)[i] = if l[i].ino = x then f l[i] else l[i] := by
  simp only [updN, List.getElem_map]
theorem NxB.cutE {w : World} {N B g n c : Nat} {ss : List Value} {t : Tr} {ls : List (Nd × Sup)} {S : Sup} (h : NxB w N B (.slice (some ⟨g, 0, none⟩) n c) ss t ls S) (hs : SortN t.nodes) {i : Nat} (hi : i < t.nodes.length) (hd : t.nodes[i].data = []) (he : SortE t.nodes[i].names) (hl : t.nodes[i].names.length ≤ 1000) (nm : Key) (y : Nat) (hy : (nm, y) ∈ t.nodes[i].names) :
    Calls Tryd.prog 56 #[.pointer (some ⟨g, i * 6, none⟩), sv nm] w fun e w' => e = .returned (.tuple #[]) ∧ (∃ ls', NxB w' N B (.slice (some ⟨g, 0, none⟩) n c) ss { t with nodes := updN t.nodes t.nodes[i].ino fun m => { m with names := lessE m.names nm } } ls' S) ∧ Turn w w' (fun k => N ≤ k ∧ k ≠ B) := by
  have hi' : i < ls.length := by rw [h.rd.2]; exact hi
  have his := h.is hi' hi
  obtain ⟨cur, hcur, hsz, hcl⟩ := h.cells
  obtain ⟨dv, ev, hf, hbs, hen⟩ := hcl i hi'
  have h5 : cur[i * 6 + 5]? = some ev := by rw [hf 5 (by decide)]; rfl
  have hbl := h.blk
  refine (cutEntry_v g (i * 6) N nm y ls[i].1.names ev (fun k => ((N ≤ k ∧ k ≠ B) ∧ k ≠ g) ∧ ls[i].2 k) cur w hcur h5 hen (by rw [his]; exact he) (fun h => h.1.2 rfl) (by rw [his]; exact hl) (by rw [his]; exact hy)).mono ?_
  rintro e w' ⟨rfl, v9, hv9, hc10, ho10, ht10⟩
  have hG : ∀ k, (k = g ∨ ev.ownBlock = some k) → N ≤ k ∧ k ≠ B := fun k hk => hk.elim (fun e => e ▸ hbl) fun e => (hen.sub k e).1.1
  refine ⟨rfl, ⟨ls.set i ({ ls[i].1 with names := lessE ls[i].1.names nm }, fun k => (ls[i].2 k ∨ w.heap.size ≤ k) ∧ k < w'.heap.size), ?_⟩, ht10.mono fun k _ hk => hG k hk⟩
  have e1 : updN t.nodes t.nodes[i].ino (fun m => { m with names := lessE m.names nm }) = t.nodes.set i { ls[i].1 with names := lessE ls[i].1.names nm } := by rw [← set_updN hs hi, his]
  rw [e1]
  refine h.cell hcur hi' (f := 5) (by decide) hc10 ht10 (fun k hk => hk.elim Or.inl fun e => Or.inr (Or.inl ?_)) fun cs hx => ?_
  · have := hen.sub k e
    exact ⟨this.2, this.1.1.1, this.1.1.2, this.1.2⟩
  · obtain ⟨dv', nv', rfl, h1, h2, h3, h4, h5⟩ := hx
    exact ⟨dv', v9, rfl, bs_any h1 (by rw [his]; exact hd), ho10.mono fun k _ hk => ⟨hk.1, .inl hk.2⟩, h3, h4, h5⟩
theorem NxB.setE {w : World} {N B g n c : Nat} {ss : List Value} {t : Tr} {ls : List (Nd × Sup)} {S : Sup} (h : NxB w N B (.slice (some ⟨g, 0, none⟩) n c) ss t ls S) (hs : SortN t.nodes) {i : Nat} (hi : i < t.nodes.length) (hd : t.nodes[i].data = []) (he : SortE t.nodes[i].names) (hl : t.nodes[i].names.length ≤ 1000) (nm : Key) (x : Nat) (hnm : nm.length ≤ 1000000) (hx : x < 4294967296) :
    Calls Tryd.prog 25 #[.pointer (some ⟨g, i * 6, none⟩), sv nm, .int .u32 (x : Int)] w fun e w' => e = .returned (.tuple #[]) ∧ (∃ ls', NxB w' N B (.slice (some ⟨g, 0, none⟩) n c) ss { t with nodes := updN t.nodes t.nodes[i].ino fun m => { m with names := Go.Proofs.YtenpmbfncnepgaaDoor.setE m.names nm x } } ls' S) ∧ Turn w w' (fun k => N ≤ k ∧ k ≠ B) := by
  have hi' : i < ls.length := by rw [h.rd.2]; exact hi
  have his := h.is hi' hi
  obtain ⟨cur, hcur, hsz, hcl⟩ := h.cells
  obtain ⟨dv, ev, hf, hbs, hen⟩ := hcl i hi'
  have h5 : cur[i * 6 + 5]? = some ev := by rw [hf 5 (by decide)]; rfl
  have hbl := h.blk
  have hgl := hcur.lt
  have hBl := h.o.box.lt
  have hlow := h.o.low
  refine (setEntry_v g (i * 6) N nm x ls[i].1.names ev (fun k => (((N ≤ k ∧ k ≠ B) ∧ k ≠ g) ∧ ls[i].2 k) ∨ w.heap.size ≤ k) cur w hcur h5 (hen.mono fun k _ hk => .inl hk) (by rw [his]; exact he) (fun k hk => .inr hk) (fun h => h.elim (fun h => h.1.2 rfl) (fun h => by omega)) (by rw [his]; exact hl) hnm hx (by omega)).mono ?_
  rintro e w' ⟨rfl, v9, hv9, hc10, ho10, ht10⟩
  have hG : ∀ k, (k = g ∨ ev.ownBlock = some k) → N ≤ k ∧ k ≠ B := fun k hk => hk.elim (fun e => e ▸ hbl) fun e => (hen.sub k e).1.1
  refine ⟨rfl, ⟨ls.set i ({ ls[i].1 with names := Go.Proofs.YtenpmbfncnepgaaDoor.setE ls[i].1.names nm x }, fun k => (ls[i].2 k ∨ w.heap.size ≤ k) ∧ k < w'.heap.size), ?_⟩, ht10.mono fun k _ hk => hG k hk⟩
  have e1 : updN t.nodes t.nodes[i].ino (fun m => { m with names := Go.Proofs.YtenpmbfncnepgaaDoor.setE m.names nm x }) = t.nodes.set i { ls[i].1 with names := Go.Proofs.YtenpmbfncnepgaaDoor.setE ls[i].1.names nm x } := by rw [← set_updN hs hi, his]
  rw [e1]
  refine h.cell hcur hi' (f := 5) (by decide) hc10 ht10 (fun k hk => hk.elim Or.inl fun e => Or.inr (Or.inl ?_)) fun cs hx => ?_
  · have := hen.sub k e
    exact ⟨this.2, this.1.1.1, this.1.1.2, this.1.2⟩
  · obtain ⟨dv', nv', rfl, h1, h2, h3, h4, h5⟩ := hx
    exact ⟨dv', v9, rfl, bs_any h1 (by rw [his]; exact hd), ho10.mono fun k _ hk => hk.elim (fun h => ⟨h.1, .inl h.2⟩) (fun h => ⟨⟨⟨by omega, by omega⟩, by omega⟩, .inr h⟩), h3, h4, h5⟩
/-! ### two stamps -/
theorem map1_set {ls : List (Nd × Sup)} {i : Nat} {p : Nd × Sup} : (ls.set i p).map (·.1) = (ls.map (·.1)).set i p.1 := List.map_set
theorem map2_set {ls : List (Nd × Sup)} {i : Nat} (hi : i < ls.length) {x : Nd} : (ls.set i (x, ls[i].2)).map (·.2) = ls.map (·.2) := by
  rw [List.map_set]
  refine List.ext_getElem (by simp) fun j h1 h2 => ?_
  rw [List.getElem_set]
  split
  · rename_i e
    subst e
    rw [List.getElem_map]
  · rfl
theorem stamp_both (b st o o' : Nat) (cur : Array Value) : stampA b st [(b, o), (b, o')] cur = (cur.setIfInBounds (o + 3) (.int .u64 (st : Int))).setIfInBounds (o' + 3) (.int .u64 (st : Int)) := by
  simp [stampA, stampS]
theorem NxB.chg2 {w : World} {N B g n c : Nat} {ss : List Value} {t : Tr} {ls : List (Nd × Sup)} {S : Sup} (h : NxB w N B (.slice (some ⟨g, 0, none⟩) n c) ss t ls S) (hs : SortN t.nodes) {i j : Nat} (hi : i < t.nodes.length) (hj : j < t.nodes.length) (hct : t.count + 1 < 4294967296) {vb : Nat} (hv : Cs w vb 51 #[.pointer (some ⟨g, i * 6, none⟩), .pointer (some ⟨g, j * 6, none⟩)]) (hvB : vb ≠ B) (hvg : vb ≠ g) :
    Calls Tryd.prog 26 #[.pointer (some ⟨B, 0, none⟩), .slice (some ⟨vb, 0, none⟩) 2 2] w fun e w' => e = .returned (.tuple #[]) ∧ (∃ ls', NxB w' N B (.slice (some ⟨g, 0, none⟩) n c) ss { t with nodes := updN (updN t.nodes t.nodes[i].ino (chgN (stampT t))) t.nodes[j].ino (chgN (stampT t)), count := t.count + 1 } ls' S) ∧ Turn w w' (fun k => k = B ∨ k = g) := by
  have hi' : i < ls.length := by rw [h.rd.2]; exact hi
  have hj' : j < ls.length := by rw [h.rd.2]; exact hj
  obtain ⟨cur, hcur, hsz, -⟩ := h.cells
  have hbl := h.blk
  have hbg := h.o.big
  have hst : stampT t < 18446744073709551616 := by unfold stampT; omega
  refine (change_v (trC (.slice (some ⟨g, 0, none⟩) n c) t ss) t.boot t.count B vb [(g, i * 6), (g, j * 6)] w h.o.box (by unfold trC; simp only [List.length_cons, h.o.len.2]) rfl rfl hbg.2.1 hct hv (by simp) hvB (fun p hp => ?_)).mono ?_
  · rw [List.mem_cons, List.mem_singleton] at hp
    rcases hp with rfl | rfl
    · exact ⟨hbl.2, fun e => hvg e.symm, _, _, hcur, by simp; omega⟩
    · exact ⟨hbl.2, fun e => hvg e.symm, _, _, hcur, by simp; omega⟩
  rintro e w' ⟨rfl, hch⟩
  have hT : Turn w w' (fun k => k = B ∨ k = g) := hch.turn.mono fun q _ hq => by
    rcases hq with hq | ⟨p, hp, hq⟩
    · exact .inl hq
    · rw [List.mem_cons, List.mem_singleton] at hp
      rcases hp with rfl | rfl
      · exact .inr hq
      · exact .inr hq
  have h1 := hch.blk g _ _ hbl.2 hcur
  rw [stamp_both] at h1
  refine ⟨rfl, ⟨(ls.set i (chgN (stampT t) ls[i].1, ls[i].2)).set j (chgN (stampT t) ((ls.set i (chgN (stampT t) ls[i].1, ls[i].2))[j]'(by rw [List.length_set]; exact hj')).1, ((ls.set i (chgN (stampT t) ls[i].1, ls[i].2))[j]'(by rw [List.length_set]; exact hj')).2), ?_⟩, hT⟩
  have hjs : j < (ls.set i (chgN (stampT t) ls[i].1, ls[i].2)).length := by rw [List.length_set]; exact hj'
  have e1 := set_updN hs hi (chgN (stampT t))
  have hjl : j < (updN t.nodes t.nodes[i].ino (chgN (stampT t))).length := by rw [updN_len]; exact hj
  have e3 : (updN t.nodes t.nodes[i].ino (chgN (stampT t)))[j].ino = t.nodes[j].ino := inos_at (updN_inos _ (by intro m; rfl) _ _) hjl hj
  have e2 := set_updN (updN_sort (f := chgN (stampT t)) (by intro m; rfl) (i := t.nodes[i].ino) hs) hjl (chgN (stampT t))
  rw [e3] at e2
  have en : (ls.set i (chgN (stampT t) ls[i].1, ls[i].2)).map (·.1) = updN t.nodes t.nodes[i].ino (chgN (stampT t)) := by
    rw [map1_set, h.o.nds, ← e1]
    show t.nodes.set i (chgN (stampT t) ls[i].1) = _
    rw [h.is hi' hi]
  have ej : ((ls.set i (chgN (stampT t) ls[i].1, ls[i].2))[j]'hjs).1 = (updN t.nodes t.nodes[i].ino (chgN (stampT t)))[j] := by
    have := congrArg (fun x : List Nd => x[j]?) en
    simp only [List.getElem?_map, List.getElem?_eq_getElem hjs, List.getElem?_eq_getElem hjl, Option.map_some, Option.some.injEq] at this
    exact this
  refine h.chg hcur (t' := { t with nodes := updN (updN t.nodes t.nodes[i].ino (chgN (stampT t))) t.nodes[j].ino (chgN (stampT t)), count := t.count + 1 }) hch.box h1 hT (fun k hk => hk.elim Or.inl fun e => Or.inr (Or.inl e)) (fun W F hr => ?_) (by rw [Array.size_setIfInBounds, Array.size_setIfInBounds]) (by rw [List.length_set, List.length_set]) ?_ ?_ rfl ⟨hbg.1, hbg.2.1, hct⟩
  · rw [take_stamp, take_stamp]
    exact row_stamp (row_stamp hr hi' hst) hjs hst
  · rw [map2_set hjs, map2_set hi']
  · rw [map1_set, en]
    show (updN t.nodes t.nodes[i].ino (chgN (stampT t))).set j (chgN (stampT t) ((ls.set i (chgN (stampT t) ls[i].1, ls[i].2))[j]'hjs).1) = _
    rw [ej, e2]
/-! ### a node cut -/
theorem NxB.cutN {w : World} {N B g n c : Nat} {ss : List Value} {t : Tr} {ls : List (Nd × Sup)} {S : Sup} (h : NxB w N B (.slice (some ⟨g, 0, none⟩) n c) ss t ls S) (hs : SortN t.nodes) (hl : t.nodes.length ≤ 1000) {j : Nat} (hj : j < t.nodes.length) :
    Calls Tryd.prog 57 #[.pointer (some ⟨B, 0, none⟩), .pointer (some ⟨g, j * 6, none⟩)] w fun e w' => e = .returned (.tuple #[]) ∧ ∃ nv', Cs w' B 31 (trC nv' t ss).toArray ∧ TrAt w' (N ≤ ·) (trC nv' t ss) { t with nodes := outN t.nodes t.nodes[j].ino } ∧ Turn w w' (fun k => k = B ∨ k = g) := by
  have hls : ls.length = t.nodes.length := h.rd.2
  have hbl := h.blk
  obtain ⟨m, hm⟩ : ∃ m, ls.length = m + 1 := ⟨ls.length - 1, by omega⟩
  obtain ⟨cur1, -, -, hn, -⟩ := h.o.own.cur
  have hnm : n = m + 1 := by rw [hn, hm]
  subst hnm
  refine (cutNode_v N B g m c j (trC (.slice (some ⟨g, 0, none⟩) (m + 1) c) t ss) ls (fun k => N ≤ k ∧ k ≠ B) w h.o.box rfl h.o.own hm (by omega) (by omega) (by rw [h.o.nds]; exact hs) hbl (fun h => h.2 rfl)).mono ?_
  rintro e w' ⟨rfl, nv', hv', hc', ho', ht'⟩
  have hT : Turn w w' (fun k => k = B ∨ k = g) := ht'.mono fun q _ hq => hq.elim Or.inl fun e => Or.inr (by injection e with e; exact e.symm)
  refine ⟨rfl, nv', hc', ?_, hT⟩
  refine NxB.last (t' := { t with nodes := outN t.nodes t.nodes[j].ino }) h ho' (fun k hk => hk.1) hT (fun k hk hgk => ?_) ?_ rfl h.o.big
  · obtain ⟨k1, k2, k3, k4⟩ := h.o.far k hk
    rcases hgk with rfl | rfl
    · exact k2 rfl
    · exact k3 rfl
  · rw [map_eraseIdx13, h.o.nds]
    exact erase_outN hs hj
/-! ### two nodes by their addresses -/
theorem run_eql_nil (W : World) (b o : Nat) : (binOp .eql 51 (.pointer (some ⟨b, o, none⟩)) (.pointer none)).run Tryd.prog W = .ok (.bool false) W := by
  have hu : Tryd.prog.underlying 51 = some (.pointer 34) := Tryd.underlying51
  have h : ∀ d : Nat, (Op.equalIn (d + 1) 51 (.pointer (some ⟨b, o, none⟩)) (.pointer none)).run Tryd.prog W = .ok false W := fun d => by
    simp [Op.equalIn, run_underlying hu]
  simp only [binOp]
  simp [Op.equal, Op.maxDepth, h 9999]
theorem eql_nodes {l : List Nd} (hs : SortN l) {g : Nat} {v3 v4 : Value} {M : Nd} {o : Option Nd} (h3 : NodeP (some ⟨g, 0, none⟩) l v3 (some M)) (h4 : NodeP (some ⟨g, 0, none⟩) l v4 o) : ∃ q : Bool, (∀ W, (binOp .eql 51 v3 v4).run Tryd.prog W = .ok (.bool q) W) ∧ (q = true ↔ o = some M) := by
  obtain ⟨j, hj, rfl, rfl⟩ := nodeP_at h3 rfl
  cases o with
  | none =>
    rcases h4 with ⟨-, rfl⟩ | ⟨i, b, off, hi, h1, -⟩
    · exact ⟨false, fun W => run_eql_nil W g (j * 6), by simp⟩
    · cases h1
  | some b =>
    obtain ⟨i, hi, rfl, rfl⟩ := nodeP_at h4 rfl
    by_cases e : j = i
    · subst e
      exact ⟨true, fun W => run_eql_blk W g (j * 6) (j * 6) true (by simp), by simp⟩
    · exact ⟨false, fun W => run_eql_blk W g (j * 6) (i * 6) false (by simp; omega), fun h => (by cases h), fun h => absurd (congrArg Nd.ino (Option.some.inj h)) (ino_ne hs hi hj fun e3 => e e3.symm)⟩
/-! ### what the lists come to -/
theorem renamed_is (l : List Nd) (a b st : Nat) (nm k : Key) (x : Nat) :
    updN (updN (updN (updN l a fun m => { m with names := lessE m.names nm }) b fun m => { m with names := setE m.names k x }) a (chgN st)) b (chgN st) = updN (updN l a (lessF st nm)) b (fun m => withF st (k, x) (lessF st k m)) := by
  unfold updN
  simp only [List.map_map]
  refine List.map_congr_left fun m _ => ?_
  simp only [Function.comp]
  by_cases ha : m.ino = a
  · by_cases hb : m.ino = b
    · subst ha
      subst hb
      simp [chgN, lessF, withF, setE]
    · simp only [if_pos ha, if_neg hb]
      simp [chgN, lessF, ha, hb]
      exact fun e => absurd (ha.trans e) hb
  · by_cases hb : m.ino = b
    · simp only [if_neg ha, if_pos hb]
      simp [chgN, lessF, withF, setE, ha, hb]
    · simp [ha, hb]

end Go.Proofs.YtenpmbfncnepgaaDoor
