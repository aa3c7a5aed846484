/- SWEPT -/
import Derived.Test.YtdhlejhflkfoaaaDoorKB5
import Derived.Test.YtdhlejhflkfoaaaDoorKB11
/- The program: a loader reads a node's row. -/
namespace Go.Proofs.YtdhlejhflkfoaaaDoor
open Go.RowKit Go.Shelf
set_option linter.unusedVariables false
set_option maxRecDepth 100000
set_option linter.unusedSimpArgs false

section
variable {α : Type} {E : Elem α}
/-- an append that says whose block it lies in -/
theorem run_append_xo {w : World} (ty : TypeId) (base : Nat) (F : Nat → Prop) (v : Value) (ls : List α) (hown : OwnX E w base F v ls) (b off m c : Nat) (ys : List Value) (ms : List α) (hm : m = ms.length) (hy : RowX E w (fun k => F k ∧ v.ownBlock ≠ some k) ys ms)
    (hc : ∀ j u, ys[j]? = some u → w.cell? ⟨b, off + j, none⟩ = some u) (hb : ls.length + m ≤ 1099511627776) (hbase : base ≤ w.heap.size) (hF : F w.heap.size) :
    ∃ v' w', (Builtin.append_ #[E.sty, E.sty] ty #[v, .slice (some ⟨b, off, none⟩) m c]).run Tryd.prog w = .ok v' w' ∧ OwnX E w' base F v' (ls ++ ms) ∧ w.grownBy w' v.ownBlock ∧ (v'.ownBlock = v.ownBlock ∨ v'.ownBlock = some w.heap.size) := by
  obtain ⟨i0, z, hi, hz0, hz1, hz2, hz3⟩ := E.info
  obtain ⟨⟨vs, h1, h2⟩, h3⟩ := hown
  have hby := E.byt
  obtain ⟨v', w', hrun, r1, r2, r3, r4⟩ := run_append_own_at (P := Tryd.prog) w base E.sty ty E.ety i0 z E.n E.bytes E.und hi hz0 hz1 hz2 hz3 E.pos v ls.length vs h1 ⟨b, off, none⟩ m c ys (by rw [hy.1, hm])
    (fun j u hu => by
      have e1 : (⟨b, off, none⟩ : Addr).add j = ⟨b, off + j, none⟩ := by
        unfold Addr.add
        split <;> simp_all
      rw [e1]
      exact hc j u hu) hy.one (by simp only [maxLen]; omega) (Nat.le_trans (Nat.mul_le_mul hb hby) (by decide)) hbase
  have hturn : Turn w w' fun k => v.ownBlock = some k := Turn.of_grown r2
  refine ⟨v', w', hrun, ⟨⟨vs ++ ys, by rw [List.length_append, ← hm]; exact r1, ?_⟩, fun k hk => ?_⟩, r2, r4⟩
  · have e1 : RowX E w (fun k => (F k ∧ v'.ownBlock ≠ some k) ∧ v.ownBlock ≠ some k) (vs ++ ys) (ls ++ ms) := (h2.append hy).mono fun k hk hh => ⟨⟨hh.1, fun e => by
      rcases r4 with r4 | r4
      · exact hh.2 (r4.symm.trans e)
      · rw [r4] at e
        cases e
        exact Nat.lt_irrefl _ hk⟩, hh.2⟩
    exact (e1.turn hturn fun k hk => hk.2).mono fun k _ hk => hk.1
  · rcases r4 with r4 | r4
    · exact h3 k (r4.symm.trans hk)
    · rw [r4] at hk
      cases hk
      exact hF
theorem wp_append_xo {w : World} {o : Oper} {a : Act} {Q : Exit → Act → World → Prop} {K : Act → World → Prop} (s x : Operand) (ho : o.op = .call { callee := .builtin .append, args := #[s, x], argTypes := #[E.sty, E.sty] }) (base : Nat) (F : Nat → Prop) (v : Value) (ls : List α) (hs : a.eval s = v) (hown : OwnX E w base F v ls)
    (g c : Nat) (hx : a.eval x = .slice (some ⟨g, 0, none⟩) 1 c) (cs : List Value) (y : α) (hy : E.rd w (fun k => F k ∧ v.ownBlock ≠ some k) cs y) (t : TypeId) (hg : Cs w g t cs.toArray) (hb : ls.length + 1 ≤ 1099511627776) (hbase : base ≤ w.heap.size) (hF : F w.heap.size)
    (h : ∀ v' w', OwnX E w' base F v' (ls ++ [y]) → w.grownBy w' v.ownBlock → (v'.ownBlock = v.ownBlock ∨ v'.ownBlock = some w.heap.size) → K (a.put o.dst v') w') : o.wp Tryd.prog a w K Q := by
  obtain ⟨v', w', hr, h2, h3, h4⟩ := run_append_xo (E := E) o.type base F v ls hown g 0 1 c cs [y] rfl (RowX.single hy) (fun j u hu => by rw [Nat.zero_add]; exact hg.cell j (by simpa using hu)) hb hbase hF
  unfold Oper.wp execOp
  simp only [ho, resolve, invoke, builtin, Sem.run_bind, Sem.run_pure, Result.andThen_ok, List.map_toArray, List.map_cons, List.map_nil, hs, hx, hr]
  exact h v' w' h2 h3 h4
end
theorem wp_buildN {w : World} {o : Oper} {a : Act} {Q : Exit → Act → World → Prop} {K : Act → World → Prop} (x : Operand) (ho : o.op = .buildSlice 22 1 #[(0, x)]) (n : Nd) (dv nv : Value) (hx : a.eval x = .agg (ndC n dv nv).toArray)
    (hK : ∀ g w', Cs w' g 48 (ndC n dv nv).toArray → Below w.heap.size w w' → w.heap.size ≤ g → K (a.put o.dst (.slice (some ⟨g, 0, none⟩) 1 1)) w') : o.wp Tryd.prog a w K Q := by
  refine wp_of_run2 (v := .slice (some ⟨w.heap.size, 0, none⟩) 1 1) (w' := w.alloc (.cells (ndC n dv nv).toArray 48)) ?_ (hK _ _ (Cs.new _ _ _) ((Below.refl _ _).alloc (Nat.le_refl _) _) (Nat.le_refl _))
  unfold execOp
  simp only [ho, hx, List.map_toArray, List.map_cons, List.map_nil, ndC]
  go_simp
theorem run_buildNode {a : Act} {o : Oper} {w : World} {x y z q : Operand} {i g c : Nat} {d : Bool} (ho : o.op = .build 48 #[(0, x), (1, y), (2, z), (3, q)]) (h1 : a.eval x = .int .u32 (i : Int)) (h2 : a.eval y = .int .u32 (g : Int)) (h3 : a.eval z = .bool d) (h4 : a.eval q = .int .u64 (c : Int)) : (execOp a.eval o).run Tryd.prog w = .ok (.value (.agg (ndC ⟨i, g, d, c, [], []⟩ (.slice none 0 0) (.slice none 0 0)).toArray)) w := by
  unfold execOp
  simp only [ho, h1, h2, h3, h4, List.map_toArray, List.map_cons, List.map_nil]
  unfold ndC
  go_simp
theorem ndZ_one (n : Nd) : ∀ v ∈ ndC n (.slice none 0 0) (.slice none 0 0), v.oneCell' = true := by
  intro v hv
  simp [ndC] at hv
  rcases hv with rfl | rfl | rfl | rfl | rfl | rfl <;> rfl
/-- what a row of a node makes of a tree -/
def nodD (k v : List UInt8) : Nd :=
  ⟨numD k 4, numD v 4, decide (numD (v.drop 4) 1 = 1), numD (v.drop 5) 8, if numD (v.drop 4) 1 = 1 then [] else v.drop 13, if numD (v.drop 4) 1 = 1 then namD (v.drop 13) else []⟩
def nodS (t : Tr) (k v : List UInt8) : Tr := { t with nodes := t.nodes ++ [nodD k v] }
/-- a node is appended to the loader's tree -/
theorem LoT.addN {w w' : World} {base L : Nat} {hd : List Value} {t : Tr} {n : Nd} {nv v' : Value} (h : LoT w base L hd t) (h0 : hd[0]? = some nv) (ho : OwnX nodeN w' base (fun q => base ≤ q ∧ q ≠ L) v' (t.nodes ++ [n])) (hg : w.grownBy w' nv.ownBlock) (hv : v'.ownBlock = nv.ownBlock ∨ v'.ownBlock = some w.heap.size) : LoT w' base L (hd.set 0 v') { t with nodes := t.nodes ++ [n] } := by
  have hlen := h.len
  obtain ⟨nv', h1, h2, h3⟩ := h.nod
  rw [h0] at h1
  cases h1
  refine ⟨by simp [hlen], ⟨v', by rw [List.getElem?_set_self (by omega)], ho, fun j hj => ?_⟩, by rw [List.getElem?_set_ne (by decide)]; exact h.c1, by rw [List.getElem?_set_ne (by decide)]; exact h.c2, by rw [List.getElem?_set_ne (by decide)]; exact h.c3, h.four, h.big, h.sb⟩
  refine (h3 j hj).moves (fun i hi _ => ?_) fun u hu => ?_
  · rw [List.getElem?_toArray, List.getElem?_toArray, List.getElem?_set_ne (by omega)]
  · refine (hu.mono (G := fun q => ((base ≤ q ∧ q ≠ L) ∧ v'.ownBlock ≠ some q) ∧ nv.ownBlock ≠ some q) fun q hq hF => ⟨⟨hF.1, fun e => ?_⟩, hF.2⟩).turn (Turn.of_grown hg) (fun q hq => hq.2) |>.mono fun q _ hq => hq.1
    rcases hv with hv | hv
    · exact hF.2 (hv ▸ e)
    · rw [hv] at e
      cases e
      exact Nat.lt_irrefl _ hq
theorem LoT.setL {w w' : World} {base L : Nat} {hd : List Value} {t : Tr} {nv kv vv : Value} (h : LoT w base L (hd.set 0 nv) t) (ht : Turn w w' (· = L)) (hk : Cs w' L 64 ((hd ++ [kv, vv]).toArray.setIfInBounds 0 nv)) : LoAt w' base L t := by
  refine ⟨hd.set 0 nv, kv, vv, ?_, h.turnL ht⟩
  have hl : hd.length = 16 := by simpa using h.len
  rwa [List.setIfInBounds_toArray, List.set_append_left _ _ (by omega)] at hk
theorem infoNdsL : (Tryd.prog.info? 22).map (·.size) = some 1 := by kernel_rfl
theorem infoEnsL : (Tryd.prog.info? 46).map (·.size) = some 1 := by kernel_rfl
theorem kept_n0 (w : World) (F : Nat → Prop) (L : Nat) (hd : List Value) (k v : List UInt8) (g : Nat) (xs : Array Value) : Kept (fun z => LdAt z F L hd k v ∧ Turn w z (· = L) ∧ Cs z g 48 xs ∧ w.heap.size ≤ g) := fun a b h hb =>
  ⟨h.1.below hb, h.2.1.trans (Turn.of_below hb _) fun _ _ h => h, h.2.2.1.below hb h.2.2.1.lt, h.2.2.2⟩
/-- ahead of the append -/
structure NdSt (w : World) (L : Nat) (hd : List Value) (kv vv : Value) (g : Nat) (n : Nd) (dv nv : Value) (z : World) : Prop where
  blk : Cs z L 64 (hd ++ [kv, vv]).toArray
  tn : Turn w z (· = L)
  cell : Cs z g 48 (ndC n dv nv).toArray
  dat : NewV z (w.heap.size ≤ ·) dv n.data
  nam : LsV entE z (w.heap.size ≤ ·) nv n.names
theorem kept_nds {w : World} {L : Nat} {hd : List Value} {kv vv : Value} {g : Nat} {n : Nd} {dv nv : Value} : Kept (NdSt w L hd kv vv g n dv nv) := fun a b h hb =>
  ⟨h.blk.below hb h.blk.lt, h.tn.trans (Turn.of_below hb _) fun _ _ h => h, h.cell.below hb h.cell.lt, h.dat.below hb, h.nam.below hb⟩
/-- behind it -/
structure NdEn (w : World) (base L : Nat) (hd : List Value) (kv vv : Value) (g : Nat) (xs : Array Value) (v9 : Value) (t : Tr) (z : World) : Prop where
  blk : Cs z L 64 (hd ++ [kv, vv]).toArray
  lot : LoT z base L (hd.set 0 v9) t
  tn : Turn w z (fun q => base ≤ q ∨ q = L)
  cell : Cs z g 48 xs
theorem kept_nde {w : World} {base L : Nat} {hd : List Value} {kv vv : Value} {g : Nat} {xs : Array Value} {v9 : Value} {t : Tr} : Kept (NdEn w base L hd kv vv g xs v9 t) := fun a b h hb =>
  ⟨h.blk.below hb h.blk.lt, h.lot.below hb, h.tn.trans (Turn.of_below hb _) fun _ _ h => h, h.cell.below hb h.cell.lt⟩
theorem ld_hd {hd : List Value} {kv vv nv : Value} (h : hd[0]? = some nv) : (hd ++ [kv, vv]).toArray[0]? = some nv := by
  cases hd with
  | nil => cases h
  | cons x r => simpa using h
set_option maxHeartbeats 32000000 in
theorem node_r (L base : Nat) (hd : List Value) (k v : List UInt8) (F : Nat → Prop) (t : Tr) (w : World) (h : LdAt w F L hd k v) (hF : ∀ q, F q → q < w.heap.size) (hT : LoT w base L hd t) (hb : base ≤ w.heap.size) (hn : t.nodes.length ≤ 1000000) :
    Calls Tryd.prog 56 #[.pointer (some ⟨L, 0, none⟩)] w fun e w' => e = .returned (.tuple #[]) ∧ LoAt w' base L (nodS t k v) ∧ Turn w w' (fun q => base ≤ q ∨ q = L) := by
  have hmix : Tryd.prog.follows .mixedOrders = true := by kernel_rfl
  have HL := Lib.hid h
  obtain ⟨p, hp⟩ : ∃ p, p = v.drop 13 := ⟨_, rfl⟩
  have HPP := Lib.hid hp
  have HF := Lib.hid hF
  have HT := Lib.hid hT
  have HB := Lib.hid hb
  have HLT := Lib.hid h.lt
  have HTN := Lib.hid hn
  have HDD := Lib.hid (show (v.drop 4).drop 1 = v.drop 5 by rw [List.drop_drop])
  have HDE := Lib.hid (show (v.drop 5).drop 8 = p by rw [hp, List.drop_drop])
  have HN32 := Lib.hid (And.intro (numD_4 k) (And.intro (numD_4 v) (numD_8 (v.drop 5))))
  obtain ⟨d, hd0⟩ : ∃ d, d = decide (numD (v.drop 4) 1 = 1) := ⟨_, rfl⟩
  have jd : ((numD (v.drop 4) 1 : Int) == 1) = d := by
    rw [hd0]
    by_cases e : numD (v.drop 4) 1 = 1
    · simp [e]
    · have e' : (numD (v.drop 4) 1 : Int) ≠ 1 := by omega
      simp [e, e']
  have HD := Lib.hid hd0
  obtain ⟨nv0, hn0⟩ : ∃ nv0, hd[0]? = some nv0 := by
    obtain ⟨nv, h1, -⟩ := hT.nod
    exact ⟨nv, h1⟩
  have HN0 := Lib.hid hn0
  obtain ⟨An, cn, hnv⟩ : ∃ A c, nv0 = .slice A t.nodes.length c := by
    obtain ⟨nv, h1, h2, -⟩ := hT.nod
    rw [hn0] at h1
    cases h1
    obtain ⟨A, c, e, -⟩ := h2.form
    exact ⟨A, c, e⟩
  have HNV := Lib.hid hnv
  have HOW := Lib.hid (show ∀ q, nv0.ownBlock = some q → base ≤ q ∧ q < w.heap.size ∧ q ≠ L from fun q hq => by
    obtain ⟨nv, h1, h2, -⟩ := hT.nod
    rw [hn0] at h1
    cases h1
    exact ⟨(h2.lt q hq).1, (h2.lt q hq).2, (h2.sub q hq).2⟩)
  have HNQ := Lib.hid (show ∀ dv nv, ndC (nodD k v) dv nv = ndC ⟨numD k 4, numD v 4, d, numD (v.drop 5) 8, [], []⟩ dv nv from fun dv nv => by rw [hd0]; rfl)
  clear h hF hT hb hn hd0 hn0 hnv hp
  go_enter Tryd.func56, Tryd.ntmps56
  go_wp2_with fail
  refine code_cut (fun a a1 u => ∃ (g : Nat), LdAt u F L hd (k.drop 4) p ∧ Turn w u (· = L) ∧ Cs u g 48 (ndC ⟨numD k 4, numD v 4, d, numD (v.drop 5) 8, [], []⟩ (.slice none 0 0) (.slice none 0 0)).toArray ∧ w.heap.size ≤ g ∧ a1 = (((((((((((((((((((a.put (some 3) (.pointer (some ⟨L, 0, none⟩))).put (some 4) (.pointer (some ⟨L, 0, none⟩))).put (some 5) (.pointer (some ⟨L, 16, none⟩))).put (some 7) (.pointer (some ⟨L, 0, none⟩))).put (some 8) (.pointer (some ⟨L, 0, none⟩))).put (some 9) (.pointer (some ⟨L, 17, none⟩))).put (some 11) (.pointer (some ⟨L, 0, none⟩))).put (some 12) (.pointer (some ⟨L, 0, none⟩))).put (some 13) (.pointer (some ⟨L, 17, none⟩))).put (some 16) (.pointer (some ⟨L, 0, none⟩))).put (some 17) (.pointer (some ⟨L, 0, none⟩))).put (some 18) (.pointer (some ⟨L, 17, none⟩))).put (some 6) (.int .u32 (numD k 4 : Int))).put (some 10) (.int .u32 (numD v 4 : Int))).put (some 14) (.int .u64 (numD (v.drop 4) 1 : Int))).put (some 15) (.bool d)).put (some 19) (.int .u64 (numD (v.drop 5) 8 : Int))).put (some 20) (.agg (ndC ⟨numD k 4, numD v 4, d, numD (v.drop 5) 8, [], []⟩ (.slice none 0 0) (.slice none 0 0)).toArray)).put (some 2) (.pointer (some ⟨g, 0, none⟩)))) ?_ ?_
  · refine wp_region_V [3, 7, 11, 16, 18, 19] (RdSt w F L hd k v 48 nodeZ none none) hmix (RdSt.start HL.out ((Below.refl _ _).drew)) ?_
    change wpAnyV _ _ _ _ _ _ _ _ _
    refine wpAnyV_pure (i := 0) (v := .pointer (some ⟨L, 0, none⟩)) (kept_rds) rfl (by kernel_rfl) (by kernel_rfl) (fun _ _ _ h => by cases h.1) (DoesV.reads (by rfl) fun w9 hS => by go_simp) ?_
    try simp only [nrm, Act.put]
    refine wpAnyV_pure (i := 1) (v := .pointer (some ⟨L, 0, none⟩)) (kept_rds) rfl (by kernel_rfl) (by kernel_rfl) (fun _ _ _ h => by cases h.1) (DoesV.reads (by rfl) fun w9 hS => by go_simp) ?_
    try simp only [nrm, Act.put]
    refine wpAnyV_pure (i := 2) (v := .pointer (some ⟨L, 16, none⟩)) (kept_rds) rfl (by kernel_rfl) (by kernel_rfl) (fun _ _ _ h => by cases h.1) (DoesV.reads (by rfl) fun w9 hS => by go_simp) ?_
    try simp only [nrm, Act.put]
    refine wpAnyV_pure (i := 4) (v := .pointer (some ⟨L, 0, none⟩)) (kept_rds) rfl (by kernel_rfl) (by kernel_rfl) (fun _ _ _ h => by cases h.1) (DoesV.reads (by rfl) fun w9 hS => by go_simp) ?_
    try simp only [nrm, Act.put]
    refine wpAnyV_pure (i := 5) (v := .pointer (some ⟨L, 0, none⟩)) (kept_rds) rfl (by kernel_rfl) (by kernel_rfl) (fun _ _ _ h => by cases h.1) (DoesV.reads (by rfl) fun w9 hS => by go_simp) ?_
    try simp only [nrm, Act.put]
    refine wpAnyV_pure (i := 6) (v := .pointer (some ⟨L, 17, none⟩)) (kept_rds) rfl (by kernel_rfl) (by kernel_rfl) (fun _ _ _ h => by cases h.1) (DoesV.reads (by rfl) fun w9 hS => by go_simp) ?_
    try simp only [nrm, Act.put]
    refine wpAnyV_pure (i := 8) (v := .pointer (some ⟨L, 0, none⟩)) (kept_rds) rfl (by kernel_rfl) (by kernel_rfl) (fun _ _ _ h => by cases h.1) (DoesV.reads (by rfl) fun w9 hS => by go_simp) ?_
    try simp only [nrm, Act.put]
    refine wpAnyV_pure (i := 9) (v := .pointer (some ⟨L, 0, none⟩)) (kept_rds) rfl (by kernel_rfl) (by kernel_rfl) (fun _ _ _ h => by cases h.1) (DoesV.reads (by rfl) fun w9 hS => by go_simp) ?_
    try simp only [nrm, Act.put]
    refine wpAnyV_pure (i := 10) (v := .pointer (some ⟨L, 17, none⟩)) (kept_rds) rfl (by kernel_rfl) (by kernel_rfl) (fun _ _ _ h => by cases h.1) (DoesV.reads (by rfl) fun w9 hS => by go_simp) ?_
    try simp only [nrm, Act.put]
    refine wpAnyV_pure (i := 13) (v := .pointer (some ⟨L, 0, none⟩)) (kept_rds) rfl (by kernel_rfl) (by kernel_rfl) (fun _ _ _ h => by cases h.1) (DoesV.reads (by rfl) fun w9 hS => by go_simp) ?_
    try simp only [nrm, Act.put]
    refine wpAnyV_pure (i := 14) (v := .pointer (some ⟨L, 0, none⟩)) (kept_rds) rfl (by kernel_rfl) (by kernel_rfl) (fun _ _ _ h => by cases h.1) (DoesV.reads (by rfl) fun w9 hS => by go_simp) ?_
    try simp only [nrm, Act.put]
    refine wpAnyV_pure (i := 15) (v := .pointer (some ⟨L, 17, none⟩)) (kept_rds) rfl (by kernel_rfl) (by kernel_rfl) (fun _ _ _ h => by cases h.1) (DoesV.reads (by rfl) fun w9 hS => by go_simp) ?_
    try simp only [nrm, Act.put]
    refine wpAnyV_all (l := [3, 18]) (by kernel_rfl) (by decide) (fun i hi u hS => ?_)
    simp only [List.mem_cons, List.not_mem_nil, or_false] at hi
    rcases hi with rfl | rfl
    · refine wpOp_at rfl rfl ?_
      refine wp_of_call (f := 75) (args := #[.pointer (some ⟨L, 16, none⟩)]) (by go_simp) (ld_key32 hS.ld) fun e u' hu => ?_
      obtain ⟨he, hl, ht⟩ := hu
      refine ⟨_, he, RdSt w F L hd (k.drop 4) v 48 nodeZ none none, hS.next HLT.out hl ht, kept_rds, fun hh => absurd (by decide : (3 : Nat) ∈ [3, 7, 11, 16, 18, 19]) hh, ?_⟩
      try simp only [nrm, Act.put]
      clear he hl ht hS
      refine wpAnyV_all (l := [7, 18]) (by kernel_rfl) (by decide) (fun i hi u hS => ?_)
      simp only [List.mem_cons, List.not_mem_nil, or_false] at hi
      rcases hi with rfl | rfl
      · refine wpOp_at rfl rfl ?_
        refine wp_of_call (f := 75) (args := #[.pointer (some ⟨L, 17, none⟩)]) (by go_simp) (ld_num32 hS.ld) fun e u' hu => ?_
        obtain ⟨he, hl, ht⟩ := hu
        refine ⟨_, he, RdSt w F L hd (k.drop 4) (v.drop 4) 48 nodeZ none none, hS.next HLT.out hl ht, kept_rds, fun hh => absurd (by decide : (7 : Nat) ∈ [3, 7, 11, 16, 18, 19]) hh, ?_⟩
        try simp only [nrm, Act.put]
        clear he hl ht hS
        refine wpAnyV_all (l := [11, 18]) (by kernel_rfl) (by decide) (fun i hi u hS => ?_)
        simp only [List.mem_cons, List.not_mem_nil, or_false] at hi
        rcases hi with rfl | rfl
        · refine wpOp_at rfl rfl ?_
          refine wp_of_call (f := 76) (args := #[.pointer (some ⟨L, 17, none⟩), .int .i64 1]) (by go_simp) (ld_num hS.ld 1 rfl) fun e u' hu => ?_
          obtain ⟨he, hl, ht⟩ := hu
          rw [HDD.out] at hl
          refine ⟨_, he, RdSt w F L hd (k.drop 4) (v.drop 5) 48 nodeZ none none, hS.next HLT.out hl ht, kept_rds, fun hh => absurd (by decide : (11 : Nat) ∈ [3, 7, 11, 16, 18, 19]) hh, ?_⟩
          try simp only [nrm, Act.put]
          clear he hl ht hS
          refine wpAnyV_pure (i := 12) (v := .bool d) (kept_rds) rfl (by kernel_rfl) (by kernel_rfl) (fun _ _ _ h => by cases h.1) (DoesV.reads (by rfl) fun w9 hS => by go_simp) ?_
          try simp only [nrm, Act.put]
          refine wpAnyV_all (l := [16, 18]) (by kernel_rfl) (by decide) (fun i hi u hS => ?_)
          simp only [List.mem_cons, List.not_mem_nil, or_false] at hi
          rcases hi with rfl | rfl
          · refine wpOp_at rfl rfl ?_
            refine wp_of_call (f := 76) (args := #[.pointer (some ⟨L, 17, none⟩), .int .i64 8]) (by go_simp) (ld_num hS.ld 8 rfl) fun e u' hu => ?_
            obtain ⟨he, hl, ht⟩ := hu
            rw [HDE.out] at hl
            refine ⟨_, he, RdSt w F L hd (k.drop 4) p 48 nodeZ none none, hS.next HLT.out hl ht, kept_rds, fun hh => absurd (by decide : (16 : Nat) ∈ [3, 7, 11, 16, 18, 19]) hh, ?_⟩
            try simp only [nrm, Act.put]
            clear he hl ht hS
            refine wpAnyV_pure (i := 17) (v := .agg (ndC ⟨numD k 4, numD v 4, d, numD (v.drop 5) 8, [], []⟩ (.slice none 0 0) (.slice none 0 0)).toArray) (kept_rds) rfl (by kernel_rfl) (by kernel_rfl) (fun _ _ _ h => by cases h.1) (DoesV.reads (by rfl) fun w9 hS => run_buildNode rfl rfl rfl rfl rfl) ?_
            try simp only [nrm, Act.put]
            refine wpAnyV_all (l := [18]) (by kernel_rfl) (by decide) (fun i hi u hS => ?_)
            simp only [List.mem_cons, List.not_mem_nil, or_false] at hi
            subst hi
            refine wpOp_at rfl rfl ?_
            refine wp_allocS 48 rfl nodeZ nodeZero (fun g u' hk hb hg => ?_)
            refine ⟨RdSt w F L hd (k.drop 4) p 48 nodeZ (some g) none, hS.alloc hk hb hg, kept_rds, fun hh => absurd (by decide : (18 : Nat) ∈ [3, 7, 11, 16, 18, 19]) hh, ?_⟩
            try simp only [nrm, Act.put]
            clear hk hb hg hS
            refine wpAnyV_all (l := [19]) (by kernel_rfl) (by decide) (fun i hi u hS => ?_)
            simp only [List.mem_cons, List.not_mem_nil, or_false] at hi
            subst hi
            refine wpOp_at rfl rfl ?_
            refine wp_storeW 48 _ _ rfl g rfl (ndC ⟨numD k 4, numD v 4, d, numD (v.drop 5) 8, [], []⟩ (.slice none 0 0) (.slice none 0 0)) nodeZ rfl (hS.cell g rfl).1 rfl (ndZ_one _) infoNode fun u' hk ht => ?_
            have HG := (hS.cell g rfl).2
            refine ⟨(fun z => LdAt z F L hd (k.drop 4) p ∧ Turn w z (· = L) ∧ Cs z g 48 (ndC ⟨numD k 4, numD v 4, d, numD (v.drop 5) 8, [], []⟩ (.slice none 0 0) (.slice none 0 0)).toArray ∧ w.heap.size ≤ g), ⟨hS.ld.turn ht (fun q hq e => by have := HF.out q hq; omega) (by have := HLT.out; omega), hS.tn.trans ht fun i hi e => absurd hi (by omega), hk, HG⟩, kept_n0 _ _ _ _ _ _ _ _, fun hh => absurd (by decide : (19 : Nat) ∈ [3, 7, 11, 16, 18, 19]) hh, ?_⟩
            try simp only [nrm, Act.put]
            exact wpAnyV_done (by kernel_rfl) (fun z hz => ⟨rfl, g, hz.1, hz.2.1, hz.2.2.1, hz.2.2.2, rfl⟩) _
          · refine wpOp_at rfl rfl ?_
            refine wp_allocS 48 rfl nodeZ nodeZero (fun g u' hk hb hg => ?_)
            refine ⟨RdSt w F L hd (k.drop 4) (v.drop 5) 48 nodeZ (some g) none, hS.alloc hk hb hg, kept_rds, fun hh => absurd (by decide : (18 : Nat) ∈ [3, 7, 11, 16, 18, 19]) hh, ?_⟩
            try simp only [nrm, Act.put]
            clear hk hb hg hS
            refine wpAnyV_all (l := [16]) (by kernel_rfl) (by decide) (fun i hi u hS => ?_)
            simp only [List.mem_cons, List.not_mem_nil, or_false] at hi
            subst hi
            refine wpOp_at rfl rfl ?_
            refine wp_of_call (f := 76) (args := #[.pointer (some ⟨L, 17, none⟩), .int .i64 8]) (by go_simp) (ld_num hS.ld 8 rfl) fun e u' hu => ?_
            obtain ⟨he, hl, ht⟩ := hu
            rw [HDE.out] at hl
            refine ⟨_, he, RdSt w F L hd (k.drop 4) p 48 nodeZ (some g) none, hS.next HLT.out hl ht, kept_rds, fun hh => absurd (by decide : (16 : Nat) ∈ [3, 7, 11, 16, 18, 19]) hh, ?_⟩
            try simp only [nrm, Act.put]
            clear he hl ht hS
            refine wpAnyV_pure (i := 17) (v := .agg (ndC ⟨numD k 4, numD v 4, d, numD (v.drop 5) 8, [], []⟩ (.slice none 0 0) (.slice none 0 0)).toArray) (kept_rds) rfl (by kernel_rfl) (by kernel_rfl) (fun _ _ _ h => by cases h.1) (DoesV.reads (by rfl) fun w9 hS => run_buildNode rfl rfl rfl rfl rfl) ?_
            try simp only [nrm, Act.put]
            refine wpAnyV_all (l := [19]) (by kernel_rfl) (by decide) (fun i hi u hS => ?_)
            simp only [List.mem_cons, List.not_mem_nil, or_false] at hi
            subst hi
            refine wpOp_at rfl rfl ?_
            refine wp_storeW 48 _ _ rfl g rfl (ndC ⟨numD k 4, numD v 4, d, numD (v.drop 5) 8, [], []⟩ (.slice none 0 0) (.slice none 0 0)) nodeZ rfl (hS.cell g rfl).1 rfl (ndZ_one _) infoNode fun u' hk ht => ?_
            have HG := (hS.cell g rfl).2
            refine ⟨(fun z => LdAt z F L hd (k.drop 4) p ∧ Turn w z (· = L) ∧ Cs z g 48 (ndC ⟨numD k 4, numD v 4, d, numD (v.drop 5) 8, [], []⟩ (.slice none 0 0) (.slice none 0 0)).toArray ∧ w.heap.size ≤ g), ⟨hS.ld.turn ht (fun q hq e => by have := HF.out q hq; omega) (by have := HLT.out; omega), hS.tn.trans ht fun i hi e => absurd hi (by omega), hk, HG⟩, kept_n0 _ _ _ _ _ _ _ _, fun hh => absurd (by decide : (19 : Nat) ∈ [3, 7, 11, 16, 18, 19]) hh, ?_⟩
            try simp only [nrm, Act.put]
            exact wpAnyV_done (by kernel_rfl) (fun z hz => ⟨rfl, g, hz.1, hz.2.1, hz.2.2.1, hz.2.2.2, rfl⟩) _
        · refine wpOp_at rfl rfl ?_
          refine wp_allocS 48 rfl nodeZ nodeZero (fun g u' hk hb hg => ?_)
          refine ⟨RdSt w F L hd (k.drop 4) (v.drop 4) 48 nodeZ (some g) none, hS.alloc hk hb hg, kept_rds, fun hh => absurd (by decide : (18 : Nat) ∈ [3, 7, 11, 16, 18, 19]) hh, ?_⟩
          try simp only [nrm, Act.put]
          clear hk hb hg hS
          refine wpAnyV_all (l := [11]) (by kernel_rfl) (by decide) (fun i hi u hS => ?_)
          simp only [List.mem_cons, List.not_mem_nil, or_false] at hi
          subst hi
          refine wpOp_at rfl rfl ?_
          refine wp_of_call (f := 76) (args := #[.pointer (some ⟨L, 17, none⟩), .int .i64 1]) (by go_simp) (ld_num hS.ld 1 rfl) fun e u' hu => ?_
          obtain ⟨he, hl, ht⟩ := hu
          rw [HDD.out] at hl
          refine ⟨_, he, RdSt w F L hd (k.drop 4) (v.drop 5) 48 nodeZ (some g) none, hS.next HLT.out hl ht, kept_rds, fun hh => absurd (by decide : (11 : Nat) ∈ [3, 7, 11, 16, 18, 19]) hh, ?_⟩
          try simp only [nrm, Act.put]
          clear he hl ht hS
          refine wpAnyV_pure (i := 12) (v := .bool d) (kept_rds) rfl (by kernel_rfl) (by kernel_rfl) (fun _ _ _ h => by cases h.1) (DoesV.reads (by rfl) fun w9 hS => by go_simp) ?_
          try simp only [nrm, Act.put]
          refine wpAnyV_all (l := [16]) (by kernel_rfl) (by decide) (fun i hi u hS => ?_)
          simp only [List.mem_cons, List.not_mem_nil, or_false] at hi
          subst hi
          refine wpOp_at rfl rfl ?_
          refine wp_of_call (f := 76) (args := #[.pointer (some ⟨L, 17, none⟩), .int .i64 8]) (by go_simp) (ld_num hS.ld 8 rfl) fun e u' hu => ?_
          obtain ⟨he, hl, ht⟩ := hu
          rw [HDE.out] at hl
          refine ⟨_, he, RdSt w F L hd (k.drop 4) p 48 nodeZ (some g) none, hS.next HLT.out hl ht, kept_rds, fun hh => absurd (by decide : (16 : Nat) ∈ [3, 7, 11, 16, 18, 19]) hh, ?_⟩
          try simp only [nrm, Act.put]
          clear he hl ht hS
          refine wpAnyV_pure (i := 17) (v := .agg (ndC ⟨numD k 4, numD v 4, d, numD (v.drop 5) 8, [], []⟩ (.slice none 0 0) (.slice none 0 0)).toArray) (kept_rds) rfl (by kernel_rfl) (by kernel_rfl) (fun _ _ _ h => by cases h.1) (DoesV.reads (by rfl) fun w9 hS => run_buildNode rfl rfl rfl rfl rfl) ?_
          try simp only [nrm, Act.put]
          refine wpAnyV_all (l := [19]) (by kernel_rfl) (by decide) (fun i hi u hS => ?_)
          simp only [List.mem_cons, List.not_mem_nil, or_false] at hi
          subst hi
          refine wpOp_at rfl rfl ?_
          refine wp_storeW 48 _ _ rfl g rfl (ndC ⟨numD k 4, numD v 4, d, numD (v.drop 5) 8, [], []⟩ (.slice none 0 0) (.slice none 0 0)) nodeZ rfl (hS.cell g rfl).1 rfl (ndZ_one _) infoNode fun u' hk ht => ?_
          have HG := (hS.cell g rfl).2
          refine ⟨(fun z => LdAt z F L hd (k.drop 4) p ∧ Turn w z (· = L) ∧ Cs z g 48 (ndC ⟨numD k 4, numD v 4, d, numD (v.drop 5) 8, [], []⟩ (.slice none 0 0) (.slice none 0 0)).toArray ∧ w.heap.size ≤ g), ⟨hS.ld.turn ht (fun q hq e => by have := HF.out q hq; omega) (by have := HLT.out; omega), hS.tn.trans ht fun i hi e => absurd hi (by omega), hk, HG⟩, kept_n0 _ _ _ _ _ _ _ _, fun hh => absurd (by decide : (19 : Nat) ∈ [3, 7, 11, 16, 18, 19]) hh, ?_⟩
          try simp only [nrm, Act.put]
          exact wpAnyV_done (by kernel_rfl) (fun z hz => ⟨rfl, g, hz.1, hz.2.1, hz.2.2.1, hz.2.2.2, rfl⟩) _
      · refine wpOp_at rfl rfl ?_
        refine wp_allocS 48 rfl nodeZ nodeZero (fun g u' hk hb hg => ?_)
        refine ⟨RdSt w F L hd (k.drop 4) v 48 nodeZ (some g) none, hS.alloc hk hb hg, kept_rds, fun hh => absurd (by decide : (18 : Nat) ∈ [3, 7, 11, 16, 18, 19]) hh, ?_⟩
        try simp only [nrm, Act.put]
        clear hk hb hg hS
        refine wpAnyV_all (l := [7]) (by kernel_rfl) (by decide) (fun i hi u hS => ?_)
        simp only [List.mem_cons, List.not_mem_nil, or_false] at hi
        subst hi
        refine wpOp_at rfl rfl ?_
        refine wp_of_call (f := 75) (args := #[.pointer (some ⟨L, 17, none⟩)]) (by go_simp) (ld_num32 hS.ld) fun e u' hu => ?_
        obtain ⟨he, hl, ht⟩ := hu
        refine ⟨_, he, RdSt w F L hd (k.drop 4) (v.drop 4) 48 nodeZ (some g) none, hS.next HLT.out hl ht, kept_rds, fun hh => absurd (by decide : (7 : Nat) ∈ [3, 7, 11, 16, 18, 19]) hh, ?_⟩
        try simp only [nrm, Act.put]
        clear he hl ht hS
        refine wpAnyV_all (l := [11]) (by kernel_rfl) (by decide) (fun i hi u hS => ?_)
        simp only [List.mem_cons, List.not_mem_nil, or_false] at hi
        subst hi
        refine wpOp_at rfl rfl ?_
        refine wp_of_call (f := 76) (args := #[.pointer (some ⟨L, 17, none⟩), .int .i64 1]) (by go_simp) (ld_num hS.ld 1 rfl) fun e u' hu => ?_
        obtain ⟨he, hl, ht⟩ := hu
        rw [HDD.out] at hl
        refine ⟨_, he, RdSt w F L hd (k.drop 4) (v.drop 5) 48 nodeZ (some g) none, hS.next HLT.out hl ht, kept_rds, fun hh => absurd (by decide : (11 : Nat) ∈ [3, 7, 11, 16, 18, 19]) hh, ?_⟩
        try simp only [nrm, Act.put]
        clear he hl ht hS
        refine wpAnyV_pure (i := 12) (v := .bool d) (kept_rds) rfl (by kernel_rfl) (by kernel_rfl) (fun _ _ _ h => by cases h.1) (DoesV.reads (by rfl) fun w9 hS => by go_simp) ?_
        try simp only [nrm, Act.put]
        refine wpAnyV_all (l := [16]) (by kernel_rfl) (by decide) (fun i hi u hS => ?_)
        simp only [List.mem_cons, List.not_mem_nil, or_false] at hi
        subst hi
        refine wpOp_at rfl rfl ?_
        refine wp_of_call (f := 76) (args := #[.pointer (some ⟨L, 17, none⟩), .int .i64 8]) (by go_simp) (ld_num hS.ld 8 rfl) fun e u' hu => ?_
        obtain ⟨he, hl, ht⟩ := hu
        rw [HDE.out] at hl
        refine ⟨_, he, RdSt w F L hd (k.drop 4) p 48 nodeZ (some g) none, hS.next HLT.out hl ht, kept_rds, fun hh => absurd (by decide : (16 : Nat) ∈ [3, 7, 11, 16, 18, 19]) hh, ?_⟩
        try simp only [nrm, Act.put]
        clear he hl ht hS
        refine wpAnyV_pure (i := 17) (v := .agg (ndC ⟨numD k 4, numD v 4, d, numD (v.drop 5) 8, [], []⟩ (.slice none 0 0) (.slice none 0 0)).toArray) (kept_rds) rfl (by kernel_rfl) (by kernel_rfl) (fun _ _ _ h => by cases h.1) (DoesV.reads (by rfl) fun w9 hS => run_buildNode rfl rfl rfl rfl rfl) ?_
        try simp only [nrm, Act.put]
        refine wpAnyV_all (l := [19]) (by kernel_rfl) (by decide) (fun i hi u hS => ?_)
        simp only [List.mem_cons, List.not_mem_nil, or_false] at hi
        subst hi
        refine wpOp_at rfl rfl ?_
        refine wp_storeW 48 _ _ rfl g rfl (ndC ⟨numD k 4, numD v 4, d, numD (v.drop 5) 8, [], []⟩ (.slice none 0 0) (.slice none 0 0)) nodeZ rfl (hS.cell g rfl).1 rfl (ndZ_one _) infoNode fun u' hk ht => ?_
        have HG := (hS.cell g rfl).2
        refine ⟨(fun z => LdAt z F L hd (k.drop 4) p ∧ Turn w z (· = L) ∧ Cs z g 48 (ndC ⟨numD k 4, numD v 4, d, numD (v.drop 5) 8, [], []⟩ (.slice none 0 0) (.slice none 0 0)).toArray ∧ w.heap.size ≤ g), ⟨hS.ld.turn ht (fun q hq e => by have := HF.out q hq; omega) (by have := HLT.out; omega), hS.tn.trans ht fun i hi e => absurd hi (by omega), hk, HG⟩, kept_n0 _ _ _ _ _ _ _ _, fun hh => absurd (by decide : (19 : Nat) ∈ [3, 7, 11, 16, 18, 19]) hh, ?_⟩
        try simp only [nrm, Act.put]
        exact wpAnyV_done (by kernel_rfl) (fun z hz => ⟨rfl, g, hz.1, hz.2.1, hz.2.2.1, hz.2.2.2, rfl⟩) _
    · refine wpOp_at rfl rfl ?_
      refine wp_allocS 48 rfl nodeZ nodeZero (fun g u' hk hb hg => ?_)
      refine ⟨RdSt w F L hd k v 48 nodeZ (some g) none, hS.alloc hk hb hg, kept_rds, fun hh => absurd (by decide : (18 : Nat) ∈ [3, 7, 11, 16, 18, 19]) hh, ?_⟩
      try simp only [nrm, Act.put]
      clear hk hb hg hS
      refine wpAnyV_all (l := [3]) (by kernel_rfl) (by decide) (fun i hi u hS => ?_)
      simp only [List.mem_cons, List.not_mem_nil, or_false] at hi
      subst hi
      refine wpOp_at rfl rfl ?_
      refine wp_of_call (f := 75) (args := #[.pointer (some ⟨L, 16, none⟩)]) (by go_simp) (ld_key32 hS.ld) fun e u' hu => ?_
      obtain ⟨he, hl, ht⟩ := hu
      refine ⟨_, he, RdSt w F L hd (k.drop 4) v 48 nodeZ (some g) none, hS.next HLT.out hl ht, kept_rds, fun hh => absurd (by decide : (3 : Nat) ∈ [3, 7, 11, 16, 18, 19]) hh, ?_⟩
      try simp only [nrm, Act.put]
      clear he hl ht hS
      refine wpAnyV_all (l := [7]) (by kernel_rfl) (by decide) (fun i hi u hS => ?_)
      simp only [List.mem_cons, List.not_mem_nil, or_false] at hi
      subst hi
      refine wpOp_at rfl rfl ?_
      refine wp_of_call (f := 75) (args := #[.pointer (some ⟨L, 17, none⟩)]) (by go_simp) (ld_num32 hS.ld) fun e u' hu => ?_
      obtain ⟨he, hl, ht⟩ := hu
      refine ⟨_, he, RdSt w F L hd (k.drop 4) (v.drop 4) 48 nodeZ (some g) none, hS.next HLT.out hl ht, kept_rds, fun hh => absurd (by decide : (7 : Nat) ∈ [3, 7, 11, 16, 18, 19]) hh, ?_⟩
      try simp only [nrm, Act.put]
      clear he hl ht hS
      refine wpAnyV_all (l := [11]) (by kernel_rfl) (by decide) (fun i hi u hS => ?_)
      simp only [List.mem_cons, List.not_mem_nil, or_false] at hi
      subst hi
      refine wpOp_at rfl rfl ?_
      refine wp_of_call (f := 76) (args := #[.pointer (some ⟨L, 17, none⟩), .int .i64 1]) (by go_simp) (ld_num hS.ld 1 rfl) fun e u' hu => ?_
      obtain ⟨he, hl, ht⟩ := hu
      rw [HDD.out] at hl
      refine ⟨_, he, RdSt w F L hd (k.drop 4) (v.drop 5) 48 nodeZ (some g) none, hS.next HLT.out hl ht, kept_rds, fun hh => absurd (by decide : (11 : Nat) ∈ [3, 7, 11, 16, 18, 19]) hh, ?_⟩
      try simp only [nrm, Act.put]
      clear he hl ht hS
      refine wpAnyV_pure (i := 12) (v := .bool d) (kept_rds) rfl (by kernel_rfl) (by kernel_rfl) (fun _ _ _ h => by cases h.1) (DoesV.reads (by rfl) fun w9 hS => by go_simp) ?_
      try simp only [nrm, Act.put]
      refine wpAnyV_all (l := [16]) (by kernel_rfl) (by decide) (fun i hi u hS => ?_)
      simp only [List.mem_cons, List.not_mem_nil, or_false] at hi
      subst hi
      refine wpOp_at rfl rfl ?_
      refine wp_of_call (f := 76) (args := #[.pointer (some ⟨L, 17, none⟩), .int .i64 8]) (by go_simp) (ld_num hS.ld 8 rfl) fun e u' hu => ?_
      obtain ⟨he, hl, ht⟩ := hu
      rw [HDE.out] at hl
      refine ⟨_, he, RdSt w F L hd (k.drop 4) p 48 nodeZ (some g) none, hS.next HLT.out hl ht, kept_rds, fun hh => absurd (by decide : (16 : Nat) ∈ [3, 7, 11, 16, 18, 19]) hh, ?_⟩
      try simp only [nrm, Act.put]
      clear he hl ht hS
      refine wpAnyV_pure (i := 17) (v := .agg (ndC ⟨numD k 4, numD v 4, d, numD (v.drop 5) 8, [], []⟩ (.slice none 0 0) (.slice none 0 0)).toArray) (kept_rds) rfl (by kernel_rfl) (by kernel_rfl) (fun _ _ _ h => by cases h.1) (DoesV.reads (by rfl) fun w9 hS => run_buildNode rfl rfl rfl rfl rfl) ?_
      try simp only [nrm, Act.put]
      refine wpAnyV_all (l := [19]) (by kernel_rfl) (by decide) (fun i hi u hS => ?_)
      simp only [List.mem_cons, List.not_mem_nil, or_false] at hi
      subst hi
      refine wpOp_at rfl rfl ?_
      refine wp_storeW 48 _ _ rfl g rfl (ndC ⟨numD k 4, numD v 4, d, numD (v.drop 5) 8, [], []⟩ (.slice none 0 0) (.slice none 0 0)) nodeZ rfl (hS.cell g rfl).1 rfl (ndZ_one _) infoNode fun u' hk ht => ?_
      have HG := (hS.cell g rfl).2
      refine ⟨(fun z => LdAt z F L hd (k.drop 4) p ∧ Turn w z (· = L) ∧ Cs z g 48 (ndC ⟨numD k 4, numD v 4, d, numD (v.drop 5) 8, [], []⟩ (.slice none 0 0) (.slice none 0 0)).toArray ∧ w.heap.size ≤ g), ⟨hS.ld.turn ht (fun q hq e => by have := HF.out q hq; omega) (by have := HLT.out; omega), hS.tn.trans ht fun i hi e => absurd hi (by omega), hk, HG⟩, kept_n0 _ _ _ _ _ _ _ _, fun hh => absurd (by decide : (19 : Nat) ∈ [3, 7, 11, 16, 18, 19]) hh, ?_⟩
      try simp only [nrm, Act.put]
      exact wpAnyV_done (by kernel_rfl) (fun z hz => ⟨rfl, g, hz.1, hz.2.1, hz.2.2.1, hz.2.2.2, rfl⟩) _
  rintro a1 w2 ⟨g, hl, ht, hc, hg, rfl⟩
  have L2 := Lib.hid hl
  have T2 := Lib.hid ht
  have C2 := Lib.hid hc
  have G2 := Lib.hid hg
  have G2L := Lib.hid (show g ≠ L by have := HLT.out; omega)
  have q2 : w2.cell? ⟨g, 2, none⟩ = some (.bool d) := hc.cell 2 rfl
  clear hl ht hc hg
  cases d
  · have HDN := Lib.hid (show ¬ numD (v.drop 4) 1 = 1 by have := HD.out; simpa using this.symm)
    go_wp2_with fail
    refine (ld_all L2.out).mono ?_
    rintro e w3 ⟨v3, rfl, hv, hl, ht⟩
    obtain ⟨A3, c3, rfl⟩ := hv.shape
    have L3 := Lib.hid hl
    have T3 := Lib.hid (T2.out.trans ht fun _ _ h => h)
    have C3 := Lib.hid (C2.out.turn ht G2L.out)
    have V3 := Lib.hid (hv.mono fun q _ hq => show w.heap.size ≤ q ∧ q ≠ g from ⟨by have := T2.out.size; omega, by have := C2.out.lt; omega⟩)
    clear hv hl ht q2
    go_wp2_with (first
      | ((with_reducible show wpList _ _ _ _ _ w3); refine wpList_store1 rfl 25 _ _ rfl g 4 rfl (.slice A3 p.length c3) rfl rfl infoBsB _ _ C3.out (by simp [ndC]) ?_; intro w5 hk2 ht2; go_frame; have X5 := Lib.hid (And.intro hk2 ht2); clear hk2 ht2)
      | fail)
    obtain ⟨kv, vv, h1, -⟩ := L3.out
    have HND := Lib.hid (show NdSt w L hd kv vv g (nodD k v) (.slice A3 p.length c3) (.slice none 0 0) w5 from by
      refine ⟨h1.turn X5.out.2 (Ne.symm G2L.out), T3.out.trans X5.out.2 fun i hi e => absurd hi (by have := G2.out; omega), by rw [HNQ.out]; exact X5.out.1, ?_, ?_⟩
      · show NewV w5 _ _ (if numD (v.drop 4) 1 = 1 then [] else v.drop 13)
        rw [if_neg HDN.out, ← HPP.out]
        exact (V3.out.turn X5.out.2 fun q hq e => hq.2 e).mono fun q _ hq => hq.1
      · show LsV entE w5 _ _ (if numD (v.drop 4) 1 = 1 then namD (v.drop 13) else [])
        rw [if_neg HDN.out]
        exact LsV.nil _ _)
    clear h1
    obtain ⟨dv, hdv⟩ : ∃ x, x = Value.slice A3 p.length c3 := ⟨_, rfl⟩
    obtain ⟨nv, hnv⟩ : ∃ x, x = Value.slice none 0 0 := ⟨_, rfl⟩
    have HO1 := Lib.hid (show ∀ u ∈ ndC (nodD k v) dv nv, u.oneCell' = true from by intro u hu; rw [hdv, hnv] at hu; simp [ndC] at hu; rcases hu with rfl | rfl | rfl | rfl | rfl | rfl <;> rfl)
    rw [← hdv, ← hnv] at HND
    clear hdv hnv
    go_wp2_with fail
    refine wp_region_X [12] (fun z => Cs z g 48 (ndC (nodD k v) dv nv).toArray ∧ z.cell? ⟨L, 0, none⟩ = some (.slice An t.nodes.length cn)) (NdSt w L hd kv vv g (nodD k v) dv nv) hmix (kept_nds _ _ HND.out ((Below.refl _ _).drew)) ?_
    change wpAnyX _ _ _ _ _ _ _ _ _ _
    refine wpAnyX_take (i := 0) (v := .pointer (some ⟨L, 0, none⟩)) 20 kept_nds (fun z h => ⟨h.cell, by have h1 := h.blk.cell 0 (ld_hd HN0.out); rw [HNV.out] at h1; exact h1⟩) rfl (by kernel_rfl) (by kernel_rfl) (fun _ _ _ h => h) (DoesV.reads (by rfl) fun w9 hS => by go_simp) ?_
    try simp only [nrm, Act.put]
    refine wpAnyX_take (i := 1) (v := .pointer (some ⟨L, 0, none⟩)) 20 kept_nds (fun z h => ⟨h.cell, by have h1 := h.blk.cell 0 (ld_hd HN0.out); rw [HNV.out] at h1; exact h1⟩) rfl (by kernel_rfl) (by kernel_rfl) (fun _ _ _ h => h) (DoesV.reads (by rfl) fun w9 hS => by go_simp) ?_
    try simp only [nrm, Act.put]
    refine wpAnyX_take (i := 2) (v := .pointer (some ⟨L, 0, none⟩)) 20 kept_nds (fun z h => ⟨h.cell, by have h1 := h.blk.cell 0 (ld_hd HN0.out); rw [HNV.out] at h1; exact h1⟩) rfl (by kernel_rfl) (by kernel_rfl) (fun _ _ _ h => h) (DoesV.reads (by rfl) fun w9 hS => by go_simp) ?_
    try simp only [nrm, Act.put]
    refine wpAnyX_take (i := 3) (v := .pointer (some ⟨L, 0, none⟩)) 20 kept_nds (fun z h => ⟨h.cell, by have h1 := h.blk.cell 0 (ld_hd HN0.out); rw [HNV.out] at h1; exact h1⟩) rfl (by kernel_rfl) (by kernel_rfl) (fun _ _ _ h => h) (DoesV.reads (by rfl) fun w9 hS => by go_simp) ?_
    try simp only [nrm, Act.put]
    refine wpAnyX_take (i := 4) (v := .pointer (some ⟨L, 0, none⟩)) 20 kept_nds (fun z h => ⟨h.cell, by have h1 := h.blk.cell 0 (ld_hd HN0.out); rw [HNV.out] at h1; exact h1⟩) rfl (by kernel_rfl) (by kernel_rfl) (fun _ _ _ h => h) (DoesV.reads (by rfl) fun w9 hS => by go_simp) ?_
    try simp only [nrm, Act.put]
    refine wpAnyX_take (i := 5) (v := .slice An t.nodes.length cn) 20 kept_nds (fun z h => ⟨h.cell, by have h1 := h.blk.cell 0 (ld_hd HN0.out); rw [HNV.out] at h1; exact h1⟩) rfl (by kernel_rfl) (by kernel_rfl) (fun _ _ _ h => h) (DoesV.reads (by rfl) fun w9 hS => by have q0 := hS.2; go_simp) ?_
    try simp only [nrm, Act.put]
    refine wpAnyX_take (i := 6) (v := .agg (ndC (nodD k v) dv nv).toArray) 20 kept_nds (fun z h => ⟨h.cell, by have h1 := h.blk.cell 0 (ld_hd HN0.out); rw [HNV.out] at h1; exact h1⟩) rfl (by kernel_rfl) (by kernel_rfl) (fun _ _ _ h => h) (DoesV.loadT (by rfl) 48 _ rfl g 0 rfl (ndC (nodD k v) dv nv) (fun w9 hS => At.whole hS.1) _ Tryd.underlying48 rfl infoNode) ?_
    try simp only [nrm, Act.put]
    refine wpAnyX_only (i := 7) rfl (by kernel_rfl) rfl (fun u hS => wp_buildN _ rfl (nodD k v) dv nv rfl fun g7 u' hk7 hb7 hg7 => ⟨(fun z => NdSt w L hd kv vv g (nodD k v) dv nv z ∧ Cs z g7 48 (ndC (nodD k v) dv nv).toArray), ⟨kept_nds _ _ hS hb7, hk7⟩, kept_and kept_nds (kept_cs _ _ _), fun _ => fun z h => ⟨h.1.cell, by have h1 := h.1.blk.cell 0 (ld_hd HN0.out); rw [HNV.out] at h1; exact h1⟩, ?_⟩)
    try simp only [nrm, Act.put]
    refine wpAnyX_only (i := 8) rfl (by kernel_rfl) rfl (fun u hS => ?_)
    have hTu := HT.out.turnL hS.1.tn
    have hOu : OwnX nodeN u base (fun q => base ≤ q ∧ q ≠ L) nv0 t.nodes := by
        obtain ⟨nv', h1, h2, -⟩ := hTu.nod
        rw [HN0.out] at h1
        cases h1
        exact h2
    refine wp_append_xo (E := nodeN) _ _ rfl base (fun q => base ≤ q ∧ q ≠ L) (.slice An t.nodes.length cn) t.nodes rfl (by rw [← HNV.out]; exact hOu) g7 1 rfl (ndC (nodD k v) dv nv) (nodD k v) ⟨dv, nv, rfl, hS.1.dat.mono fun q _ hq => ⟨⟨by have := HB.out; have := HLT.out; omega, by have := HLT.out; omega⟩, fun e => by rw [← HNV.out] at e; have := (HOW.out q e).2.1; omega⟩, hS.1.nam.mono fun q _ hq => ⟨⟨by have := HB.out; have := HLT.out; omega, by have := HLT.out; omega⟩, fun e => by rw [← HNV.out] at e; have := (HOW.out q e).2.1; omega⟩, HN32.out⟩ 48 hS.2 (by have := HTN.out; omega) (by have h1 := HB.out; have h2 := HLT.out; have h3 := hS.1.tn.size; omega) ⟨by have h1 := HB.out; have h2 := HLT.out; have h3 := hS.1.tn.size; omega, by have h2 := HLT.out; have h3 := hS.1.tn.size; omega⟩ fun v9 u' ho9 hg9 hv9 => ?_
    rw [← HNV.out] at hg9 hv9
    refine ⟨(NdEn w base L hd kv vv g (ndC (nodD k v) dv nv).toArray v9 (nodS t k v)), ⟨hS.1.blk.turn (Turn.of_grown hg9) (fun e => (HOW.out L e).2.2 rfl), hTu.addN HN0.out ho9 hg9 hv9, (hS.1.tn.mono fun i _ e => .inr e).trans (Turn.of_grown hg9) fun i _ e => .inl (HOW.out i e).1, hS.1.cell.turn (Turn.of_grown hg9) fun e => by have := (HOW.out g e).2.1; have := G2.out; omega⟩, kept_nde, fun _ => fun z h => ⟨h.cell, by have h1 := h.blk.cell 0 (ld_hd HN0.out); rw [HNV.out] at h1; exact h1⟩, ?_⟩
    obtain ⟨A9, c9, hv9e, -⟩ := ho9.form
    subst hv9e
    clear hTu hOu ho9 hg9 hv9 hS
    try simp only [nrm, Act.put]
    refine wpAnyX_take (i := 9) (v := .pointer (some ⟨L, 0, none⟩)) 20 kept_nde (fun z h => ⟨h.cell, by have h1 := h.blk.cell 0 (ld_hd HN0.out); rw [HNV.out] at h1; exact h1⟩) rfl (by kernel_rfl) (by kernel_rfl) (fun _ _ _ h => h) (DoesV.reads (by rfl) fun w9 hS => by go_simp) ?_
    try simp only [nrm, Act.put]
    refine wpAnyX_take (i := 10) (v := .pointer (some ⟨L, 0, none⟩)) 20 kept_nde (fun z h => ⟨h.cell, by have h1 := h.blk.cell 0 (ld_hd HN0.out); rw [HNV.out] at h1; exact h1⟩) rfl (by kernel_rfl) (by kernel_rfl) (fun _ _ _ h => h) (DoesV.reads (by rfl) fun w9 hS => by go_simp) ?_
    try simp only [nrm, Act.put]
    refine wpAnyX_take (i := 11) (v := .pointer (some ⟨L, 0, none⟩)) 20 kept_nde (fun z h => ⟨h.cell, by have h1 := h.blk.cell 0 (ld_hd HN0.out); rw [HNV.out] at h1; exact h1⟩) rfl (by kernel_rfl) (by kernel_rfl) (fun _ _ _ h => h) (DoesV.reads (by rfl) fun w9 hS => by go_simp) ?_
    try simp only [nrm, Act.put]
    refine wpAnyX_only (i := 12) rfl (by kernel_rfl) rfl (fun u hS => wp_store1 22 _ _ rfl L 0 rfl (.slice A9 (t.nodes ++ [nodD k v]).length c9) rfl rfl infoNdsL 64 _ hS.blk (by simp) fun u' hk ht => ⟨fun z => LoAt z base L (nodS t k v) ∧ Turn w z (fun q => base ≤ q ∨ q = L), ⟨hS.lot.setL ht hk, hS.tn.trans ht fun i _ e => .inr e⟩, fun a b h hb => ⟨h.1.below hb, h.2.trans (Turn.of_below hb _) fun _ _ h => h⟩, fun hh => absurd (by decide : (12 : Nat) ∈ [12]) hh, ?_⟩)
    try simp only [nrm, Act.put]
    refine wpAnyX_done (by kernel_rfl) (fun wz hz => ?_) _
    have KZ := Lib.hid hz
    clear hz
    go_wp2_with fail
    first
      | (refine bodyPost_ret (results_none rfl _ _ _) rfl ?_)
      | go_end0
    exact ⟨rfl, KZ.out.1, KZ.out.2⟩
  · have HDN := Lib.hid (show numD (v.drop 4) 1 = 1 by have := HD.out; simpa using this.symm)
    go_wp2_with fail
    refine (names_x L hd (k.drop 4) p F w2 L2.out).mono ?_
    rintro e w3 ⟨v3, rfl, ho, hl, ht⟩
    obtain ⟨A3, c3, rfl, hls⟩ := ho.form
    have L3 := Lib.hid hl
    have T3 := Lib.hid (T2.out.trans ht fun _ _ h => h)
    have C3 := Lib.hid (C2.out.turn ht G2L.out)
    have V3 := Lib.hid (show LsV entE w3 (fun q => w.heap.size ≤ q ∧ q ≠ g) (.slice A3 (namD p).length c3) (namD p) from LsV.mono (F := (w2.heap.size ≤ ·)) ⟨A3, c3, rfl, hls⟩ fun q _ hq => ⟨by have := T2.out.size; omega, by have := C2.out.lt; omega⟩)
    clear ho hl ht hls q2
    go_wp2_with (first
      | ((with_reducible show wpList _ _ _ _ _ w3); refine wpList_store1 rfl 46 _ _ rfl g 5 rfl (.slice A3 (namD p).length c3) rfl rfl infoEnsL _ _ C3.out (by simp [ndC]) ?_; intro w5 hk2 ht2; go_frame; have X5 := Lib.hid (And.intro hk2 ht2); clear hk2 ht2)
      | fail)
    obtain ⟨kv, vv, h1, -⟩ := L3.out
    have HND := Lib.hid (show NdSt w L hd kv vv g (nodD k v) (.slice none 0 0) (.slice A3 (namD p).length c3) w5 from by
      refine ⟨h1.turn X5.out.2 (Ne.symm G2L.out), T3.out.trans X5.out.2 fun i hi e => absurd hi (by have := G2.out; omega), by rw [HNQ.out]; exact X5.out.1, ?_, ?_⟩
      · show NewV w5 _ _ (if numD (v.drop 4) 1 = 1 then [] else v.drop 13)
        rw [if_pos HDN.out]
        exact ⟨BsV.nil _ _, .inl rfl, fun k e => (by cases e)⟩
      · show LsV entE w5 _ _ (if numD (v.drop 4) 1 = 1 then namD (v.drop 13) else [])
        rw [if_pos HDN.out, ← HPP.out]
        exact (V3.out.turn X5.out.2 fun q hq e => hq.2 e).mono fun q _ hq => hq.1)
    clear h1
    obtain ⟨nv, hnv⟩ : ∃ x, x = Value.slice A3 (namD p).length c3 := ⟨_, rfl⟩
    obtain ⟨dv, hdv⟩ : ∃ x, x = Value.slice none 0 0 := ⟨_, rfl⟩
    have HO1 := Lib.hid (show ∀ u ∈ ndC (nodD k v) dv nv, u.oneCell' = true from by intro u hu; rw [hdv, hnv] at hu; simp [ndC] at hu; rcases hu with rfl | rfl | rfl | rfl | rfl | rfl <;> rfl)
    rw [← hdv, ← hnv] at HND
    clear hdv hnv
    go_wp2_with fail
    refine wp_region_X [12] (fun z => Cs z g 48 (ndC (nodD k v) dv nv).toArray ∧ z.cell? ⟨L, 0, none⟩ = some (.slice An t.nodes.length cn)) (NdSt w L hd kv vv g (nodD k v) dv nv) hmix (kept_nds _ _ HND.out ((Below.refl _ _).drew)) ?_
    change wpAnyX _ _ _ _ _ _ _ _ _ _
    refine wpAnyX_take (i := 0) (v := .pointer (some ⟨L, 0, none⟩)) 20 kept_nds (fun z h => ⟨h.cell, by have h1 := h.blk.cell 0 (ld_hd HN0.out); rw [HNV.out] at h1; exact h1⟩) rfl (by kernel_rfl) (by kernel_rfl) (fun _ _ _ h => h) (DoesV.reads (by rfl) fun w9 hS => by go_simp) ?_
    try simp only [nrm, Act.put]
    refine wpAnyX_take (i := 1) (v := .pointer (some ⟨L, 0, none⟩)) 20 kept_nds (fun z h => ⟨h.cell, by have h1 := h.blk.cell 0 (ld_hd HN0.out); rw [HNV.out] at h1; exact h1⟩) rfl (by kernel_rfl) (by kernel_rfl) (fun _ _ _ h => h) (DoesV.reads (by rfl) fun w9 hS => by go_simp) ?_
    try simp only [nrm, Act.put]
    refine wpAnyX_take (i := 2) (v := .pointer (some ⟨L, 0, none⟩)) 20 kept_nds (fun z h => ⟨h.cell, by have h1 := h.blk.cell 0 (ld_hd HN0.out); rw [HNV.out] at h1; exact h1⟩) rfl (by kernel_rfl) (by kernel_rfl) (fun _ _ _ h => h) (DoesV.reads (by rfl) fun w9 hS => by go_simp) ?_
    try simp only [nrm, Act.put]
    refine wpAnyX_take (i := 3) (v := .pointer (some ⟨L, 0, none⟩)) 20 kept_nds (fun z h => ⟨h.cell, by have h1 := h.blk.cell 0 (ld_hd HN0.out); rw [HNV.out] at h1; exact h1⟩) rfl (by kernel_rfl) (by kernel_rfl) (fun _ _ _ h => h) (DoesV.reads (by rfl) fun w9 hS => by go_simp) ?_
    try simp only [nrm, Act.put]
    refine wpAnyX_take (i := 4) (v := .pointer (some ⟨L, 0, none⟩)) 20 kept_nds (fun z h => ⟨h.cell, by have h1 := h.blk.cell 0 (ld_hd HN0.out); rw [HNV.out] at h1; exact h1⟩) rfl (by kernel_rfl) (by kernel_rfl) (fun _ _ _ h => h) (DoesV.reads (by rfl) fun w9 hS => by go_simp) ?_
    try simp only [nrm, Act.put]
    refine wpAnyX_take (i := 5) (v := .slice An t.nodes.length cn) 20 kept_nds (fun z h => ⟨h.cell, by have h1 := h.blk.cell 0 (ld_hd HN0.out); rw [HNV.out] at h1; exact h1⟩) rfl (by kernel_rfl) (by kernel_rfl) (fun _ _ _ h => h) (DoesV.reads (by rfl) fun w9 hS => by have q0 := hS.2; go_simp) ?_
    try simp only [nrm, Act.put]
    refine wpAnyX_take (i := 6) (v := .agg (ndC (nodD k v) dv nv).toArray) 20 kept_nds (fun z h => ⟨h.cell, by have h1 := h.blk.cell 0 (ld_hd HN0.out); rw [HNV.out] at h1; exact h1⟩) rfl (by kernel_rfl) (by kernel_rfl) (fun _ _ _ h => h) (DoesV.loadT (by rfl) 48 _ rfl g 0 rfl (ndC (nodD k v) dv nv) (fun w9 hS => At.whole hS.1) _ Tryd.underlying48 rfl infoNode) ?_
    try simp only [nrm, Act.put]
    refine wpAnyX_only (i := 7) rfl (by kernel_rfl) rfl (fun u hS => wp_buildN _ rfl (nodD k v) dv nv rfl fun g7 u' hk7 hb7 hg7 => ⟨(fun z => NdSt w L hd kv vv g (nodD k v) dv nv z ∧ Cs z g7 48 (ndC (nodD k v) dv nv).toArray), ⟨kept_nds _ _ hS hb7, hk7⟩, kept_and kept_nds (kept_cs _ _ _), fun _ => fun z h => ⟨h.1.cell, by have h1 := h.1.blk.cell 0 (ld_hd HN0.out); rw [HNV.out] at h1; exact h1⟩, ?_⟩)
    try simp only [nrm, Act.put]
    refine wpAnyX_only (i := 8) rfl (by kernel_rfl) rfl (fun u hS => ?_)
    have hTu := HT.out.turnL hS.1.tn
    have hOu : OwnX nodeN u base (fun q => base ≤ q ∧ q ≠ L) nv0 t.nodes := by
        obtain ⟨nv', h1, h2, -⟩ := hTu.nod
        rw [HN0.out] at h1
        cases h1
        exact h2
    refine wp_append_xo (E := nodeN) _ _ rfl base (fun q => base ≤ q ∧ q ≠ L) (.slice An t.nodes.length cn) t.nodes rfl (by rw [← HNV.out]; exact hOu) g7 1 rfl (ndC (nodD k v) dv nv) (nodD k v) ⟨dv, nv, rfl, hS.1.dat.mono fun q _ hq => ⟨⟨by have := HB.out; have := HLT.out; omega, by have := HLT.out; omega⟩, fun e => by rw [← HNV.out] at e; have := (HOW.out q e).2.1; omega⟩, hS.1.nam.mono fun q _ hq => ⟨⟨by have := HB.out; have := HLT.out; omega, by have := HLT.out; omega⟩, fun e => by rw [← HNV.out] at e; have := (HOW.out q e).2.1; omega⟩, HN32.out⟩ 48 hS.2 (by have := HTN.out; omega) (by have h1 := HB.out; have h2 := HLT.out; have h3 := hS.1.tn.size; omega) ⟨by have h1 := HB.out; have h2 := HLT.out; have h3 := hS.1.tn.size; omega, by have h2 := HLT.out; have h3 := hS.1.tn.size; omega⟩ fun v9 u' ho9 hg9 hv9 => ?_
    rw [← HNV.out] at hg9 hv9
    refine ⟨(NdEn w base L hd kv vv g (ndC (nodD k v) dv nv).toArray v9 (nodS t k v)), ⟨hS.1.blk.turn (Turn.of_grown hg9) (fun e => (HOW.out L e).2.2 rfl), hTu.addN HN0.out ho9 hg9 hv9, (hS.1.tn.mono fun i _ e => .inr e).trans (Turn.of_grown hg9) fun i _ e => .inl (HOW.out i e).1, hS.1.cell.turn (Turn.of_grown hg9) fun e => by have := (HOW.out g e).2.1; have := G2.out; omega⟩, kept_nde, fun _ => fun z h => ⟨h.cell, by have h1 := h.blk.cell 0 (ld_hd HN0.out); rw [HNV.out] at h1; exact h1⟩, ?_⟩
    obtain ⟨A9, c9, hv9e, -⟩ := ho9.form
    subst hv9e
    clear hTu hOu ho9 hg9 hv9 hS
    try simp only [nrm, Act.put]
    refine wpAnyX_take (i := 9) (v := .pointer (some ⟨L, 0, none⟩)) 20 kept_nde (fun z h => ⟨h.cell, by have h1 := h.blk.cell 0 (ld_hd HN0.out); rw [HNV.out] at h1; exact h1⟩) rfl (by kernel_rfl) (by kernel_rfl) (fun _ _ _ h => h) (DoesV.reads (by rfl) fun w9 hS => by go_simp) ?_
    try simp only [nrm, Act.put]
    refine wpAnyX_take (i := 10) (v := .pointer (some ⟨L, 0, none⟩)) 20 kept_nde (fun z h => ⟨h.cell, by have h1 := h.blk.cell 0 (ld_hd HN0.out); rw [HNV.out] at h1; exact h1⟩) rfl (by kernel_rfl) (by kernel_rfl) (fun _ _ _ h => h) (DoesV.reads (by rfl) fun w9 hS => by go_simp) ?_
    try simp only [nrm, Act.put]
    refine wpAnyX_take (i := 11) (v := .pointer (some ⟨L, 0, none⟩)) 20 kept_nde (fun z h => ⟨h.cell, by have h1 := h.blk.cell 0 (ld_hd HN0.out); rw [HNV.out] at h1; exact h1⟩) rfl (by kernel_rfl) (by kernel_rfl) (fun _ _ _ h => h) (DoesV.reads (by rfl) fun w9 hS => by go_simp) ?_
    try simp only [nrm, Act.put]
    refine wpAnyX_only (i := 12) rfl (by kernel_rfl) rfl (fun u hS => wp_store1 22 _ _ rfl L 0 rfl (.slice A9 (t.nodes ++ [nodD k v]).length c9) rfl rfl infoNdsL 64 _ hS.blk (by simp) fun u' hk ht => ⟨fun z => LoAt z base L (nodS t k v) ∧ Turn w z (fun q => base ≤ q ∨ q = L), ⟨hS.lot.setL ht hk, hS.tn.trans ht fun i _ e => .inr e⟩, fun a b h hb => ⟨h.1.below hb, h.2.trans (Turn.of_below hb _) fun _ _ h => h⟩, fun hh => absurd (by decide : (12 : Nat) ∈ [12]) hh, ?_⟩)
    try simp only [nrm, Act.put]
    refine wpAnyX_done (by kernel_rfl) (fun wz hz => ?_) _
    have KZ := Lib.hid hz
    clear hz
    go_wp2_with fail
    first
      | (refine bodyPost_ret (results_none rfl _ _ _) rfl ?_)
      | go_end0
    exact ⟨rfl, KZ.out.1, KZ.out.2⟩
theorem node_v (L base : Nat) (hd : List Value) (k v : List UInt8) (F : Nat → Prop) (t : Tr) (w : World) (h : LdAt w F L hd k v) (hT : LoT w base L hd t) (hb : base ≤ w.heap.size) (hn : t.nodes.length ≤ 1000000) :
    Calls Tryd.prog 56 #[.pointer (some ⟨L, 0, none⟩)] w fun e w' => e = .returned (.tuple #[]) ∧ LoAt w' base L (nodS t k v) ∧ Turn w w' (fun q => base ≤ q ∨ q = L) :=
  node_r L base hd k v (fun q => F q ∧ q < w.heap.size) t w (h.mono (fun q hq hF => ⟨hF, hq⟩) fun hh => h.off hh.1) (fun q hq => hq.2) hT hb hn

end Go.Proofs.YtdhlejhflkfoaaaDoor
