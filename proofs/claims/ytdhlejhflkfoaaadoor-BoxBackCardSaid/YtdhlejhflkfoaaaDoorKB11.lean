/- SWEPT -/
import Derived.Test.YtdhlejhflkfoaaaDoorKB7
import Derived.Test.YtdhlejhflkfoaaaDoorKB10
import Derived.Test.YtdhlejhflkfoaaaDoorKB9
/- The program: a loader's tree; it reads the row of the rest, of a session. -/
namespace Go.Proofs.YtdhlejhflkfoaaaDoor
open Go.RowKit Go.Shelf
set_option linter.unusedVariables false
set_option maxRecDepth 100000
set_option linter.unusedSimpArgs false

/-- a node whose bytes are typed memory of one's own -/
def NdAtN (w : World) (F : Nat → Prop) (cs : List Value) (n : Nd) : Prop := ∃ dv nv, cs = ndC n dv nv ∧ NewV w F dv n.data ∧ LsV entE w F nv n.names ∧ n.ino < 4294967296 ∧ n.gen < 4294967296 ∧ n.chg < 18446744073709551616
theorem NdAtN.nd {w : World} {F : Nat → Prop} {cs : List Value} {n : Nd} (h : NdAtN w F cs n) : NdAt w F cs n := by
  obtain ⟨dv, nv, h0, h1, h2⟩ := h
  exact ⟨dv, nv, h0, h1.1, h2⟩
def nodeN : Elem Nd where
  ety := 48
  sty := 22
  n := 6
  bytes := 72
  rd := NdAtN
  und := Tryd.underlying22
  info := ⟨_, _, rfl, rfl, rfl, rfl, rfl⟩
  pos := by decide
  byt := by decide
  len := fun h => h.nd.len
  one := fun h => h.nd.one
  turn := fun ⟨dv, nv, h0, h1, h2, h3⟩ ht hG => ⟨dv, nv, h0, h1.turn ht hG, h2.turn ht hG, h3⟩
  mono := fun ⟨dv, nv, h0, h1, h2, h3⟩ hF => ⟨dv, nv, h0, h1.mono hF, h2.mono hF, h3⟩
theorem LsV.ndB {w : World} {F : Nat → Prop} {v : Value} {ls : List Nd} (h : LsV nodeN w F v ls) : LsV nodeE w F v ls := by
  obtain ⟨A, c, rfl, hr, h3⟩ := h
  refine ⟨A, c, rfl, ?_, h3⟩
  rcases hr with h0 | ⟨b, off, xs, e, hF, hl, hc⟩
  · exact .inl h0
  · exact .inr ⟨b, off, xs, e, hF, ⟨hl.1, fun j hj => (hl.2 j hj).nd⟩, hc⟩
/-- a session's three cells, its bytes typed memory of one's own -/
structure SesN (w : World) (F : Nat → Prop) (cur : Array Value) (o : Nat) (s : Ses) : Prop where
  inc : cur[o]? = some (.int .u32 (s.1 : Int))
  seq : cur[o + 1]? = some (.int .u64 (s.2.1 : Int))
  back : ∃ v, cur[o + 2]? = some v ∧ NewV w F v s.2.2
theorem SesN.c {w : World} {F : Nat → Prop} {cur : Array Value} {o : Nat} {s : Ses} (h : SesN w F cur o s) : SesC w F cur o s := by
  obtain ⟨v, h1, h2⟩ := h.back
  exact ⟨h.inc, h.seq, v, h1, h2.1⟩
theorem SesN.moves {w w' : World} {F F' : Nat → Prop} {cur cur' : Array Value} {o : Nat} {s : Ses} (h : SesN w F cur o s) (he : ∀ j, o ≤ j → j < o + 3 → cur'[j]? = cur[j]?) (hb : ∀ v, NewV w F v s.2.2 → NewV w' F' v s.2.2) : SesN w' F' cur' o s := by
  obtain ⟨v, k1, k2⟩ := h.back
  exact ⟨by rw [he o (Nat.le_refl _) (by omega)]; exact h.inc, by rw [he _ (by omega) (by omega)]; exact h.seq, v, by rw [he _ (by omega) (by omega)]; exact k1, hb v k2⟩
/-- the loader's tree, in the first 16 cells of block L: its nodes in a slice of its own, its replies in memory made since -/
structure LoT (w : World) (base L : Nat) (hd : List Value) (t : Tr) : Prop where
  len : hd.length = 16
  nod : ∃ nv, hd[0]? = some nv ∧ OwnX nodeN w base (fun q => base ≤ q ∧ q ≠ L) nv t.nodes ∧ ∀ j (hj : j < t.sess.length), SesN w (fun q => (base ≤ q ∧ q ≠ L) ∧ nv.ownBlock ≠ some q) hd.toArray (4 + j * 3) t.sess[j]
  c1 : hd[1]? = some (.int .u32 (t.lastGen : Int))
  c2 : hd[2]? = some (.int .u32 (t.boot : Int))
  c3 : hd[3]? = some (.int .u32 (t.count : Int))
  four : t.sess.length = 4
  big : t.lastGen < 4294967296 ∧ t.boot < 4294967296 ∧ t.count < 4294967296
  sb : ∀ s ∈ t.sess, s.1 < 4294967296 ∧ s.2.1 < 18446744073709551616 ∧ s.2.2.length ≤ 140737488355328
theorem LoT.turn {w w' : World} {base L : Nat} {hd : List Value} {t : Tr} {G : Nat → Prop} (h : LoT w base L hd t) (ht : Turn w w' G) (hG : ∀ q, base ≤ q → q < w.heap.size → q ≠ L → ¬ G q) : LoT w' base L hd t := by
  obtain ⟨nv, h1, h2, h3⟩ := h.nod
  have ht' := ht.mono (G := fun q => G q ∧ q < w.heap.size) fun i hi hg => ⟨hg, hi⟩
  refine ⟨h.len, ⟨nv, h1, h2.turn ht' fun q hq e => hG q hq.1 e.2 hq.2 e.1, fun j hj => (h3 j hj).moves (fun _ _ _ => rfl) fun v hv => hv.turn ht' fun q hq e => hG q hq.1.1 e.2 hq.1.2 e.1⟩, h.c1, h.c2, h.c3, h.four, h.big, h.sb⟩
theorem LoT.turnL {w w' : World} {base L : Nat} {hd : List Value} {t : Tr} (h : LoT w base L hd t) (ht : Turn w w' (· = L)) : LoT w' base L hd t := h.turn ht fun q _ _ hq e => hq e
theorem LoT.below {w w' : World} {base L : Nat} {hd : List Value} {t : Tr} (h : LoT w base L hd t) (hb : Below w.heap.size w w') : LoT w' base L hd t := h.turn (Turn.of_below hb fun _ => False) fun _ _ _ _ h => h
theorem LoT.tr {w : World} {base L : Nat} {hd : List Value} {t : Tr} (h : LoT w base L hd t) : TrAt w (fun q => base ≤ q ∧ q ≠ L) hd t := by
  obtain ⟨nv, h1, h2, h3⟩ := h.nod
  have := tr_cells (w := w) (F := fun q => base ≤ q ∧ q ≠ L) (cur := hd.toArray) (t := t) (nv := nv) (by simpa using h.len) (by simpa using h1) (by simpa using h.c1) (by simpa using h.c2) (by simpa using h.c3) (LsV.ndB h2.form) h.four (fun j hj => ((h3 j hj).moves (fun _ _ _ => rfl) fun v hv => hv.mono fun q _ hq => hq.1).c) h.sb h.big
  simpa using this
def zeroT : Tr := ⟨[], 0, 0, 0, [(0, 0, []), (0, 0, []), (0, 0, []), (0, 0, [])]⟩
theorem LoT.zero (w : World) (base L : Nat) : LoT w base L treeZ zeroT := by
  refine ⟨rfl, ⟨_, rfl, OwnX.nil _ _ _, fun j hj => ?_⟩, rfl, rfl, rfl, rfl, by decide, fun s hs => ?_⟩
  · rcases (show j = 0 ∨ j = 1 ∨ j = 2 ∨ j = 3 by simp [zeroT] at hj; omega) with rfl | rfl | rfl | rfl
    · exact ⟨rfl, rfl, _, rfl, BsV.nil _ _, .inl rfl, fun k e => (by cases e)⟩
    · exact ⟨rfl, rfl, _, rfl, BsV.nil _ _, .inl rfl, fun k e => (by cases e)⟩
    · exact ⟨rfl, rfl, _, rfl, BsV.nil _ _, .inl rfl, fun k e => (by cases e)⟩
    · exact ⟨rfl, rfl, _, rfl, BsV.nil _ _, .inl rfl, fun k e => (by cases e)⟩
  · simp [zeroT] at hs
    subst hs
    decide
/-- a loader, somewhere within its rows -/
def LoAt (w : World) (base L : Nat) (t : Tr) : Prop := ∃ hd kv vv, Cs w L 64 (hd ++ [kv, vv]).toArray ∧ LoT w base L hd t
/-- what a row of the rest makes of a tree; of a session -/
def restS (t : Tr) (v : List UInt8) : Tr := { t with lastGen := numD v 4, boot := numD (v.drop 4) 4, count := numD (v.drop 8) 4 }
def sesD (v : List UInt8) : Ses := (numD v 4, numD (v.drop 4) 8, v.drop 12)
def sesS (t : Tr) (k v : List UInt8) : Tr := if numD k 1 < 4 then { t with sess := t.sess.set (numD k 1) (sesD v) } else t
theorem numD_4 (l : List UInt8) : numD l 4 < 4294967296 := by have := numD_lt l 4; omega
theorem numD_8 (l : List UInt8) : numD l 8 < 18446744073709551616 := by have := numD_lt l 8; omega
theorem app_split {cur : Array Value} (h : cur.size = 18) : ∃ hd kv vv, hd.length = 16 ∧ cur = (hd ++ [kv, vv]).toArray := by
  refine ⟨cur.toList.take 16, cur[16], cur[17], by simp [h], ?_⟩
  apply Array.ext_getElem?
  intro i
  by_cases h1 : i < 16
  · conv => rhs; rw [List.getElem?_toArray, List.getElem?_append_left (by simp [h]; omega), List.getElem?_take_of_lt h1, Array.getElem?_toList]
  · conv => rhs; rw [List.getElem?_toArray, List.getElem?_append_right (by simp [h]; omega)]
    have e1 : (cur.toList.take 16).length = 16 := by simp [h]
    rw [e1]
    by_cases h2 : i < 18
    · rcases (show i = 16 ∨ i = 17 by omega) with rfl | rfl
      · rw [Array.getElem?_eq_getElem]; rfl
      · rw [Array.getElem?_eq_getElem]; rfl
    · rw [Array.getElem?_eq_none (by omega), List.getElem?_eq_none (by simp; omega)]
theorem rest_l (L base : Nat) (hd : List Value) (k v : List UInt8) (F : Nat → Prop) (t : Tr) (w : World) (h : LdAt w F L hd k v) (hT : LoT w base L hd t) (hb : base ≤ w.heap.size) :
    Calls Tryd.prog 58 #[.pointer (some ⟨L, 0, none⟩)] w fun e w' => e = .returned (.tuple #[]) ∧ LoAt w' base L (restS t v) ∧ Turn w w' (fun q => base ≤ q ∨ q = L) := by
  obtain ⟨kv, vv, h1, h2, h3, h4, h5, h6, h7⟩ := h
  refine (rest_v L _ v F w ⟨h1, ⟨vv, (ld_get h2).2, h4⟩, h5, h7⟩ (by simp [h2])).mono fun e w' ⟨he, cur', hc, hr, ht⟩ => ⟨he, ?_, ht.mono fun i _ e => .inr e⟩
  obtain ⟨hd', kv', vv', hl', rfl⟩ := app_split (show cur'.size = 18 by rw [hr.size]; simp [h2])
  refine ⟨hd', kv', vv', hc, ?_⟩
  have hT' := hT.turnL ht
  have hsame : ∀ i, i < 16 → i ≠ 1 → i ≠ 2 → i ≠ 3 → hd'[i]? = hd[i]? := fun i hi n1 n2 n3 => by
    have := hr.same i n1 n2 n3 (by omega)
    rwa [List.getElem?_toArray, List.getElem?_toArray, List.getElem?_append_left (by omega), List.getElem?_append_left (by omega)] at this
  have hat : ∀ i, i < 16 → (hd' ++ [kv', vv']).toArray[i]? = hd'[i]? := fun i hi => by rw [List.getElem?_toArray, List.getElem?_append_left (by omega)]
  obtain ⟨nv, k1, k2, k3⟩ := hT'.nod
  refine ⟨hl', ⟨nv, by rw [hsame 0 (by omega) (by omega) (by omega) (by omega)]; exact k1, k2, fun j hj => (k3 j hj).moves (fun i hi hi' => ?_) fun _ h => h⟩, ?_, ?_, ?_, hT.four, ⟨numD_4 _, numD_4 _, numD_4 _⟩, hT.sb⟩
  · rw [List.getElem?_toArray, List.getElem?_toArray]
    have h4 := hT.four
    have hj' : j < t.sess.length := hj
    exact hsame i (by omega) (by omega) (by omega) (by omega)
  · rw [← hat 1 (by omega)]; exact hr.c1
  · rw [← hat 2 (by omega)]; exact hr.c2
  · rw [← hat 3 (by omega)]; exact hr.c3
theorem infoSesL : (Tryd.prog.info? 27).map (·.size) = some 3 := by kernel_rfl
/-- reading a row: a variable may have been made, all that was left of the value may have been taken -/
structure RdSt (w : World) (F : Nat → Prop) (L : Nat) (hd : List Value) (key val : List UInt8) (ty : TypeId) (zs : List Value) (g : Option Nat) (vb : Option (Value × List UInt8)) (z : World) : Prop where
  ld : LdAt z F L hd key val
  tn : Turn w z (· = L)
  cell : ∀ q, g = some q → Cs z q ty zs.toArray ∧ w.heap.size ≤ q
  back : ∀ v l, vb = some (v, l) → NewV z (fun q => w.heap.size ≤ q ∧ g ≠ some q) v l
section
variable {w : World} {F : Nat → Prop} {L : Nat} {hd : List Value} {key val : List UInt8} {ty : TypeId} {zs : List Value} {g : Option Nat} {vb : Option (Value × List UInt8)}
theorem kept_rds : Kept (RdSt w F L hd key val ty zs g vb) := fun a b h hb => ⟨h.ld.below hb, h.tn.trans (Turn.of_below hb _) fun _ _ h => h, fun q e => ⟨(h.cell q e).1.below hb (h.cell q e).1.lt, (h.cell q e).2⟩, fun v l e => (h.back v l e).below hb⟩
theorem RdSt.start {z : World} (h : LdAt w F L hd key val) (hb : Below w.heap.size w z) : RdSt w F L hd key val ty zs none none z := ⟨h.below hb, Turn.of_below hb _, fun q e => (by cases e), fun v l e => (by cases e)⟩
theorem RdSt.next {z z' : World} {key' val' : List UInt8} (h : RdSt w F L hd key val ty zs g vb z) (hL : L < w.heap.size) (hl : LdAt z' F L hd key' val') (ht : Turn z z' (· = L)) : RdSt w F L hd key' val' ty zs g vb z' :=
  ⟨hl, h.tn.trans ht fun _ _ h => h, fun q e => ⟨(h.cell q e).1.turn ht (by have := (h.cell q e).2; omega), (h.cell q e).2⟩, fun v l e => (h.back v l e).turn ht fun q hq e => by have := hq.1; omega⟩
theorem RdSt.alloc {z z' : World} {q : Nat} (h : RdSt w F L hd key val ty zs none vb z) (hc : Cs z' q ty zs.toArray) (hb : Below z.heap.size z z') (hq : z.heap.size ≤ q) : RdSt w F L hd key val ty zs (some q) vb z' :=
  ⟨h.ld.below hb, h.tn.trans (Turn.of_below hb _) fun _ _ h => h, fun q' e => by cases e; exact ⟨hc, Nat.le_trans h.tn.size hq⟩, fun v l e => (((h.back v l e).mono (G := fun k => w.heap.size ≤ k ∧ k < z.heap.size) fun k hk hF => ⟨hF.1, hk⟩).below hb).mono fun k _ hF => ⟨hF.1, fun e => by injection e with e; have := hF.2; omega⟩⟩
theorem RdSt.all {z z' : World} {key' val' : List UInt8} {v : Value} {l : List UInt8} (h : RdSt w F L hd key val ty zs g none z) (hL : L < w.heap.size) (hv : NewV z' (z.heap.size ≤ ·) v l) (hl : LdAt z' F L hd key' val') (ht : Turn z z' (· = L)) : RdSt w F L hd key' val' ty zs g (some (v, l)) z' :=
  ⟨hl, h.tn.trans ht fun _ _ h => h, fun q e => ⟨(h.cell q e).1.turn ht (by have := (h.cell q e).2; omega), (h.cell q e).2⟩, fun v' l' e => by cases e; exact hv.mono fun q _ hq => ⟨Nat.le_trans h.tn.size hq, fun e => by have := (h.cell q e).1.lt; omega⟩⟩
end
theorem NewV.shape {w : World} {F : Nat → Prop} {v : Value} {l : List UInt8} (h : NewV w F v l) : ∃ A c, v = .slice A l.length c := by
  obtain ⟨A, c, e, -⟩ := h.1
  exact ⟨A, c, e⟩
theorem run_buildSes {a : Act} {o : Oper} {w : World} {x y z : Operand} {n c : Nat} {A : Option Addr} {s : Ses} (ho : o.op = .build 27 #[(0, x), (1, y), (2, z)]) (h1 : a.eval x = .int .u32 (s.1 : Int)) (h2 : a.eval y = .int .u64 (s.2.1 : Int)) (h3 : a.eval z = .slice A n c) : (execOp a.eval o).run Tryd.prog w = .ok (.value (.agg (sesC s (.slice A n c)).toArray)) w := by
  unfold execOp
  simp only [ho, h1, h2, h3, List.map_toArray, List.map_cons, List.map_nil]
  unfold sesC
  go_simp
theorem sesC_one (s : Ses) (A : Option Addr) (n c : Nat) : ∀ v ∈ sesC s (.slice A n c), v.oneCell' = true := by
  intro v hv
  simp [sesC] at hv
  rcases hv with rfl | rfl | rfl <;> rfl
/-- a session is laid into the tree -/
theorem LoT.setS {w w' : World} {base L c : Nat} {hd : List Value} {t : Tr} {s : Ses} {v kv vv : Value} (h : LoT w base L hd t) (hc : c < 4) (ht : Turn w w' (· = L)) (hv : NewV w (w.heap.size ≤ ·) v s.2.2 ∨ ∃ N, NewV w (N ≤ ·) v s.2.2 ∧ L < N ∧ base ≤ N ∧ ∀ nv, hd[0]? = some nv → ∀ q, nv.ownBlock = some q → q < N) (hs : s.1 < 4294967296 ∧ s.2.1 < 18446744073709551616 ∧ s.2.2.length ≤ 140737488355328) (hb : base ≤ w.heap.size) (hL : L < w.heap.size) (hk : Cs w' L 64 (over (hd ++ [kv, vv]).toArray (4 + c * 3) (sesC s v))) : LoAt w' base L { t with sess := t.sess.set c s } := by
  obtain ⟨N, hN, hLN, hbN, hoN⟩ : ∃ N, NewV w (N ≤ ·) v s.2.2 ∧ L < N ∧ base ≤ N ∧ ∀ nv, hd[0]? = some nv → ∀ q, nv.ownBlock = some q → q < N := by
    rcases hv with hv | hv
    · refine ⟨w.heap.size, hv, hL, by omega, fun nv e q hq => ?_⟩
      obtain ⟨nv', h1, h2, -⟩ := h.nod
      rw [h1] at e
      cases e
      exact (h2.lt q hq).2
    · exact hv
  have hlen := h.len
  have h3 : (sesC s v).length = 3 := rfl
  have e1 : over (hd ++ [kv, vv]).toArray (4 + c * 3) (sesC s v) = ((over hd.toArray (4 + c * 3) (sesC s v)).toList ++ [kv, vv]).toArray := by
    unfold over
    simp only [h3]
    rw [List.take_append_of_le_length (by omega), List.drop_append_of_le_length (by omega)]
    simp
  rw [e1] at hk
  have hT' := h.turnL ht
  have hi := over_in hd.toArray (4 + c * 3) (sesC s v) (by simp [h3, hlen]; omega)
  have ho := over_out hd.toArray (4 + c * 3) (sesC s v) (by simp [h3, hlen]; omega)
  have hsz := over_size hd.toArray (4 + c * 3) (sesC s v) (by simp [h3, hlen]; omega)
  generalize over hd.toArray (4 + c * 3) (sesC s v) = ov at hk hi ho hsz
  have hout : ∀ j, j < 4 → ov.toList[j]? = hd[j]? := fun j hj => by rw [Array.getElem?_toList, ho j (by omega), List.getElem?_toArray]
  obtain ⟨nv, k1, k2, k3⟩ := hT'.nod
  refine ⟨ov.toList, kv, vv, hk, ⟨by simp [hsz, hlen], ⟨nv, by rw [hout 0 (by omega)]; exact k1, k2, fun j hj => ?_⟩, by rw [hout 1 (by omega)]; exact h.c1, by rw [hout 2 (by omega)]; exact h.c2, by rw [hout 3 (by omega)]; exact h.c3, by simp [h.four], h.big, fun x hx => ?_⟩⟩
  · have hj' : j < t.sess.length := by simpa using hj
    by_cases e : j = c
    · subst e
      rw [List.getElem_set_self]
      refine ⟨?_, ?_, v, ?_, ?_⟩
      · have := hi 0 (by omega); simpa [sesC] using this
      · have := hi 1 (by omega); simpa [sesC] using this
      · have := hi 2 (by omega); simpa [sesC] using this
      · refine (hN.turn ht fun q hq e => by omega).mono fun q _ hq => ⟨⟨Nat.le_trans hbN hq, by omega⟩, fun e => ?_⟩
        have := hoN nv k1 q e
        omega
    · rw [List.getElem_set_ne (Ne.symm e)]
      refine (k3 j hj').moves (fun i h1 h2 => ?_) fun _ h => h
      rw [Array.toArray_toList, ho i (by omega)]
  · rcases List.mem_or_eq_of_mem_set hx with hx | rfl
    · exact h.sb x hx
    · exact hs
theorem kept_ss (w : World) (F : Nat → Prop) (L : Nat) (hd : List Value) (k : List UInt8) (g : Nat) {A : Option Addr} {n c : Nat} {xs : Array Value} {b : List UInt8} : Kept (fun z => LdAt z F L hd k [] ∧ Turn w z (· = L) ∧ Cs z g 27 xs ∧ NewV z (fun q => w.heap.size ≤ q ∧ g ≠ q) (.slice A n c) b ∧ w.heap.size ≤ g) := fun a b h hb =>
  ⟨h.1.below hb, h.2.1.trans (Turn.of_below hb _) fun _ _ h => h, h.2.2.1.below hb h.2.2.1.lt, h.2.2.2.1.below hb, h.2.2.2.2⟩
theorem LoAt.below {w w' : World} {base L : Nat} {t : Tr} (h : LoAt w base L t) (hb : Below w.heap.size w w') : LoAt w' base L t := by
  obtain ⟨hd, kv, vv, h1, h2⟩ := h
  exact ⟨hd, kv, vv, h1.below hb h1.lt, h2.below hb⟩
theorem kept_s3 (w : World) (base L : Nat) (hd : List Value) (t : Tr) (g : Nat) (v : Value) (b : List UInt8) {xs : Array Value} : Kept (fun z => (LoT z base L hd t ∧ Turn w z (· = L)) ∧ ((∃ kv vv, Cs z L 64 (hd ++ [kv, vv]).toArray) ∧ NewV z (fun q => w.heap.size ≤ q ∧ g ≠ q) v b) ∧ Cs z g 27 xs) := fun a b h hb =>
  ⟨⟨h.1.1.below hb, h.1.2.trans (Turn.of_below hb _) fun _ _ h => h⟩, ⟨by obtain ⟨kv, vv, h1⟩ := h.2.1.1; exact ⟨kv, vv, h1.below hb h1.lt⟩, h.2.1.2.below hb⟩, h.2.2.below hb h.2.2.lt⟩
theorem kept_s4 (w : World) (base L : Nat) (t : Tr) (g : Nat) (xs : Array Value) : Kept (fun z => Cs z g 27 xs ∧ LoAt z base L t ∧ Turn w z (fun q => base ≤ q ∨ q = L)) := fun a b h hb =>
  ⟨h.1.below hb h.1.lt, h.2.1.below hb, h.2.2.trans (Turn.of_below hb _) fun _ _ h => h⟩
set_option maxHeartbeats 32000000 in
theorem session_r (L base : Nat) (hd : List Value) (k v : List UInt8) (F : Nat → Prop) (t : Tr) (w : World) (h : LdAt w F L hd k v) (hF : ∀ q, F q → q < w.heap.size) (hT : LoT w base L hd t) (hb : base ≤ w.heap.size) :
    Calls Tryd.prog 57 #[.pointer (some ⟨L, 0, none⟩)] w fun e w' => e = .returned (.tuple #[]) ∧ LoAt w' base L (sesS t k v) ∧ Turn w w' (fun q => base ≤ q ∨ q = L) := by
  have hmix : Tryd.prog.follows .mixedOrders = true := by kernel_rfl
  have HL := Lib.hid h
  have HF := Lib.hid hF
  have HT := Lib.hid hT
  have HB := Lib.hid hb
  have HLT := Lib.hid h.lt
  have HVL := Lib.hid h.vlen
  have HDD := Lib.hid (show (v.drop 4).drop 8 = v.drop 12 by rw [List.drop_drop])
  clear h hF hT hb
  go_enter Tryd.func57, Tryd.ntmps57
  go_wp2_with fail
  refine code_cut (fun a a1 u => ∃ (g : Nat) (A : Option Addr) (c : Nat), LdAt u F L hd k [] ∧ Turn w u (· = L) ∧ Cs u g 27 (sesC (sesD v) (.slice A (v.drop 12).length c)).toArray ∧ w.heap.size ≤ g ∧ NewV u (fun q => w.heap.size ≤ q ∧ g ≠ q) (.slice A (v.drop 12).length c) (v.drop 12) ∧ a1 = ((((((((((((((a.put (some 4) (.pointer (some ⟨L, 0, none⟩))).put (some 5) (.pointer (some ⟨L, 0, none⟩))).put (some 6) (.pointer (some ⟨L, 17, none⟩))).put (some 8) (.pointer (some ⟨L, 0, none⟩))).put (some 9) (.pointer (some ⟨L, 0, none⟩))).put (some 10) (.pointer (some ⟨L, 17, none⟩))).put (some 12) (.pointer (some ⟨L, 0, none⟩))).put (some 13) (.pointer (some ⟨L, 0, none⟩))).put (some 14) (.pointer (some ⟨L, 17, none⟩))).put (some 7) (.int .u32 (numD v 4 : Int))).put (some 11) (.int .u64 (numD (v.drop 4) 8 : Int))).put (some 15) ((.slice A (v.drop 12).length c))).put (some 16) (.agg (sesC (sesD v) (.slice A (v.drop 12).length c)).toArray)).put (some 2) (.pointer (some ⟨g, 0, none⟩)))) ?_ ?_
  · refine wp_region_V [3, 7, 11, 13, 14] (RdSt w F L hd k v 27 sesZ none none) hmix (RdSt.start HL.out ((Below.refl _ _).drew)) ?_
    change wpAnyV _ _ _ _ _ _ _ _ _
    refine wpAnyV_pure (i := 0) (v := .pointer (some ⟨L, 0, none⟩)) (kept_rds) rfl (by kernel_rfl) (by kernel_rfl) (fun _ _ _ h => by cases h.1) (DoesV.reads (by rfl) fun w9 hS => by go_simp) ?_
    try simp only [nrm, Act.put]
    refine wpAnyV_pure (i := 1) (v := .pointer (some ⟨L, 0, none⟩)) (kept_rds) rfl (by kernel_rfl) (by kernel_rfl) (fun _ _ _ h => by cases h.1) (DoesV.reads (by rfl) fun w9 hS => by go_simp) ?_
    try simp only [nrm, Act.put]
    refine wpAnyV_pure (i := 2) (v := .pointer (some ⟨L, 17, none⟩)) (kept_rds) rfl (by kernel_rfl) (by kernel_rfl) (fun _ _ _ h => by cases h.1) (DoesV.reads (by rfl) fun w9 hS => by go_simp) ?_
    try simp only [nrm, Act.put]
    refine wpAnyV_pure (i := 4) (v := .pointer (some ⟨L, 0, none⟩)) (kept_rds) rfl (by kernel_rfl) (by kernel_rfl) (fun _ _ _ h => by cases h.1) (DoesV.reads (by rfl) fun w9 hS => by go_simp) ?_
    try simp only [nrm, Act.put]
    refine wpAnyV_pure (i := 5) (v := .pointer (some ⟨L, 0, none⟩)) (kept_rds) rfl (by kernel_rfl) (by kernel_rfl) (fun _ _ _ h => by cases h.1) (DoesV.reads (by rfl) fun w9 hS => by go_simp) ?_
    try simp only [nrm, Act.put]
    refine wpAnyV_pure (i := 6) (v := .pointer (some ⟨L, 17, none⟩)) (kept_rds) rfl (by kernel_rfl) (by kernel_rfl) (fun _ _ _ h => by cases h.1) (DoesV.reads (by rfl) fun w9 hS => by go_simp) ?_
    try simp only [nrm, Act.put]
    refine wpAnyV_pure (i := 8) (v := .pointer (some ⟨L, 0, none⟩)) (kept_rds) rfl (by kernel_rfl) (by kernel_rfl) (fun _ _ _ h => by cases h.1) (DoesV.reads (by rfl) fun w9 hS => by go_simp) ?_
    try simp only [nrm, Act.put]
    refine wpAnyV_pure (i := 9) (v := .pointer (some ⟨L, 0, none⟩)) (kept_rds) rfl (by kernel_rfl) (by kernel_rfl) (fun _ _ _ h => by cases h.1) (DoesV.reads (by rfl) fun w9 hS => by go_simp) ?_
    try simp only [nrm, Act.put]
    refine wpAnyV_pure (i := 10) (v := .pointer (some ⟨L, 17, none⟩)) (kept_rds) rfl (by kernel_rfl) (by kernel_rfl) (fun _ _ _ h => by cases h.1) (DoesV.reads (by rfl) fun w9 hS => by go_simp) ?_
    try simp only [nrm, Act.put]
    refine wpAnyV_all (l := [3, 13]) (by kernel_rfl) (by decide) (fun i hi u hS => ?_)
    simp only [List.mem_cons, List.not_mem_nil, or_false] at hi
    rcases hi with rfl | rfl
    · refine wpOp_at rfl rfl ?_
      refine wp_of_call (f := 75) (args := #[.pointer (some ⟨L, 17, none⟩)]) (by go_simp) (ld_num32 hS.ld) fun e u' hu => ?_
      obtain ⟨he, hl, ht⟩ := hu
      refine ⟨_, he, RdSt w F L hd k (v.drop 4) 27 sesZ none none, hS.next HLT.out hl ht, kept_rds, fun hh => absurd (by decide : (3 : Nat) ∈ [3, 7, 11, 13, 14]) hh, ?_⟩
      try simp only [nrm, Act.put]
      clear he hl ht hS
      refine wpAnyV_all (l := [7, 13]) (by kernel_rfl) (by decide) (fun i hi u hS => ?_)
      simp only [List.mem_cons, List.not_mem_nil, or_false] at hi
      rcases hi with rfl | rfl
      · refine wpOp_at rfl rfl ?_
        refine wp_of_call (f := 76) (args := #[.pointer (some ⟨L, 17, none⟩), .int .i64 8]) (by go_simp) (ld_num hS.ld 8 rfl) fun e u' hu => ?_
        obtain ⟨he, hl, ht⟩ := hu
        rw [HDD.out] at hl
        refine ⟨_, he, RdSt w F L hd k (v.drop 12) 27 sesZ none none, hS.next HLT.out hl ht, kept_rds, fun hh => absurd (by decide : (7 : Nat) ∈ [3, 7, 11, 13, 14]) hh, ?_⟩
        try simp only [nrm, Act.put]
        clear he hl ht hS
        refine wpAnyV_all (l := [11, 13]) (by kernel_rfl) (by decide) (fun i hi u hS => ?_)
        simp only [List.mem_cons, List.not_mem_nil, or_false] at hi
        rcases hi with rfl | rfl
        · refine wpOp_at rfl rfl ?_
          refine wp_of_call (f := 78) (args := #[.pointer (some ⟨L, 17, none⟩)]) (by go_simp) (ld_all hS.ld) fun e u' hu => ?_
          obtain ⟨vb, he, hv, hl, ht⟩ := hu
          obtain ⟨A, c, rfl⟩ := hv.shape
          refine ⟨_, he, RdSt w F L hd k [] 27 sesZ none (some ((.slice A (v.drop 12).length c), v.drop 12)), hS.all HLT.out hv hl ht, kept_rds, fun hh => absurd (by decide : (11 : Nat) ∈ [3, 7, 11, 13, 14]) hh, ?_⟩
          try simp only [nrm, Act.put]
          refine wpAnyV_pure (i := 12) (v := .agg (sesC (sesD v) (.slice A (v.drop 12).length c)).toArray) (kept_rds) rfl (by kernel_rfl) (by kernel_rfl) (fun _ _ _ h => by cases h.1) (DoesV.reads (by rfl) fun w9 hS => run_buildSes (s := sesD v) rfl rfl rfl rfl) ?_
          try simp only [nrm, Act.put]
          clear he hl ht hS
          refine wpAnyV_all (l := [13]) (by kernel_rfl) (by decide) (fun i hi u hS => ?_)
          simp only [List.mem_cons, List.not_mem_nil, or_false] at hi
          subst hi
          refine wpOp_at rfl rfl ?_
          refine wp_allocS 27 rfl sesZ sesZero (fun g u' hk hb hg => ?_)
          refine ⟨RdSt w F L hd k [] 27 sesZ (some g) (some ((.slice A (v.drop 12).length c), v.drop 12)), hS.alloc hk hb hg, kept_rds, fun hh => absurd (by decide : (13 : Nat) ∈ [3, 7, 11, 13, 14]) hh, ?_⟩
          try simp only [nrm, Act.put]
          refine wpAnyV_all (l := [14]) (by kernel_rfl) (by decide) (fun i hi u hS => ?_)
          simp only [List.mem_cons, List.not_mem_nil, or_false] at hi
          subst hi
          refine wpOp_at rfl rfl ?_
          refine wp_storeW 27 _ _ rfl g rfl (sesC (sesD v) (.slice A (v.drop 12).length c)) sesZ rfl (hS.cell g rfl).1 rfl (sesC_one _ _ _ _) infoSesL fun u' hk ht => ?_
          have HG := (hS.cell g rfl).2
          refine ⟨(fun z => LdAt z F L hd k [] ∧ Turn w z (· = L) ∧ Cs z g 27 (sesC (sesD v) (.slice A (v.drop 12).length c)).toArray ∧ NewV z (fun q => w.heap.size ≤ q ∧ g ≠ q) (.slice A (v.drop 12).length c) (v.drop 12) ∧ w.heap.size ≤ g), ⟨hS.ld.turn ht (fun q hq e => by have := HF.out q hq; omega) (by have := HLT.out; omega), hS.tn.trans ht fun i hi e => absurd hi (by omega), hk, ((hS.back _ _ rfl).mono fun q _ hq => ⟨hq.1, fun e => hq.2 (by rw [e])⟩).turn ht fun q hq e => hq.2 e.symm, HG⟩, kept_ss _ _ _ _ _ _, fun hh => absurd (by decide : (14 : Nat) ∈ [3, 7, 11, 13, 14]) hh, ?_⟩
          try simp only [nrm, Act.put]
          exact wpAnyV_done (by kernel_rfl) (fun z hz => ⟨rfl, g, A, c, hz.1, hz.2.1, hz.2.2.1, hz.2.2.2.2, hz.2.2.2.1, rfl⟩) _
        · refine wpOp_at rfl rfl ?_
          refine wp_allocS 27 rfl sesZ sesZero (fun g u' hk hb hg => ?_)
          refine ⟨RdSt w F L hd k (v.drop 12) 27 sesZ (some g) none, hS.alloc hk hb hg, kept_rds, fun hh => absurd (by decide : (13 : Nat) ∈ [3, 7, 11, 13, 14]) hh, ?_⟩
          try simp only [nrm, Act.put]
          refine wpAnyV_all (l := [11]) (by kernel_rfl) (by decide) (fun i hi u hS => ?_)
          simp only [List.mem_cons, List.not_mem_nil, or_false] at hi
          subst hi
          refine wpOp_at rfl rfl ?_
          refine wp_of_call (f := 78) (args := #[.pointer (some ⟨L, 17, none⟩)]) (by go_simp) (ld_all hS.ld) fun e u' hu => ?_
          obtain ⟨vb, he, hv, hl, ht⟩ := hu
          obtain ⟨A, c, rfl⟩ := hv.shape
          refine ⟨_, he, RdSt w F L hd k [] 27 sesZ (some g) (some ((.slice A (v.drop 12).length c), v.drop 12)), hS.all HLT.out hv hl ht, kept_rds, fun hh => absurd (by decide : (11 : Nat) ∈ [3, 7, 11, 13, 14]) hh, ?_⟩
          try simp only [nrm, Act.put]
          refine wpAnyV_pure (i := 12) (v := .agg (sesC (sesD v) (.slice A (v.drop 12).length c)).toArray) (kept_rds) rfl (by kernel_rfl) (by kernel_rfl) (fun _ _ _ h => by cases h.1) (DoesV.reads (by rfl) fun w9 hS => run_buildSes (s := sesD v) rfl rfl rfl rfl) ?_
          try simp only [nrm, Act.put]
          clear he hl ht hS
          refine wpAnyV_all (l := [14]) (by kernel_rfl) (by decide) (fun i hi u hS => ?_)
          simp only [List.mem_cons, List.not_mem_nil, or_false] at hi
          subst hi
          refine wpOp_at rfl rfl ?_
          refine wp_storeW 27 _ _ rfl g rfl (sesC (sesD v) (.slice A (v.drop 12).length c)) sesZ rfl (hS.cell g rfl).1 rfl (sesC_one _ _ _ _) infoSesL fun u' hk ht => ?_
          have HG := (hS.cell g rfl).2
          refine ⟨(fun z => LdAt z F L hd k [] ∧ Turn w z (· = L) ∧ Cs z g 27 (sesC (sesD v) (.slice A (v.drop 12).length c)).toArray ∧ NewV z (fun q => w.heap.size ≤ q ∧ g ≠ q) (.slice A (v.drop 12).length c) (v.drop 12) ∧ w.heap.size ≤ g), ⟨hS.ld.turn ht (fun q hq e => by have := HF.out q hq; omega) (by have := HLT.out; omega), hS.tn.trans ht fun i hi e => absurd hi (by omega), hk, ((hS.back _ _ rfl).mono fun q _ hq => ⟨hq.1, fun e => hq.2 (by rw [e])⟩).turn ht fun q hq e => hq.2 e.symm, HG⟩, kept_ss _ _ _ _ _ _, fun hh => absurd (by decide : (14 : Nat) ∈ [3, 7, 11, 13, 14]) hh, ?_⟩
          try simp only [nrm, Act.put]
          exact wpAnyV_done (by kernel_rfl) (fun z hz => ⟨rfl, g, A, c, hz.1, hz.2.1, hz.2.2.1, hz.2.2.2.2, hz.2.2.2.1, rfl⟩) _
      · refine wpOp_at rfl rfl ?_
        refine wp_allocS 27 rfl sesZ sesZero (fun g u' hk hb hg => ?_)
        refine ⟨RdSt w F L hd k (v.drop 4) 27 sesZ (some g) none, hS.alloc hk hb hg, kept_rds, fun hh => absurd (by decide : (13 : Nat) ∈ [3, 7, 11, 13, 14]) hh, ?_⟩
        try simp only [nrm, Act.put]
        refine wpAnyV_all (l := [7]) (by kernel_rfl) (by decide) (fun i hi u hS => ?_)
        simp only [List.mem_cons, List.not_mem_nil, or_false] at hi
        subst hi
        refine wpOp_at rfl rfl ?_
        refine wp_of_call (f := 76) (args := #[.pointer (some ⟨L, 17, none⟩), .int .i64 8]) (by go_simp) (ld_num hS.ld 8 rfl) fun e u' hu => ?_
        obtain ⟨he, hl, ht⟩ := hu
        rw [HDD.out] at hl
        refine ⟨_, he, RdSt w F L hd k (v.drop 12) 27 sesZ (some g) none, hS.next HLT.out hl ht, kept_rds, fun hh => absurd (by decide : (7 : Nat) ∈ [3, 7, 11, 13, 14]) hh, ?_⟩
        try simp only [nrm, Act.put]
        clear he hl ht hS
        refine wpAnyV_all (l := [11]) (by kernel_rfl) (by decide) (fun i hi u hS => ?_)
        simp only [List.mem_cons, List.not_mem_nil, or_false] at hi
        subst hi
        refine wpOp_at rfl rfl ?_
        refine wp_of_call (f := 78) (args := #[.pointer (some ⟨L, 17, none⟩)]) (by go_simp) (ld_all hS.ld) fun e u' hu => ?_
        obtain ⟨vb, he, hv, hl, ht⟩ := hu
        obtain ⟨A, c, rfl⟩ := hv.shape
        refine ⟨_, he, RdSt w F L hd k [] 27 sesZ (some g) (some ((.slice A (v.drop 12).length c), v.drop 12)), hS.all HLT.out hv hl ht, kept_rds, fun hh => absurd (by decide : (11 : Nat) ∈ [3, 7, 11, 13, 14]) hh, ?_⟩
        try simp only [nrm, Act.put]
        refine wpAnyV_pure (i := 12) (v := .agg (sesC (sesD v) (.slice A (v.drop 12).length c)).toArray) (kept_rds) rfl (by kernel_rfl) (by kernel_rfl) (fun _ _ _ h => by cases h.1) (DoesV.reads (by rfl) fun w9 hS => run_buildSes (s := sesD v) rfl rfl rfl rfl) ?_
        try simp only [nrm, Act.put]
        clear he hl ht hS
        refine wpAnyV_all (l := [14]) (by kernel_rfl) (by decide) (fun i hi u hS => ?_)
        simp only [List.mem_cons, List.not_mem_nil, or_false] at hi
        subst hi
        refine wpOp_at rfl rfl ?_
        refine wp_storeW 27 _ _ rfl g rfl (sesC (sesD v) (.slice A (v.drop 12).length c)) sesZ rfl (hS.cell g rfl).1 rfl (sesC_one _ _ _ _) infoSesL fun u' hk ht => ?_
        have HG := (hS.cell g rfl).2
        refine ⟨(fun z => LdAt z F L hd k [] ∧ Turn w z (· = L) ∧ Cs z g 27 (sesC (sesD v) (.slice A (v.drop 12).length c)).toArray ∧ NewV z (fun q => w.heap.size ≤ q ∧ g ≠ q) (.slice A (v.drop 12).length c) (v.drop 12) ∧ w.heap.size ≤ g), ⟨hS.ld.turn ht (fun q hq e => by have := HF.out q hq; omega) (by have := HLT.out; omega), hS.tn.trans ht fun i hi e => absurd hi (by omega), hk, ((hS.back _ _ rfl).mono fun q _ hq => ⟨hq.1, fun e => hq.2 (by rw [e])⟩).turn ht fun q hq e => hq.2 e.symm, HG⟩, kept_ss _ _ _ _ _ _, fun hh => absurd (by decide : (14 : Nat) ∈ [3, 7, 11, 13, 14]) hh, ?_⟩
        try simp only [nrm, Act.put]
        exact wpAnyV_done (by kernel_rfl) (fun z hz => ⟨rfl, g, A, c, hz.1, hz.2.1, hz.2.2.1, hz.2.2.2.2, hz.2.2.2.1, rfl⟩) _
    · refine wpOp_at rfl rfl ?_
      refine wp_allocS 27 rfl sesZ sesZero (fun g u' hk hb hg => ?_)
      refine ⟨RdSt w F L hd k v 27 sesZ (some g) none, hS.alloc hk hb hg, kept_rds, fun hh => absurd (by decide : (13 : Nat) ∈ [3, 7, 11, 13, 14]) hh, ?_⟩
      try simp only [nrm, Act.put]
      refine wpAnyV_all (l := [3]) (by kernel_rfl) (by decide) (fun i hi u hS => ?_)
      simp only [List.mem_cons, List.not_mem_nil, or_false] at hi
      subst hi
      refine wpOp_at rfl rfl ?_
      refine wp_of_call (f := 75) (args := #[.pointer (some ⟨L, 17, none⟩)]) (by go_simp) (ld_num32 hS.ld) fun e u' hu => ?_
      obtain ⟨he, hl, ht⟩ := hu
      refine ⟨_, he, RdSt w F L hd k (v.drop 4) 27 sesZ (some g) none, hS.next HLT.out hl ht, kept_rds, fun hh => absurd (by decide : (3 : Nat) ∈ [3, 7, 11, 13, 14]) hh, ?_⟩
      try simp only [nrm, Act.put]
      clear he hl ht hS
      refine wpAnyV_all (l := [7]) (by kernel_rfl) (by decide) (fun i hi u hS => ?_)
      simp only [List.mem_cons, List.not_mem_nil, or_false] at hi
      subst hi
      refine wpOp_at rfl rfl ?_
      refine wp_of_call (f := 76) (args := #[.pointer (some ⟨L, 17, none⟩), .int .i64 8]) (by go_simp) (ld_num hS.ld 8 rfl) fun e u' hu => ?_
      obtain ⟨he, hl, ht⟩ := hu
      rw [HDD.out] at hl
      refine ⟨_, he, RdSt w F L hd k (v.drop 12) 27 sesZ (some g) none, hS.next HLT.out hl ht, kept_rds, fun hh => absurd (by decide : (7 : Nat) ∈ [3, 7, 11, 13, 14]) hh, ?_⟩
      try simp only [nrm, Act.put]
      clear he hl ht hS
      refine wpAnyV_all (l := [11]) (by kernel_rfl) (by decide) (fun i hi u hS => ?_)
      simp only [List.mem_cons, List.not_mem_nil, or_false] at hi
      subst hi
      refine wpOp_at rfl rfl ?_
      refine wp_of_call (f := 78) (args := #[.pointer (some ⟨L, 17, none⟩)]) (by go_simp) (ld_all hS.ld) fun e u' hu => ?_
      obtain ⟨vb, he, hv, hl, ht⟩ := hu
      obtain ⟨A, c, rfl⟩ := hv.shape
      refine ⟨_, he, RdSt w F L hd k [] 27 sesZ (some g) (some ((.slice A (v.drop 12).length c), v.drop 12)), hS.all HLT.out hv hl ht, kept_rds, fun hh => absurd (by decide : (11 : Nat) ∈ [3, 7, 11, 13, 14]) hh, ?_⟩
      try simp only [nrm, Act.put]
      refine wpAnyV_pure (i := 12) (v := .agg (sesC (sesD v) (.slice A (v.drop 12).length c)).toArray) (kept_rds) rfl (by kernel_rfl) (by kernel_rfl) (fun _ _ _ h => by cases h.1) (DoesV.reads (by rfl) fun w9 hS => run_buildSes (s := sesD v) rfl rfl rfl rfl) ?_
      try simp only [nrm, Act.put]
      clear he hl ht hS
      refine wpAnyV_all (l := [14]) (by kernel_rfl) (by decide) (fun i hi u hS => ?_)
      simp only [List.mem_cons, List.not_mem_nil, or_false] at hi
      subst hi
      refine wpOp_at rfl rfl ?_
      refine wp_storeW 27 _ _ rfl g rfl (sesC (sesD v) (.slice A (v.drop 12).length c)) sesZ rfl (hS.cell g rfl).1 rfl (sesC_one _ _ _ _) infoSesL fun u' hk ht => ?_
      have HG := (hS.cell g rfl).2
      refine ⟨(fun z => LdAt z F L hd k [] ∧ Turn w z (· = L) ∧ Cs z g 27 (sesC (sesD v) (.slice A (v.drop 12).length c)).toArray ∧ NewV z (fun q => w.heap.size ≤ q ∧ g ≠ q) (.slice A (v.drop 12).length c) (v.drop 12) ∧ w.heap.size ≤ g), ⟨hS.ld.turn ht (fun q hq e => by have := HF.out q hq; omega) (by have := HLT.out; omega), hS.tn.trans ht fun i hi e => absurd hi (by omega), hk, ((hS.back _ _ rfl).mono fun q _ hq => ⟨hq.1, fun e => hq.2 (by rw [e])⟩).turn ht fun q hq e => hq.2 e.symm, HG⟩, kept_ss _ _ _ _ _ _, fun hh => absurd (by decide : (14 : Nat) ∈ [3, 7, 11, 13, 14]) hh, ?_⟩
      try simp only [nrm, Act.put]
      exact wpAnyV_done (by kernel_rfl) (fun z hz => ⟨rfl, g, A, c, hz.1, hz.2.1, hz.2.2.1, hz.2.2.2.2, hz.2.2.2.1, rfl⟩) _
  rintro a1 w2 ⟨g, A, c, hl, ht, hc, hg, hv, rfl⟩
  have L2 := Lib.hid hl
  have T2 := Lib.hid ht
  have C2 := Lib.hid hc
  have G2 := Lib.hid hg
  have V2 := Lib.hid hv
  clear hl ht hc hg hv
  go_wp2_with fail
  refine (ld_keyn L2.out 1 rfl).mono ?_
  rintro e w3 ⟨rfl, hl, ht⟩
  have L3 := Lib.hid hl
  have T3 := Lib.hid (T2.out.trans ht fun _ _ h => h)
  have C3 := Lib.hid (C2.out.turn ht (by have := HLT.out; have := G2.out; omega))
  have V3 := Lib.hid (V2.out.turn ht fun q hq e => by have := HLT.out; have := hq.1; omega)
  have HKN := Lib.hid (numD_lt k 1)
  obtain ⟨m, hm⟩ : ∃ m, m = numD k 1 := ⟨_, rfl⟩
  have HM := Lib.hid hm
  rw [← hm] at HKN ⊢
  have j0 : (0 : Int) ≤ (m : Int) := by omega
  clear hl ht hm
  by_cases hlt : m < 4
  · have i1 : (m : Int) < 4 := by omega
    have HLT4 := Lib.hid hlt
    clear hlt
    go_wp2_with fail
    refine wp_region_W (fun z => Cs z g 27 (sesC (sesD v) (.slice A (v.drop 12).length c)).toArray) ((fun z => (LoT z base L hd t ∧ Turn w z (· = L)) ∧ ((∃ kv vv, Cs z L 64 (hd ++ [kv, vv]).toArray) ∧ NewV z (fun q => w.heap.size ≤ q ∧ g ≠ q) (.slice A (v.drop 12).length c) (v.drop 12)) ∧ Cs z g 27 (sesC (sesD v) (.slice A (v.drop 12).length c)).toArray)) hmix (kept_s3 _ _ _ _ _ _ _ _ _ _ ⟨⟨HT.out.turnL T3.out, T3.out⟩, ⟨by obtain ⟨kv, vv, h1, -⟩ := L3.out; exact ⟨kv, vv, h1⟩, V3.out⟩, C3.out⟩ ((Below.refl _ _).drew)) ?_
    change wpAnyW _ _ _ _ _ _ _ _ _
    refine wpAnyW_take (i := 0) (v := .pointer (some ⟨L, 0, none⟩)) (kept_s3 _ _ _ _ _ _ _ _) (fun _ h => h.2.2) rfl (by kernel_rfl) (by kernel_rfl) (fun _ _ _ h => h) (DoesV.reads (by rfl) fun w9 hS => by go_simp) ?_
    try simp only [nrm, Act.put]
    refine wpAnyW_take (i := 1) (v := .int .u64 (m : Int)) (kept_s3 _ _ _ _ _ _ _ _) (fun _ h => h.2.2) rfl (by kernel_rfl) (by kernel_rfl) (fun _ _ _ h => h) (DoesV.reads (by rfl) fun w9 hS => by go_simp) ?_
    try simp only [nrm, Act.put]
    refine wpAnyW_take (i := 2) (v := .agg (sesC (sesD v) (.slice A (v.drop 12).length c)).toArray) (kept_s3 _ _ _ _ _ _ _ _) (fun _ h => h.2.2) rfl (by kernel_rfl) (by kernel_rfl) (fun _ _ _ h => h) (DoesV.loadT (by rfl) 27 _ rfl g 0 rfl (sesC (sesD v) (.slice A (v.drop 12).length c)) (fun w9 hS => At.whole hS) _ Tryd.underlying27 rfl infoSesL) ?_
    try simp only [nrm, Act.put]
    refine wpAnyW_take (i := 3) (v := .pointer (some ⟨L, 0, none⟩)) (kept_s3 _ _ _ _ _ _ _ _) (fun _ h => h.2.2) rfl (by kernel_rfl) (by kernel_rfl) (fun _ _ _ h => h) (DoesV.reads (by rfl) fun w9 hS => by go_simp) ?_
    try simp only [nrm, Act.put]
    refine wpAnyW_take (i := 4) (v := .pointer (some ⟨L, 0, none⟩)) (kept_s3 _ _ _ _ _ _ _ _) (fun _ h => h.2.2) rfl (by kernel_rfl) (by kernel_rfl) (fun _ _ _ h => h) (DoesV.reads (by rfl) fun w9 hS => by go_simp) ?_
    try simp only [nrm, Act.put]
    refine wpAnyW_take (i := 5) (v := .pointer (some ⟨L, 4, none⟩)) (kept_s3 _ _ _ _ _ _ _ _) (fun _ h => h.2.2) rfl (by kernel_rfl) (by kernel_rfl) (fun _ _ _ h => h) (DoesV.reads (by rfl) fun w9 hS => by go_simp) ?_
    try simp only [nrm, Act.put]
    refine wpAnyW_take (i := 6) (v := .pointer (some ⟨L, 4 + m * 3, none⟩)) (kept_s3 _ _ _ _ _ _ _ _) (fun _ h => h.2.2) rfl (by kernel_rfl) (by kernel_rfl) (fun _ _ _ h => h) (DoesV.reads (by rfl) fun w9 hS => by go_simp) ?_
    try simp only [nrm, Act.put]
    refine wpAnyW_only (i := 7) rfl (by kernel_rfl) rfl (fun u hS => ?_)
    obtain ⟨⟨hT9, ht9⟩, ⟨⟨kv, vv, hc9⟩, hv9⟩, hg9⟩ := hS
    refine wp_storeS 27 _ _ rfl L (4 + m * 3) rfl (sesC (sesD v) (.slice A (v.drop 12).length c)) rfl 64 _ hc9 (by have h1 := hT9.len; have h2 := HLT4.out; simp [sesC, h1]; omega) (sesC_one _ _ _ _) infoSesL fun u' hk ht => ?_
    have hz9 : LoAt u' base L { t with sess := t.sess.set m (sesD v) } := hT9.setS HLT4.out ht (.inr ⟨w.heap.size, hv9.mono fun q _ hq => hq.1, HLT.out, by have := HB.out; have := HLT.out; omega, fun nv e q hq => by obtain ⟨nv', h1, h2, -⟩ := HT.out.nod; rw [h1] at e; cases e; exact (h2.lt q hq).2⟩) ⟨numD_4 _, numD_8 _, by show (v.drop 12).length ≤ _; rw [List.length_drop]; have := HVL.out; omega⟩ (Nat.le_trans HB.out ht9.size) (Nat.lt_of_lt_of_le HLT.out ht9.size) hk
    refine ⟨(fun z => Cs z g 27 (sesC (sesD v) (.slice A (v.drop 12).length c)).toArray ∧ LoAt z base L { t with sess := t.sess.set m (sesD v) } ∧ Turn w z (fun q => base ≤ q ∨ q = L)), ⟨hg9.turn ht (by have := HLT.out; have := G2.out; omega), hz9, (ht9.trans ht fun _ _ h => h).mono fun i _ e => .inr e⟩, kept_s4 _ _ _ _ _ _, fun _ h => h.1, ?_⟩
    clear hz9 hk ht hc9 hT9 ht9 hv9 hg9
    try simp only [nrm, Act.put]
    refine wpAnyW_done (by kernel_rfl) (fun wz hz0 => ?_) _
    have hz := hz0.2
    clear hz0
    have KZ := Lib.hid hz
    clear hz
    go_wp2_with fail
    first
      | (refine bodyPost_ret (results_none rfl _ _ _) rfl ?_)
      | go_end0
    refine ⟨rfl, ?_, ?_⟩
    · unfold sesS
      rw [← HM.out, if_pos HLT4.out]
      exact KZ.out.1
    · exact KZ.out.2
  · have i1 : ¬ (m : Int) < 4 := by omega
    have HLT4 := Lib.hid hlt
    clear hlt
    go_wp2_with fail
    first
      | (refine bodyPost_ret (results_none rfl _ _ _) rfl ?_)
      | go_end0
    refine ⟨rfl, ?_, T3.out.mono fun i _ e => .inr e⟩
    unfold sesS
    rw [← HM.out, if_neg HLT4.out]
    obtain ⟨kv, vv, h1, -⟩ := L3.out
    exact ⟨hd, kv, vv, h1, HT.out.turnL T3.out⟩
theorem session_v (L base : Nat) (hd : List Value) (k v : List UInt8) (F : Nat → Prop) (t : Tr) (w : World) (h : LdAt w F L hd k v) (hT : LoT w base L hd t) (hb : base ≤ w.heap.size) :
    Calls Tryd.prog 57 #[.pointer (some ⟨L, 0, none⟩)] w fun e w' => e = .returned (.tuple #[]) ∧ LoAt w' base L (sesS t k v) ∧ Turn w w' (fun q => base ≤ q ∨ q = L) :=
  session_r L base hd k v (fun q => F q ∧ q < w.heap.size) t w (h.mono (fun q hq hF => ⟨hF, hq⟩) fun hh => h.off hh.1) (fun q hq => hq.2) hT hb

end Go.Proofs.YtdhlejhflkfoaaaDoor
