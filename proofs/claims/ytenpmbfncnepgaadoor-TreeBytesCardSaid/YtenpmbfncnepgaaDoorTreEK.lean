/- TreEK: TreE TreF TreK TreLp TreM. -/
import Derived.Test.YtenpmbfncnepgaaDoorAnyW
import Derived.Test.YtenpmbfncnepgaaDoorNameIs
import Derived.Test.YtenpmbfncnepgaaDoorTblK
import Derived.Test.YtenpmbfncnepgaaDoorTrPK
/- Trees in memory: entries, nodes as elements of lists; a tree as a value; the reference's SameNode. -/
namespace Go.Proofs.YtenpmbfncnepgaaDoor
open Go.RowKit Go.Shelf
set_option linter.unusedVariables false
set_option maxRecDepth 100000
set_option linter.unusedSimpArgs false

def entE : Elem Ent where
  ety := 84
  sty := 32
  n := 2
  bytes := 24
  rd w F cs x := cs = [sv x.1, .int .u32 (x.2 : Int)] ∧ x.2 < 4294967296
  und := Tryd.underlying32
  info := ⟨_, _, rfl, rfl, rfl, rfl, rfl⟩
  pos := by decide
  byt := by decide
  len := by rintro w F cs x ⟨rfl, _⟩; rfl
  one := by
    rintro w F cs x ⟨rfl, _⟩ u hu
    simp at hu
    rcases hu with rfl | rfl <;> rfl
  turn := fun h _ _ => h
  mono := fun h _ => h
/-- a value that reads as a list -/
def LsV {α : Type} (E : Elem α) (w : World) (F : Nat → Prop) (v : Value) (l : List α) : Prop := ∃ A c, v = .slice A l.length c ∧ RdX E w F A l ∧ l.length ≤ c ∧ c ≤ maxLen ∧ (A = none → l = [] ∧ c = 0)
section
variable {α : Type} {E : Elem α}
theorem LsV.turn {w w' : World} {F G : Nat → Prop} {v : Value} {l : List α} (h : LsV E w F v l) (ht : Turn w w' G) (hG : ∀ k, F k → ¬ G k) : LsV E w' F v l := by
  obtain ⟨A, c, h1, h2, h3⟩ := h
  exact ⟨A, c, h1, h2.turn ht hG, h3⟩
theorem LsV.below {w w' : World} {F : Nat → Prop} {v : Value} {l : List α} (h : LsV E w F v l) (hb : Below w.heap.size w w') : LsV E w' F v l := h.turn (Turn.of_below hb fun _ => False) fun _ _ h => h
theorem LsV.mono {w : World} {F G : Nat → Prop} {v : Value} {l : List α} (h : LsV E w F v l) (hF : ∀ k, k < w.heap.size → F k → G k) : LsV E w G v l := by
  obtain ⟨A, c, h1, h2, h3⟩ := h
  exact ⟨A, c, h1, h2.mono hF, h3⟩
theorem LsV.one {w : World} {F : Nat → Prop} {v : Value} {l : List α} (h : LsV E w F v l) : v.oneCell' = true := by
  obtain ⟨A, c, rfl, _⟩ := h
  rfl
theorem LsV.nil (w : World) (F : Nat → Prop) : LsV E w F (.slice none 0 0) [] := ⟨none, 0, rfl, .inl rfl, Nat.le_refl _, Nat.zero_le _, fun _ => ⟨rfl, rfl⟩⟩
end
/-- a node's cells -/
def ndC (n : Nd) (dv nv : Value) : List Value := [.int .u32 (n.ino : Int), .int .u32 (n.gen : Int), .bool n.dir, .int .u64 (n.chg : Int), dv, nv]
def NdAt (w : World) (F : Nat → Prop) (cs : List Value) (n : Nd) : Prop := ∃ dv nv, cs = ndC n dv nv ∧ BsV w F dv n.data ∧ LsV entE w F nv n.names ∧ n.ino < 4294967296 ∧ n.gen < 4294967296 ∧ n.chg < 18446744073709551616
theorem NdAt.one {w : World} {F : Nat → Prop} {cs : List Value} {n : Nd} (h : NdAt w F cs n) : ∀ v ∈ cs, v.oneCell' = true := by
  obtain ⟨dv, nv, rfl, h1, h2, -⟩ := h
  intro u hu
  simp [ndC] at hu
  rcases hu with rfl | rfl | rfl | rfl | rfl | rfl
  · rfl
  · rfl
  · rfl
  · rfl
  · exact h1.one
  · exact h2.one
theorem NdAt.turn {w w' : World} {F G : Nat → Prop} {cs : List Value} {n : Nd} (h : NdAt w F cs n) (ht : Turn w w' G) (hG : ∀ k, F k → ¬ G k) : NdAt w' F cs n := by
  obtain ⟨dv, nv, h0, h1, h2, h3⟩ := h
  exact ⟨dv, nv, h0, h1.turn ht hG, h2.turn ht hG, h3⟩
theorem NdAt.below {w w' : World} {F : Nat → Prop} {cs : List Value} {n : Nd} (h : NdAt w F cs n) (hb : Below w.heap.size w w') : NdAt w' F cs n := h.turn (Turn.of_below hb fun _ => False) fun _ _ h => h
theorem NdAt.mono {w : World} {F G : Nat → Prop} {cs : List Value} {n : Nd} (h : NdAt w F cs n) (hF : ∀ k, k < w.heap.size → F k → G k) : NdAt w G cs n := by
  obtain ⟨dv, nv, h0, h1, h2, h3⟩ := h
  exact ⟨dv, nv, h0, h1.mono hF, h2.mono hF, h3⟩
theorem NdAt.len {w : World} {F : Nat → Prop} {cs : List Value} {n : Nd} (h : NdAt w F cs n) : cs.length = 6 := by
  obtain ⟨dv, nv, rfl, -⟩ := h
  rfl
def nodeE : Elem Nd where
  ety := 34
  sty := 23
  n := 6
  bytes := 72
  rd := NdAt
  und := Tryd.underlying23
  info := ⟨_, _, rfl, rfl, rfl, rfl, rfl⟩
  pos := by decide
  byt := by decide
  len := fun h => h.len
  one := fun h => h.one
  turn := fun h ht hG => h.turn ht hG
  mono := fun h hF => h.mono hF
theorem infoNode : (Tryd.prog.info? 34).map (·.size) = some 6 := by kernel_rfl
theorem infoTree : (Tryd.prog.info? 31).map (·.size) = some 16 := by kernel_rfl
/-- a session's cells; all of them -/
def SeAt (w : World) (F : Nat → Prop) (cs : List Value) (x : Nat × Nat × List UInt8) : Prop := ∃ v, cs = [.int .u32 (x.1 : Int), .int .u64 (x.2.1 : Int), v] ∧ BsV w F v x.2.2 ∧ x.1 < 4294967296 ∧ x.2.1 < 18446744073709551616 ∧ x.2.2.length ≤ 140737488355328
def SesAt (w : World) (F : Nat → Prop) : List Value → List (Nat × Nat × List UInt8) → Prop
  | cs, [] => cs = []
  | cs, x :: r => SeAt w F (cs.take 3) x ∧ SesAt w F (cs.drop 3) r
/-- a tree's cells -/
def TrAt (w : World) (F : Nat → Prop) (cs : List Value) (t : Tr) : Prop := ∃ nv ss, cs = nv :: .int .u32 (t.lastGen : Int) :: .int .u32 (t.boot : Int) :: .int .u32 (t.count : Int) :: ss ∧ LsV nodeE w F nv t.nodes ∧ SesAt w F ss t.sess ∧ t.sess.length = 4 ∧ ss.length = 12 ∧ t.lastGen < 4294967296 ∧ t.boot < 4294967296 ∧ t.count < 4294967296
theorem SeAt.turn {w w' : World} {F G : Nat → Prop} {cs : List Value} {x : Nat × Nat × List UInt8} (h : SeAt w F cs x) (ht : Turn w w' G) (hG : ∀ k, F k → ¬ G k) : SeAt w' F cs x := by
  obtain ⟨v, h1, h2, h3⟩ := h
  exact ⟨v, h1, h2.turn ht hG, h3⟩
theorem SeAt.mono {w : World} {F G : Nat → Prop} {cs : List Value} {x : Nat × Nat × List UInt8} (h : SeAt w F cs x) (hF : ∀ k, k < w.heap.size → F k → G k) : SeAt w G cs x := by
  obtain ⟨v, h1, h2, h3⟩ := h
  exact ⟨v, h1, h2.mono hF, h3⟩
theorem SesAt.turn {w w' : World} {F G : Nat → Prop} : ∀ {l : List (Nat × Nat × List UInt8)} {cs : List Value}, SesAt w F cs l → Turn w w' G → (∀ k, F k → ¬ G k) → SesAt w' F cs l
  | [], _, h, _, _ => h
  | x :: r, _, h, ht, hG => ⟨h.1.turn ht hG, h.2.turn ht hG⟩
theorem SesAt.mono {w : World} {F G : Nat → Prop} : ∀ {l : List (Nat × Nat × List UInt8)} {cs : List Value}, SesAt w F cs l → (∀ k, k < w.heap.size → F k → G k) → SesAt w G cs l
  | [], _, h, _ => h
  | x :: r, _, h, hF => ⟨h.1.mono hF, h.2.mono hF⟩
theorem SesAt.one {w : World} {F : Nat → Prop} : ∀ {l : List (Nat × Nat × List UInt8)} {cs : List Value}, SesAt w F cs l → ∀ v ∈ cs, v.oneCell' = true
  | [], cs, h, v, hv => by
    rw [show cs = [] from h] at hv
    cases hv
  | x :: r, cs, h, v, hv => by
    obtain ⟨⟨u, h1, h2, -⟩, h3⟩ := h
    rw [← List.take_append_drop 3 cs, List.mem_append] at hv
    rcases hv with hv | hv
    · rw [h1] at hv
      simp at hv
      rcases hv with rfl | rfl | rfl
      · rfl
      · rfl
      · exact h2.one
    · exact h3.one v hv
theorem TrAt.turn {w w' : World} {F G : Nat → Prop} {cs : List Value} {t : Tr} (h : TrAt w F cs t) (ht : Turn w w' G) (hG : ∀ k, F k → ¬ G k) : TrAt w' F cs t := by
  obtain ⟨nv, ss, h0, h1, h2, h3⟩ := h
  exact ⟨nv, ss, h0, h1.turn ht hG, h2.turn ht hG, h3⟩
theorem TrAt.below {w w' : World} {F : Nat → Prop} {cs : List Value} {t : Tr} (h : TrAt w F cs t) (hb : Below w.heap.size w w') : TrAt w' F cs t := h.turn (Turn.of_below hb fun _ => False) fun _ _ h => h
theorem TrAt.mono {w : World} {F G : Nat → Prop} {cs : List Value} {t : Tr} (h : TrAt w F cs t) (hF : ∀ k, k < w.heap.size → F k → G k) : TrAt w G cs t := by
  obtain ⟨nv, ss, h0, h1, h2, h3⟩ := h
  exact ⟨nv, ss, h0, h1.mono hF, h2.mono hF, h3⟩
theorem TrAt.one {w : World} {F : Nat → Prop} {cs : List Value} {t : Tr} (h : TrAt w F cs t) : ∀ v ∈ cs, v.oneCell' = true := by
  obtain ⟨nv, ss, rfl, h1, h2, -⟩ := h
  intro u hu
  simp only [List.mem_cons] at hu
  rcases hu with rfl | rfl | rfl | rfl | hu
  · exact h1.one
  · rfl
  · rfl
  · rfl
  · exact h2.one u hu
theorem TrAt.len {w : World} {F : Nat → Prop} {cs : List Value} {t : Tr} (h : TrAt w F cs t) : cs.length = 16 := by
  obtain ⟨nv, ss, rfl, -, -, -, h3, -⟩ := h
  simp [h3]
theorem ent_at {w : World} {F : Nat → Prop} {A : Option Addr} {ls : List Ent} (h : RdX entE w F A ls) (j : Nat) (hj : j < ls.length) : ∃ b off, A = some ⟨b, off, none⟩ ∧ w.cell? ⟨b, off + j * 2, none⟩ = some (sv ls[j].1) ∧ w.cell? ⟨b, off + j * 2 + 1, none⟩ = some (.int .u32 (ls[j].2 : Int)) ∧ ls[j].2 < 4294967296 := by
  obtain ⟨b, off, cs, e, ⟨rfl, h1⟩, hat⟩ := h.get j hj
  exact ⟨b, off, e, hat 0 _ rfl, hat 1 _ rfl, h1⟩

end Go.Proofs.YtenpmbfncnepgaaDoor

/- The reference: the same node? -/
namespace Go.Proofs.YtenpmbfncnepgaaDoor
open Go.RowKit Go.Shelf
set_option linter.unusedVariables false
set_option maxRecDepth 100000
set_option linter.unusedSimpArgs false

/-- the same node? -/
def sameN (a b : Nd) : Bool := decide (a.ino = b.ino) && (decide (a.gen = b.gen) && ((a.dir == b.dir) && (decide (a.chg = b.chg) && ((a.data == b.data) && decide (a.names = b.names)))))
theorem sameN_iff {a b : Nd} : sameN a b = true ↔ a = b := by
  obtain ⟨a1, a2, a3, a4, a5, a6⟩ := a
  obtain ⟨b1, b2, b3, b4, b5, b6⟩ := b
  simp [sameN, and_assoc]
end Go.Proofs.YtenpmbfncnepgaaDoor

/- What layer 13's laws take of the program: its contracts, as one bundle. -/
namespace Go.Proofs.YtenpmbfncnepgaaDoor
open Go.RowKit Go.Shelf
set_option linter.unusedVariables false
set_option maxRecDepth 100000
set_option linter.unusedSimpArgs false

def hdC (h : Nat × Nat) : List Value := [.int .u32 (h.1 : Int), .int .u32 (h.2 : Int)]
abbrev Hd32 (h : Nat × Nat) : Prop := h.1 < 4294967296 ∧ h.2 < 4294967296
/-- a tree's cells, a node's, wherever they reach -/
abbrev TrV (w : World) (cs : List Value) (t : Tr) : Prop := TrAt w (· < w.heap.size) cs t
abbrev NdV (w : World) (cs : List Value) (n : Nd) : Prop := NdAt w (· < w.heap.size) cs n
theorem TrAt.later {w w' : World} {cs : List Value} {t : Tr} (h : TrV w cs t) (hb : Below w.heap.size w w') : TrV w' cs t := (h.below hb).mono fun k _ hk => Nat.lt_of_lt_of_le hk hb.size
theorem NdAt.later {w w' : World} {cs : List Value} {n : Nd} (h : NdV w cs n) (hb : Below w.heap.size w w') : NdV w' cs n := (h.below hb).mono fun k _ hk => Nat.lt_of_lt_of_le hk hb.size
open Classical in
noncomputable def findV (t : Tr) (h : Nat × Nat) : Option Nd := if MayT t then findT t.nodes h else none
open Classical in
noncomputable def lookupT (t : Tr) (h : Nat × Nat) (nm : Key) : Nd × Nat :=
  if MayT t then
    match findT t.nodes h with
    | none => (nd0, 1)
    | some d =>
      if d.dir = false then (nd0, 4) else
      if nameL nm = false then (nd0, 8) else
      match inE d.names nm with
      | none => (nd0, 2)
      | some x => ((nodeT t.nodes x).getD nd0, 0)
  else (nd0, 8)
/-- memory of one's own, or made since -/
def NewF (F : Nat → Prop) (w : World) : Nat → Prop := fun k => F k ∨ w.heap.size ≤ k
/-- what an op answers -/
def GivesT (F : Nat → Prop) (r : Tr × Nat) (w : World) (e : Ending) (w' : World) : Prop := ∃ cs, e = .returned (.tuple #[.agg cs.toArray, .int .u8 (r.2 : Int)]) ∧ TrAt w' (NewF F w) cs r.1 ∧ Below w.heap.size w w'
structure K13 : Prop where
  new : ∀ (w : World), Calls Tryd.prog 5 #[] w fun e w' => ∃ cs, e = .returned (.agg cs.toArray) ∧ TrAt w' (w.heap.size ≤ ·) cs newT ∧ Below w.heap.size w w'
  may : ∀ (t : Tr) (cs : List Value) (F : Nat → Prop) (w : World), Tabs w → TrAt w F cs t → MayT t → Calls Tryd.prog 38 #[.agg cs.toArray] w fun e w' => ∃ b, e = .returned (.bool b) ∧ (b = true ↔ MayT t) ∧ Below w.heap.size w w'
  find : ∀ (t : Tr) (cs : List Value) (h : Nat × Nat) (F : Nat → Prop) (w : World), Tabs w → TrAt w F cs t → Hd32 h → MayT t → Calls Tryd.prog 8 #[.agg cs.toArray, .agg (hdC h).toArray] w fun e w' => ∃ ds, e = .returned (.tuple #[.agg ds.toArray, .bool (findV t h).isSome]) ∧ NdAt w' (NewF F w) ds ((findV t h).getD nd0) ∧ Below w.heap.size w w'
  lookup : ∀ (t : Tr) (cs : List Value) (h : Nat × Nat) (nm : Key) (F : Nat → Prop) (w : World), Tabs w → TrAt w F cs t → Hd32 h → MayT t → Calls Tryd.prog 31 #[.agg cs.toArray, .agg (hdC h).toArray, sv nm] w fun e w' => ∃ ds, e = .returned (.tuple #[.agg ds.toArray, .int .u8 ((lookupT t h nm).2 : Int)]) ∧ NdAt w' (NewF F w) ds (lookupT t h nm).1 ∧ Below w.heap.size w w'
  make : ∀ (t : Tr) (cs : List Value) (h : Nat × Nat) (nm : Key) (dir : Bool) (F : Nat → Prop) (w : World), Tabs w → TrAt w F cs t → Hd32 h → MayT t → Calls Tryd.prog 4 #[.agg cs.toArray, .agg (hdC h).toArray, sv nm, .bool dir] w fun e w' => ∃ ts ds, e = .returned (.tuple #[.agg ts.toArray, .agg ds.toArray, .int .u8 ((makeT t h nm dir).2.2 : Int)]) ∧ TrAt w' (NewF F w) ts (makeT t h nm dir).1 ∧ NdAt w' (NewF F w) ds (makeT t h nm dir).2.1 ∧ Below w.heap.size w w'
  remove : ∀ (t : Tr) (cs : List Value) (h : Nat × Nat) (nm : Key) (dir : Bool) (F : Nat → Prop) (w : World), Tabs w → TrAt w F cs t → Hd32 h → MayT t → Calls Tryd.prog 32 #[.agg cs.toArray, .agg (hdC h).toArray, sv nm, .bool dir] w fun e w' => GivesT F (removeT t h nm dir) w e w'
  rename : ∀ (t : Tr) (cs : List Value) (h : Nat × Nat) (nm : Key) (to : Nat × Nat) (k : Key) (F : Nat → Prop) (w : World), Tabs w → TrAt w F cs t → Hd32 h → Hd32 to → MayT t → Calls Tryd.prog 33 #[.agg cs.toArray, .agg (hdC h).toArray, sv nm, .agg (hdC to).toArray, sv k] w fun e w' => GivesT F (renameT t h nm to k) w e w'
  write : ∀ (t : Tr) (cs : List Value) (h : Nat × Nat) (off : Nat) (dv : Value) (b : List UInt8) (F G : Nat → Prop) (w : World), Tabs w → TrAt w F cs t → Hd32 h → off < 4294967296 → BsV w G dv b → MayT t → Calls Tryd.prog 7 #[.agg cs.toArray, .agg (hdC h).toArray, .int .u32 (off : Int), dv] w fun e w' => GivesT F (writeT t h off b) w e w'
/-! ### what the laws' own trees come to -/
theorem findT_at {t : Tr} (h : MayT t) {d : Nd} (hd : d ∈ t.nodes) : findV t (d.ino, d.gen) = some d := by
  unfold findV
  rw [if_pos h]
  exact (findT_some h.rise).2 ⟨hd, rfl, rfl⟩
def nmA : Key := [97]
def nmB : Key := [98]
def nmF : Key := [102]
theorem name_a : nameL nmA = true := by decide
theorem name_b : nameL nmB = true := by decide
theorem name_f : nameL nmF = true := by decide
/-- a file of a new tree -/
def fileT (nm : Key) : Tr := madeT newT 1 nm false
theorem fileT_is (nm : Key) : fileT nm = ⟨[⟨1, 1, true, 4294967298, [], [(nm, 2)]⟩, ⟨2, 2, false, 4294967298, [], []⟩], 2, 1, 2, newT.sess⟩ := by rfl
theorem make_file {nm : Key} (h : nameL nm = true) : makeT newT (1, 1) nm false = (fileT nm, newN newT false, 0) := by
  unfold makeT
  rw [if_pos may_new]
  show (if (true : Bool) = false then _ else if nameL nm = false then _ else _) = _
  rw [if_neg (by decide), h, if_neg (by decide)]
  rfl
theorem may_file {nm : Key} (h : nameL nm = true) : MayT (fileT nm) := by
  have := (step_make may_new (1, 1) nm false).may
  rw [make_file h] at this
  exact this

end Go.Proofs.YtenpmbfncnepgaaDoor

/- What a file of a new tree comes to: made, written, removed, renamed. Of no program. -/
namespace Go.Proofs.YtenpmbfncnepgaaDoor
open Go.RowKit Go.Shelf
set_option linter.unusedVariables false
set_option maxRecDepth 100000
set_option linter.unusedSimpArgs false

theorem may_a : MayT (fileT nmA) := may_file name_a
theorem look_a : lookupT (fileT nmA) (1, 1) nmA = (⟨2, 2, false, 4294967298, [], []⟩, 0) := by
  unfold lookupT
  rw [if_pos may_a]
  show (if (true : Bool) = false then _ else if nameL nmA = false then _ else _) = _
  rw [if_neg (by decide), name_a, if_neg (by decide)]
  rfl
theorem again_a : makeT (fileT nmA) (1, 1) nmA false = (fileT nmA, nd0, 3) := by
  unfold makeT
  rw [if_pos may_a]
  show (if (true : Bool) = false then _ else if nameL nmA = false then _ else _) = _
  rw [if_neg (by decide), name_a, if_neg (by decide)]
  rfl
def wroteT : Tr := dataT (fileT nmA) 2 fun l => putB l 3 [7, 8]
theorem wrote_is : wroteT = ⟨[⟨1, 1, true, 4294967298, [], [(nmA, 2)]⟩, ⟨2, 2, false, 4294967299, [0, 0, 0, 7, 8], []⟩], 2, 1, 3, newT.sess⟩ := by rfl
theorem write_a : writeT (fileT nmA) (2, 2) 3 [7, 8] = (wroteT, 0) := by
  unfold writeT
  rw [if_pos may_a]
  show (if (false : Bool) = true then _ else if ([7, 8] : List UInt8) = [] ∨ 64 < ([7, 8] : List UInt8).length ∨ 4096 < 3 + ([7, 8] : List UInt8).length then _ else _) = _
  rw [if_neg (by decide), if_neg (by decide), if_neg (by decide)]
  rfl
theorem may_b : MayT wroteT := by
  have := (step_write may_a (2, 2) 3 [7, 8]).may
  rw [write_a] at this
  exact this
theorem find_b : findV wroteT (2, 2) = some ⟨2, 2, false, 4294967299, [0, 0, 0, 7, 8], []⟩ := by
  unfold findV
  rw [if_pos may_b]
  rfl
theorem gone_b : (removeT wroteT (1, 1) nmA false).2 = 0 := by
  unfold removeT
  rw [if_pos may_b]
  show (if (true : Bool) = false then _ else if nameL nmA = false then _ else _ : Tr × Nat).2 = _
  rw [if_neg (by decide), name_a, if_neg (by decide)]
  rfl
theorem none_b : (removeT newT (1, 1) nmA false).2 = 2 := by
  unfold removeT
  rw [if_pos may_new]
  show (if (true : Bool) = false then _ else if nameL nmA = false then _ else _ : Tr × Nat).2 = _
  rw [if_neg (by decide), name_a, if_neg (by decide)]
  rfl
def movedT : Tr := renamedT wroteT 1 nmA 1 nmB 2 none
theorem under_b : ¬ Under wroteT.nodes 2 1 := fun h => by
  have := under_leaf (a := ⟨2, 2, false, 4294967299, [0, 0, 0, 7, 8], []⟩) may_b.rise (by rw [wrote_is]; simp) rfl h
  cases this
theorem move_b : renameT wroteT (1, 1) nmA (1, 1) nmB = (movedT, 0) := by
  have e1 : findT wroteT.nodes (1, 1) = some ⟨1, 1, true, 4294967298, [], [(nmA, 2)]⟩ := rfl
  have e2 : inE [(nmA, 2)] nmA = some 2 := rfl
  have e3 : inE [(nmA, 2)] nmB = none := rfl
  have e4 : nodeT wroteT.nodes 2 = some ⟨2, 2, false, 4294967299, [0, 0, 0, 7, 8], []⟩ := rfl
  have e5 : wroteT.count = 3 := rfl
  unfold renameT
  rw [if_pos may_b]
  simp [e1, e2, e3, e4, e5, name_a, name_b, ontoS]
  rfl
theorem may_c : MayT movedT := by
  have := (step_rename may_b (1, 1) nmA (1, 1) nmB).may
  rw [move_b] at this
  exact this
theorem look_c : (lookupT movedT (1, 1) nmB).2 = 0 ∧ (lookupT movedT (1, 1) nmB).1.ino = 2 := by
  have e : lookupT movedT (1, 1) nmB = (⟨2, 2, false, 4294967299, [0, 0, 0, 7, 8], []⟩, 0) := by
    unfold lookupT
    rw [if_pos may_c]
    show (if (true : Bool) = false then _ else if nameL nmB = false then _ else _) = _
    rw [if_neg (by decide), name_b, if_neg (by decide)]
    rfl
  rw [e]
  exact ⟨rfl, rfl⟩

end Go.Proofs.YtenpmbfncnepgaaDoor

/- Devices for layer 13's laws: a region that draws its order, cut off from what follows it; what a call yields, laid into variables made in the same region. -/
namespace Go.Proofs.YtenpmbfncnepgaaDoor
open Go.RowKit Go.Shelf
set_option linter.unusedVariables false
set_option maxRecDepth 100000
set_option linter.unusedSimpArgs false

section
variable {P : Program} {ops : Array Oper} {Q : Exit → Act → World → Prop} {md : Region.Mode}
/-- a piece of code, cut off from what follows -/
theorem code_cut {c : Code} {a : Act} {w : World} (R : Act → Act → World → Prop) (h1 : c.wp P (fun e a' w' => e = .normal ∧ R a a' w') a w) (h2 : ∀ a' w', R a a' w' → Q .normal a' w') : c.wp P Q a w :=
  Go.wp_mono h1 fun e a' w' ⟨e1, e2⟩ => by subst e1; exact h2 a' w' e2
/-- whichever of them comes -/
theorem wpAnyV_all {bs : List Nat} {S : World → Prop} {fuel : Nat} {listed : Array Bool} {a : Act} {l : List Nat} (hr : Region.ready md ops listed = l) (hne : l ≠ [])
    (h : ∀ i ∈ l, ∀ w, S w → wpOp P ops Q i (fun a' w' => ∃ (S' : World → Prop), S' w' ∧ Kept S' ∧ (i ∉ bs → ∀ u, S' u → S u) ∧ wpAnyV P md ops Q bs S' fuel (listed.setIfInBounds i true) a') a w) : wpAnyV P md ops Q bs S (fuel + 1) listed a :=
  ⟨fun e => absurd (hr.symm.trans e) hne, fun i hi => by rw [hr] at hi; exact h i hi⟩
theorem wpOp_at {i : Nat} {o : Oper} {a : Act} {w : World} {K : Act → World → Prop} (hi : ops[i]? = some o) (hg : o.guard = none) (h : o.wp P a w K Q) : wpOp P ops Q i K a w := by
  unfold wpOp
  simp only [hi]
  have : Region.wanted o (yielded ops a.tmps) = true := by simp [Region.wanted, hg]
  rw [if_pos this]
  exact .inl h
/-- the next world's class -/
theorem next_V {bs : List Nat} {i fuel : Nat} {listed : Array Bool} {a : Act} {u0 w w' : World} (hS : Below u0.heap.size u0 w) (hb : Below w.heap.size w w') (h : wpAnyV P md ops Q bs (Below w'.heap.size w') fuel listed a) :
    ∃ (S' : World → Prop), S' w' ∧ Kept S' ∧ (i ∉ bs → ∀ u, S' u → Below u0.heap.size u0 u) ∧ wpAnyV P md ops Q bs S' fuel listed a :=
  ⟨_, Below.refl _ _, kept_below _, fun _ u hu => below_chain (below_chain hS hb) hu, h⟩
/-- .. behind a barrier -/
theorem next_B {bs : List Nat} {i fuel : Nat} {listed : Array Bool} {a : Act} {w' : World} {S : World → Prop} (hi : i ∈ bs) (h : wpAnyV P md ops Q bs (Below w'.heap.size w') fuel listed a) :
    ∃ (S' : World → Prop), S' w' ∧ Kept S' ∧ (i ∉ bs → ∀ u, S' u → S u) ∧ wpAnyV P md ops Q bs S' fuel listed a :=
  ⟨_, Below.refl _ _, kept_below _, fun hn => absurd hi hn, h⟩
theorem DoesV.loadT {T : World → Prop} {o : Oper} {a : Act} (hw : Region.wanted o (yielded ops a.tmps) = true) (ty : TypeId) (x : Operand) (ho : o.op = .load ty x) (b f : Nat) (hx : a.eval x = .pointer (some ⟨b, f, none⟩)) (cs : List Value) (hc : ∀ w, T w → At w b f cs) (d : TypeDesc) (hu : P.underlying ty = some d)
    (hd : (match d with | .struct _ | .array _ _ => true | _ => false) = true) (hi : (P.info? ty).map (·.size) = some cs.length) : DoesV P ops T o (.agg cs.toArray) a :=
  DoesV.reads hw fun w hT => by
    unfold execOp
    simp only [ho, hx, Instr.loadAt, Instr.sureAddr, Sem.run_bind, Sem.run_pure, Result.andThen_ok, run_loadVar_at w ty b f cs (hc w hT) d hu hd hi]
end
theorem kept_size (n : Nat) : Kept fun u => n ≤ u.heap.size := fun w w' h hb => Nat.le_trans h hb.size
theorem kept_nd (F : Nat → Prop) (ds : List Value) (n : Nd) : Kept fun u => NdAt u F ds n := fun w w' h hb => h.below hb
theorem kept_tr (F : Nat → Prop) (cs : List Value) (t : Tr) : Kept fun u => TrAt u F cs t := fun w w' h hb => h.below hb
/-- what a call in a region reaches: what lay ahead of the region, or what it made itself -/
def Gap (W y u : World) : Nat → Prop := fun k => (k < W.heap.size ∨ y.heap.size ≤ k) ∧ k < u.heap.size
theorem NdAt.gap {W y u : World} {ds : List Value} {n : Nd} (h : NdAt u (NewF (· < W.heap.size) y) ds n) : NdAt u (Gap W y u) ds n := h.mono fun k hk hh => ⟨hh, hk⟩
theorem TrAt.gap {W y u : World} {cs : List Value} {t : Tr} (h : TrAt u (NewF (· < W.heap.size) y) cs t) : TrAt u (Gap W y u) cs t := h.mono fun k hk hh => ⟨hh, hk⟩
section
variable {w : World} {ops : Array Oper} {rest : List Oper} {o : Oper} {a : Act} {Q : Exit → Act → World → Prop}
theorem bytes_new (w : World) (l : List UInt8) (n : Nat) (hn : l.length = n) (hm : n ≤ maxLen) : BsV (w.alloc (.cells (l.map fun c => Value.int .u8 (c.toNat : Int)).toArray 5)) (fun _ => True) (.slice (some ⟨w.heap.size, 0, none⟩) n n) l := by
  subst hn
  exact ⟨_, _, rfl, Rd.f (rd_cs (Cs.new w 5 _) rfl) fun _ _ _ _ => trivial, (fun h => by cases h), Nat.le_refl _, hm⟩
theorem wpList_buildB2 (hw : Region.wanted o (yielded ops a.tmps) = true) (x y : Operand) (ho : o.op = .buildSlice 26 2 #[(0, x), (1, y)]) (m n : UInt8) (hx : a.eval x = .int .u8 (m.toNat : Int)) (hy : a.eval y = .int .u8 (n.toNat : Int))
    (hK : ∀ g w', BsV w' (fun _ => True) (.slice (some ⟨g, 0, none⟩) 2 2) [m, n] → Below w.heap.size w w' → wpList Tryd.prog ops Q rest (a.put o.dst (.slice (some ⟨g, 0, none⟩) 2 2)) w') : wpList Tryd.prog ops Q (o :: rest) a w := by
  refine wpList_step fun K hh => ?_
  rw [if_pos hw]
  refine (wp_of_run2 (v := .slice (some ⟨w.heap.size, 0, none⟩) 2 2) (w' := w.alloc (.cells #[.int .u8 (m.toNat : Int), .int .u8 (n.toNat : Int)] 5)) ?_ (hh _ _ (hK _ _ (bytes_new w [m, n] 2 rfl (by decide)) ((Below.refl _ _).alloc (Nat.le_refl _) _))))
  unfold execOp
  simp only [ho, hx, hy, List.map_toArray, List.map_cons, List.map_nil]
  go_simp
theorem wpList_buildB5 (hw : Region.wanted o (yielded ops a.tmps) = true) (x1 x2 x3 x4 x5 : Operand) (ho : o.op = .buildSlice 26 5 #[(0, x1), (1, x2), (2, x3), (3, x4), (4, x5)]) (n1 n2 n3 n4 n5 : UInt8)
    (h1 : a.eval x1 = .int .u8 (n1.toNat : Int)) (h2 : a.eval x2 = .int .u8 (n2.toNat : Int)) (h3 : a.eval x3 = .int .u8 (n3.toNat : Int)) (h4 : a.eval x4 = .int .u8 (n4.toNat : Int)) (h5 : a.eval x5 = .int .u8 (n5.toNat : Int))
    (hK : ∀ g w', BsV w' (fun _ => True) (.slice (some ⟨g, 0, none⟩) 5 5) [n1, n2, n3, n4, n5] → Below w.heap.size w w' → wpList Tryd.prog ops Q rest (a.put o.dst (.slice (some ⟨g, 0, none⟩) 5 5)) w') : wpList Tryd.prog ops Q (o :: rest) a w := by
  refine wpList_step fun K hh => ?_
  rw [if_pos hw]
  refine (wp_of_run2 (v := .slice (some ⟨w.heap.size, 0, none⟩) 5 5) (w' := w.alloc (.cells #[.int .u8 (n1.toNat : Int), .int .u8 (n2.toNat : Int), .int .u8 (n3.toNat : Int), .int .u8 (n4.toNat : Int), .int .u8 (n5.toNat : Int)] 5)) ?_ (hh _ _ (hK _ _ (bytes_new w [n1, n2, n3, n4, n5] 5 rfl (by decide)) ((Below.refl _ _).alloc (Nat.le_refl _) _))))
  unfold execOp
  simp only [ho, h1, h2, h3, h4, h5, List.map_toArray, List.map_cons, List.map_nil]
  go_simp
end
def treeZ : List Value := [.slice none 0 0, .int .u32 0, .int .u32 0, .int .u32 0, .int .u32 0, .int .u64 0, .slice none 0 0, .int .u32 0, .int .u64 0, .slice none 0 0, .int .u32 0, .int .u64 0, .slice none 0 0, .int .u32 0, .int .u64 0, .slice none 0 0]
def nodeZ : List Value := [.int .u32 0, .int .u32 0, .bool false, .int .u64 0, .slice none 0 0, .slice none 0 0]
theorem treeZero (w : World) : (zeroValue 31).run Tryd.prog w = .ok (.agg treeZ.toArray) w := by kernel_rfl
theorem nodeZero (w : World) : (zeroValue 34).run Tryd.prog w = .ok (.agg nodeZ.toArray) w := by kernel_rfl
theorem infoHandle : (Tryd.prog.info? 39).map (·.size) = some 2 := by kernel_rfl
set_option maxHeartbeats 1000000 in
theorem root_v (w : World) : Calls Tryd.prog 6 #[] w fun e w' => e = .returned (.agg (hdC (1, 1)).toArray) ∧ Below w.heap.size w w' := by
  go_enter Tryd.func6, Tryd.ntmps6
  go_wp2_with (first
    | ((with_reducible show wpList _ _ _ _ _ w); refine wpList_allocS rfl 39 rfl (hdC (0, 0)) (fun w => by kernel_rfl) ?_; intro g1 w1 hk1 hb1 hg1; go_frame; have C1 := Lib.hid hk1; have B1 := Lib.hid hb1; have G1 := Lib.hid hg1; clear hk1 hb1 hg1)
    | ((with_reducible show wpList _ _ _ _ _ w1); refine wpList_storeS rfl 39 _ _ rfl g1 rfl (hdC (1, 1)) (hdC (0, 0)) rfl C1.out rfl (by intro v hv; simp [hdC] at hv; rcases hv with rfl | rfl <;> rfl) infoHandle ?_; intro w2 hk2 ht2; go_frame; have C2 := Lib.hid hk2; have B2 := Lib.hid (below_turn B1.out ht2 B1.out.size G1.out); clear hk2 ht2)
    | fail)
  refine bodyPost_ret (results_agg (P := Tryd.prog) (p := 0) (ty := 39) rfl _ _ g1 0 (hdC (1, 1)) rfl (At.whole C2.out) _ Tryd.underlying39 rfl infoHandle) rfl ?_
  exact ⟨rfl, B2.out⟩

end Go.Proofs.YtenpmbfncnepgaaDoor
