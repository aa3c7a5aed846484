/- SWEPT -/
import Derived.BigQuiet
import Derived.ChangeArms
import Derived.ChangeSame
import Derived.Deep.Slices
import Derived.Deep.Strs
import Derived.Laws.BitsAllLaws
import Derived.Lib.LazyBuf
import Derived.Sort.Walk0
import Derived.Test.YtdhlejhflkfoaaaDoorKB2
import Derived.Test.YtdhlejhflkfoaaaDoorKB1
import Derived.Lib.AppendStr
/- TblK: Typed TypedW Lists BatPlain BatPlain2 BatPlain3 Tbl TblSame TblArgs. -/
/- Rows of bytes whose spare room is bytes, too: append, Clone, Wide, Spoil. -/
namespace Go.Proofs.YtdhlejhflkfoaaaDoor
open Go.RowKit Go.Shelf
set_option linter.unusedVariables false
set_option maxRecDepth 100000
set_option linter.unusedSimpArgs false

/-- nothing, or the head of a block of bytes, the room behind it, too -/
def TyB (w : World) (v : Value) : Prop := v = .slice none 0 0 ∨ ∃ g n cap cur, v = .slice (some ⟨g, 0, none⟩) n cap ∧ Cs w g 5 cur ∧ cur.size = cap ∧ cap ≤ maxLen ∧ cur.toList.all isU8 = true
theorem TyB.turn {w w' : World} {v : Value} {G : Nat → Prop} (h : TyB w v) (ht : Turn w w' G) (hG : ∀ k, v.ownBlock = some k → ¬ G k) : TyB w' v := by
  rcases h with h | ⟨g, n, cap, cur, rfl, hc, h1, h2, h3⟩
  · exact .inl h
  · exact .inr ⟨g, n, cap, cur, rfl, hc.turn ht (hG g rfl), h1, h2, h3⟩
theorem TyB.below {w w' : World} {v : Value} (h : TyB w v) (hb : Below w.heap.size w w') : TyB w' v := h.turn (Turn.of_below hb fun _ => False) fun _ _ h => h
theorem TyB.len {w : World} {g n m cap : Nat} (h : TyB w (.slice (some ⟨g, 0, none⟩) n cap)) : TyB w (.slice (some ⟨g, 0, none⟩) m cap) := by
  rcases h with h | ⟨g, n, cap, cur, h, r⟩
  · cases h
  · cases h
    exact .inr ⟨_, _, _, _, rfl, r⟩
theorem zeroCells_u8 (n : Nat) : (Builtin.zeroCells (Value.int .u8 0).cells n).toList.all isU8 = true := by
  rw [List.all_eq_true]
  intro v hv
  have : v = .int .u8 0 := by
    obtain ⟨i, hi, e⟩ := List.getElem_of_mem hv
    simp [Builtin.zeroCells, Value.cells, Nat.mod_one] at e
    exact e.symm
  subst this
  rfl
theorem append_ty {w : World} (ty : TypeId) {base n : Nat} {v : Value} {xs l : List UInt8} (hown : w.ownsRow base 5 1 v n (cellsOf xs)) (hty : TyB w v) (ad : Addr) (c : Nat) (hnews : ∀ j u, (cellsOf l)[j]? = some u → w.cell? (ad.add j) = some u) (hb : n + l.length ≤ 140737488355328)
    {v' : Value} {w' : World} (hrun : (Builtin.append_ #[25, 25] ty #[v, .slice (some ad) l.length c]).run Tryd.prog w = .ok v' w') : TyB w' v' := by
  obtain ⟨i0, hi, hz0, hz1, hz2⟩ := info_parts Try_info5
  have hcl := cellsOf_length l
  have hml : n + l.length ≤ maxLen := by simp only [maxLen]; omega
  have huxs := cells_u8 xs
  have hul := cells_u8 l
  have hlen := hown.1
  rw [Nat.mul_one] at hlen
  have grown : ∀ (old : Nat), TyB (w.drew.alloc (.cells ((cellsOf xs).toArray ++ (cellsOf l).toArray ++ Builtin.zeroCells (Value.int .u8 0).cells (grownCap w (n + l.length) old 5 - (n + l.length))) 5)) (.slice (some ⟨w.heap.size, 0, none⟩) (n + l.length) (grownCap w (n + l.length) old 5)) := fun old => by
    have hge := grownCap_ge w (n + l.length) old 5
    refine .inr ⟨_, _, _, _, rfl, heap_alloc_new w.drew _, ?_, grownCap_le_maxLen w _ old _ hml, ?_⟩
    · simp only [Array.size_append, List.size_toArray, size_zeroCells, hlen, hcl, Value.cells]
      simp only [List.size_toArray, List.length_cons, List.length_nil]
      omega
    · simp only [Array.toList_append, List.all_append, huxs, hul, zeroCells_u8, Bool.and_true]
  rcases hown.2 with ⟨rfl, rfl⟩ | ⟨g, cap, cur, rfl, hbg, hg, hnc, hcm, hcs, htake⟩
  · have hx : cellsOf xs = [] := List.eq_nil_of_length_eq_zero (by simpa using hown.1)
    by_cases hm : l.length = 0
    · have hl : l = [] := List.eq_nil_of_length_eq_zero hm
      subst hl
      have e1 : (Builtin.append_ #[25, 25] ty #[.slice none 0 0, .slice (some ad) ([] : List UInt8).length c]).run Tryd.prog w = .ok (.slice none 0 0) w := by
        simp [Builtin.append_, run_underlying Tryd.underlying25, sizeOf, typeInfo, hi, Builtin.lenOf, Builtin.firstCells, loadCells, loadCellsFrom]
      rw [e1] at hrun
      cases hrun
      exact .inl rfl
    · have hr := run_append_nil (P := Tryd.prog) w 25 ty 5 i0 (.int .u8 0) Tryd.underlying25 hi hz0 ad l.length c (cellsOf l) (by rw [hcl, hz1, Nat.mul_one]) hnews (by omega) (by omega) (by rw [hz2]; omega)
      rw [hr] at hrun
      cases hrun
      have := grown 0
      rw [hx, Nat.zero_add] at this
      simpa using this
  · by_cases hroom : n + l.length ≤ cap
    · have hfit : n * i0.size + (cellsOf l).length ≤ cur.size := by rw [hcl, hcs, hz1]; omega
      have hr := run_append_room (P := Tryd.prog) w 25 ty 5 i0 Tryd.underlying25 hi g n cap cur hg ad l.length c (cellsOf l) (by rw [hcl, hz1, Nat.mul_one]) hnews (cellsOf_one l) hroom hfit
      rw [hr] at hrun
      cases hrun
      have hcur : cur.toList.all isU8 = true := by
        rcases hty with h | ⟨g', n', cap', cur', h, hc', -, -, h3⟩
        · cases h
        · cases h
          have : cur' = cur := by
            unfold Cs at hc'
            rw [hg] at hc'
            cases hc'
            rfl
          rwa [this] at h3
      refine .inr ⟨g, _, cap, _, rfl, setRow_heap w g cur _ 5 _ hg, ?_, hcm, ?_⟩
      · simp only [List.size_toArray, List.length_append, List.length_take, List.length_drop, Array.length_toList]
        omega
      · rw [List.all_eq_true] at hcur
        simp only [List.all_append, hul, Bool.and_eq_true, Bool.true_and, and_true, List.all_eq_true]
        exact ⟨fun x hx => hcur x (List.mem_of_mem_take hx), fun x hx => hcur x (List.mem_of_mem_drop hx)⟩
    · have holds : ∀ j u, (cellsOf xs)[j]? = some u → w.cell? ((⟨g, 0, none⟩ : Addr).add j) = some u := hown.cells (g := g) rfl
      have hr := run_append_grow (P := Tryd.prog) w 25 ty 5 i0 (.int .u8 0) Tryd.underlying25 hi hz0 ⟨g, 0, none⟩ n cap (cellsOf xs) (by rw [hlen, hz1, Nat.mul_one]) holds ad l.length c (cellsOf l) (by rw [hcl, hz1, Nat.mul_one]) hnews (by omega) (by omega) (growslice_fits (by omega) (by rw [hz2]; omega))
      rw [hr] at hrun
      cases hrun
      exact grown cap
/-- append of bytes to a row of bytes -/
theorem append_rd_ty {w : World} {ops : Array Oper} {rest : List Oper} {o : Oper} {a : Act} {Q : Exit → Act → World → Prop} (hgd : o.guard = none) (s x : Operand)
    (ho : o.op = .call { callee := .builtin .append, args := #[s, x], argTypes := #[25, 25] })
    (base : Nat) (v : Value) (n : Nat) (xs : List UInt8) (hs : a.eval s = v) (hown : w.ownsRow base 5 1 v n (cellsOf xs)) (hty : TyB w v)
    (A : Option Addr) (l : List UInt8) (m c : Nat) (hm : m = l.length) (hx : a.eval x = .slice A m c) (hr : Rd w A l) (hA : A = none → l = [] ∧ c = 0) (hb : n + m ≤ 140737488355328) (hbase : base ≤ w.heap.size)
    (h : ∀ v' w', w'.ownsRow base 5 1 v' (n + m) (cellsOf (xs ++ l)) → TyB w' v' → w.grownBy w' v.ownBlock → wpList Tryd.prog ops Q rest (a.put o.dst v') w') : wpList Tryd.prog ops Q (o :: rest) a w := by
  obtain ⟨i0, hi, hz0, hz1, hz2⟩ := info_parts Try_info5
  subst hm
  rcases A with _ | ad
  · obtain ⟨rfl, rfl⟩ := hA rfl
    refine wpList_append_own_none hgd s x 25 ho base 5 i0 1 Tryd.underlying25 hi v n (cellsOf xs) hs hown hx ?_
    refine h v w ?_ hty (World.grownBy.refl w _)
    rw [List.append_nil]
    exact hown
  · obtain ⟨v', w', hrun, r1, r2, r3⟩ := run_append_own (P := Tryd.prog) w base 25 o.type 5 i0 (.int .u8 0) 1 1 Tryd.underlying25 hi hz0 hz1 hz2 rfl (by decide) v n (cellsOf xs) hown ad l.length c (cellsOf l) (by rw [cellsOf_length, Nat.mul_one]) (rd_cells hr) (cellsOf_one l) (by simp only [maxLen]; omega) (by omega) hbase
    have hty' := append_ty o.type hown hty ad c (rd_cells hr) hb hrun
    refine wpList_plain hgd fun K hK => ?_
    unfold Oper.wp execOp
    simp only [ho, resolve, invoke, builtin, Sem.run_bind, Sem.run_pure, Result.andThen_ok, List.map_toArray, List.map_cons, List.map_nil, hs, hx, hrun]
    rw [← cellsOf_append] at r1
    exact hK _ _ (h v' w' r1 hty' r2)
/-- what Clone hands back: bytes in new memory, the room behind them bytes -/
def BsTy (l : List UInt8) (w : World) (e : Ending) (w' : World) : Prop := ∃ v, e = .returned v ∧ BsV w' (w.heap.size ≤ ·) v l ∧ TyB w' v ∧ (∀ k, v.ownBlock = some k → w.heap.size ≤ k) ∧ Below w.heap.size w w'
theorem Clone_ty (l : List UInt8) (A : Option Addr) (c : Nat) (w : World) (hl : l.length ≤ 140737488355328) (hr : Rd w A l) (hA : A = none → l = [] ∧ c = 0) :
    Calls Tryd.prog 81 #[.slice A l.length c] w fun e w' => BsTy l w e w' := by
  rcases A with _ | ⟨b, off, sp⟩
  · obtain ⟨rfl, rfl⟩ := hA rfl
    have hq := run_eql_slice_nil (P := Tryd.prog) w 25 5 none 0 0 Tryd.underlying25
    simp only [Option.isNone_none] at hq
    go_enter Tryd.func81, Tryd.ntmps81
    go_wp2
    go_ret
    exact ⟨_, rfl, BsV.nil _ _, .inl rfl, (fun k h => by cases h), Below.refl _ _⟩
  · have HR := Lib.hid hr
    have hq := run_eql_slice_nil (P := Tryd.prog) w 25 5 (some ⟨b, off, sp⟩) l.length c Tryd.underlying25
    simp only [Option.isNone_some] at hq
    clear hr hA
    go_enter Tryd.func81, Tryd.ntmps81
    go_wp2_with (first | (at_builtin; refine append_rd_ty rfl (.tmp 5) (.tmp 6) rfl w.heap.size (.slice (some ⟨w.heap.size, 0, none⟩) 0 0) 0 [] rfl (World.ownsRow_lit w #[] 0 (Nat.le_refl _) (Nat.zero_le _) rfl) (.inr ⟨_, _, _, #[], rfl, Cs.new _ _ _, rfl, Nat.zero_le _, rfl⟩) (some ⟨b, off, sp⟩) l l.length c rfl rfl (HR.out.below ((Below.refl _ _).alloc (Nat.le_refl _) _)) (fun h => by cases h) (by omega) (by simp) ?_; intro v' w' hown hty hg; go_frame; have HO := Lib.hid hown; have HT := Lib.hid hty; have HG := Lib.hid hg; clear hown hty hg))
    go_ret
    have ho := HO.out
    rw [Nat.zero_add, List.nil_append] at ho
    exact ⟨_, rfl, BsV.own ho, HT.out, own_base ho, ((Below.refl _ _).alloc (Nat.le_refl _) _).grown HG.out (by simp) (fun k e => by cases e; exact Nat.le_refl _)⟩

end Go.Proofs.YtdhlejhflkfoaaaDoor

/- Bytes with bytes in the room behind them: Copy, Wide, Spoil (all bytes are others, the room behind them, too). -/
namespace Go.Proofs.YtdhlejhflkfoaaaDoor
open Go.RowKit Go.Shelf
set_option linter.unusedVariables false
set_option maxRecDepth 100000
set_option linter.unusedSimpArgs false

/-- the bytes of a typed block -/
theorem TyB.bytes {w : World} {g n cap : Nat} (h : TyB w (.slice (some ⟨g, 0, none⟩) n cap)) : ∃ m : List UInt8, m.length = cap ∧ cap ≤ maxLen ∧ Cs w g 5 (cellsOf m).toArray := by
  rcases h with h | ⟨g', n', cap', cur, e, hc, h1, h2, h3⟩
  · cases h
  · cases e
    have := cells_byte _ h3
    refine ⟨cur.toList.map byteOf, by simp [h1], h2, ?_⟩
    rw [this]
    exact hc
end Go.Proofs.YtdhlejhflkfoaaaDoor

/- Lists of elements of any kind: how an element lies in its cells is told by an 'Elem'; a slice that reads as a list, a list of one's own, append. -/
namespace Go.Proofs.YtdhlejhflkfoaaaDoor
open Go.RowKit Go.Shelf
set_option linter.unusedVariables false
set_option maxRecDepth 100000
set_option linter.unusedSimpArgs false

structure Elem (α : Type) where
  ety : TypeId
  sty : TypeId
  n : Nat
  bytes : Nat
  rd : World → (Nat → Prop) → List Value → α → Prop
  und : Tryd.prog.underlying sty = some (.slice ety)
  info : ∃ i z, Tryd.prog.info? ety = some i ∧ i.zero = some z ∧ i.size = n ∧ i.bytes = bytes ∧ z.cells.size = n
  pos : 0 < n
  byt : bytes ≤ 128
  len : ∀ {w : World} {F : Nat → Prop} {cs : List Value} {x : α}, rd w F cs x → cs.length = n
  one : ∀ {w : World} {F : Nat → Prop} {cs : List Value} {x : α}, rd w F cs x → ∀ v ∈ cs, v.oneCell' = true
  turn : ∀ {w w' : World} {F G : Nat → Prop} {cs : List Value} {x : α}, rd w F cs x → Turn w w' G → (∀ k, F k → ¬ G k) → rd w' F cs x
  mono : ∀ {w : World} {F G : Nat → Prop} {cs : List Value} {x : α}, rd w F cs x → (∀ k, k < w.heap.size → F k → G k) → rd w G cs x
section
variable {α : Type} {E : Elem α}
/-- the cells xs read as the list ls -/
def RowX (E : Elem α) (w : World) (F : Nat → Prop) (xs : List Value) (ls : List α) : Prop := xs.length = ls.length * E.n ∧ ∀ j (h : j < ls.length), E.rd w F ((xs.drop (j * E.n)).take E.n) ls[j]
theorem RowX.nil (w : World) (F : Nat → Prop) : RowX E w F [] [] := ⟨by simp, fun j h => by simp at h⟩
theorem RowX.turn {w w' : World} {F G : Nat → Prop} {xs : List Value} {ls : List α} (h : RowX E w F xs ls) (ht : Turn w w' G) (hG : ∀ k, F k → ¬ G k) : RowX E w' F xs ls := ⟨h.1, fun j hj => E.turn (h.2 j hj) ht hG⟩
theorem RowX.below {w w' : World} {F : Nat → Prop} {xs : List Value} {ls : List α} (h : RowX E w F xs ls) (hb : Below w.heap.size w w') : RowX E w' F xs ls := h.turn (Turn.of_below hb fun _ => False) fun _ _ h => h
theorem RowX.mono {w : World} {F G : Nat → Prop} {xs : List Value} {ls : List α} (h : RowX E w F xs ls) (hF : ∀ k, k < w.heap.size → F k → G k) : RowX E w G xs ls := ⟨h.1, fun j hj => E.mono (h.2 j hj) hF⟩
theorem RowX.append {w : World} {F : Nat → Prop} {xs ys : List Value} {ls ms : List α} (h : RowX E w F xs ls) (k : RowX E w F ys ms) : RowX E w F (xs ++ ys) (ls ++ ms) := by
  refine ⟨by rw [List.length_append, List.length_append, h.1, k.1, Nat.add_mul], fun j hj => ?_⟩
  by_cases hlt : j < ls.length
  · have h1 : (j + 1) * E.n ≤ ls.length * E.n := Nat.mul_le_mul_right _ hlt
    rw [Nat.succ_mul] at h1
    have h2 := h.1
    have := h.2 j hlt
    rw [List.drop_append_of_le_length (by omega), List.take_append_of_le_length (by rw [List.length_drop]; omega), List.getElem_append_left hlt]
    exact this
  · have hj' : j - ls.length < ms.length := by rw [List.length_append] at hj; omega
    have h1 : ls.length * E.n ≤ j * E.n := Nat.mul_le_mul_right _ (by omega)
    have h2 := h.1
    rw [List.drop_append, List.drop_of_length_le (by omega), List.nil_append, List.getElem_append_right (by omega), h2, ← Nat.sub_mul]
    exact k.2 _ hj'
theorem RowX.single {w : World} {F : Nat → Prop} {cs : List Value} {x : α} (h : E.rd w F cs x) : RowX E w F cs [x] := by
  have hl := E.len h
  refine ⟨by simp [hl], fun j hj => ?_⟩
  have : j = 0 := by simp at hj; omega
  subst this
  simpa [← hl] using h
theorem RowX.one {w : World} {F : Nat → Prop} {xs : List Value} {ls : List α} (h : RowX E w F xs ls) : ∀ v ∈ xs, v.oneCell' = true := by
  intro v hv
  obtain ⟨i, hi, e⟩ := List.getElem_of_mem hv
  have hp := E.pos
  have h1 := h.1
  have hq : i / E.n < ls.length := Nat.div_lt_of_lt_mul (by rw [Nat.mul_comm]; omega)
  refine E.one (h.2 _ hq) v ?_
  have hm := Nat.mod_lt i hp
  have hd := Nat.div_add_mod i E.n
  rw [Nat.mul_comm] at hd
  refine List.mem_iff_getElem?.2 ⟨i % E.n, ?_⟩
  rw [List.getElem?_take_of_lt hm, List.getElem?_drop, hd, List.getElem?_eq_getElem hi, e]
/-- a slice at A reads as the list ls -/
def RdX (E : Elem α) (w : World) (F : Nat → Prop) (A : Option Addr) (ls : List α) : Prop := ls = [] ∨ ∃ b off xs, A = some ⟨b, off, none⟩ ∧ F b ∧ RowX E w F xs ls ∧ ∀ i v, xs[i]? = some v → w.cell? ⟨b, off + i, none⟩ = some v
theorem RdX.turn {w w' : World} {F G : Nat → Prop} {A : Option Addr} {ls : List α} (h : RdX E w F A ls) (ht : Turn w w' G) (hG : ∀ k, F k → ¬ G k) : RdX E w' F A ls := by
  rcases h with h | ⟨b, off, xs, e, hF, hl, hc⟩
  · exact .inl h
  · exact .inr ⟨b, off, xs, e, hF, hl.turn ht hG, fun j v hv => (World.cell?_of_block (w := w) (ht.block b (lt_of_cell (hc j v hv)) (hG _ hF))).trans (hc j v hv)⟩
theorem RdX.below {w w' : World} {F : Nat → Prop} {A : Option Addr} {ls : List α} (h : RdX E w F A ls) (hb : Below w.heap.size w w') : RdX E w' F A ls := h.turn (Turn.of_below hb fun _ => False) fun _ _ h => h
theorem RdX.lt {w : World} {F : Nat → Prop} {b off : Nat} {ls : List α} (h : RdX E w F (some ⟨b, off, none⟩) ls) (hne : ls ≠ []) : b < w.heap.size := by
  rcases h with h | ⟨b', off', xs, e, hF, hl, hc⟩
  · exact absurd h hne
  · cases e
    have hp := E.pos
    have : 0 < ls.length := List.length_pos_iff.2 hne
    have h1 := hl.1
    have h2 : 0 < ls.length * E.n := Nat.mul_pos this hp
    have hx : 0 < xs.length := by omega
    exact lt_of_cell (hc 0 _ (List.getElem?_eq_getElem hx))
theorem RdX.mono {w : World} {F G : Nat → Prop} {A : Option Addr} {ls : List α} (h : RdX E w F A ls) (hF : ∀ k, k < w.heap.size → F k → G k) : RdX E w G A ls := by
  by_cases hne : ls = []
  · exact .inl hne
  rcases id h with h1 | ⟨b, off, xs, e, h1, hl, hc⟩
  · exact .inl h1
  · exact .inr ⟨b, off, xs, e, hF _ (by rw [e] at h; exact h.lt hne) h1, hl.mono hF, hc⟩
/-- an element's cells -/
theorem RdX.get {w : World} {F : Nat → Prop} {A : Option Addr} {ls : List α} (h : RdX E w F A ls) (j : Nat) (hj : j < ls.length) : ∃ b off cs, A = some ⟨b, off, none⟩ ∧ E.rd w F cs ls[j] ∧ At w b (off + j * E.n) cs := by
  rcases h with h | ⟨b, off, xs, e, h1, hl, hc⟩
  · rw [h] at hj; simp at hj
  · refine ⟨b, off, _, e, hl.2 j hj, fun i v hv => ?_⟩
    have hi : i < E.n := by
      have := (List.getElem?_eq_some_iff.1 hv).1
      rw [List.length_take] at this
      omega
    rw [List.getElem?_take_of_lt hi, List.getElem?_drop] at hv
    have := hc _ _ hv
    rwa [← Nat.add_assoc] at this
/-- a list's beginning; a list's end -/
theorem RdX.take {w : World} {F : Nat → Prop} {A : Option Addr} {ls : List α} (h : RdX E w F A ls) (m : Nat) : RdX E w F A (ls.take m) := by
  rcases h with h | ⟨b, off, xs, e, h1, hl, hc⟩
  · left; rw [h]; simp
  · refine .inr ⟨b, off, xs.take (m * E.n), e, h1, ⟨?_, fun j hj => ?_⟩, fun i v hv => ?_⟩
    · rw [List.length_take, List.length_take, hl.1, Nat.mul_min_mul_right]
    · have hj' := hj
      rw [List.length_take] at hj'
      have h2 : (j + 1) * E.n ≤ m * E.n := Nat.mul_le_mul_right _ (by omega)
      rw [Nat.succ_mul] at h2
      have := hl.2 j (by omega)
      rw [List.drop_take, List.take_take, Nat.min_eq_left (by omega), List.getElem_take]
      exact this
    · rw [List.getElem?_take] at hv
      split at hv
      · exact hc i v hv
      · cases hv
theorem RdX.drop {w : World} {F : Nat → Prop} {b off : Nat} {ls : List α} (h : RdX E w F (some ⟨b, off, none⟩) ls) (m : Nat) : RdX E w F (some ⟨b, off + m * E.n, none⟩) (ls.drop m) := by
  rcases h with h | ⟨b', off', xs, e, h1, hl, hc⟩
  · left; rw [h]; simp
  · cases e
    refine .inr ⟨b, off + m * E.n, xs.drop (m * E.n), rfl, h1, ⟨?_, fun j hj => ?_⟩, fun i v hv => ?_⟩
    · rw [List.length_drop, List.length_drop, hl.1, Nat.sub_mul]
    · rw [List.length_drop] at hj
      have := hl.2 (m + j) (by omega)
      rw [List.drop_drop, ← Nat.add_mul, List.getElem_drop]
      exact this
    · rw [List.getElem?_drop] at hv
      have := hc _ _ hv
      rwa [← Nat.add_assoc] at this
/-- a list of one's own; the list is in F, and so is what its elements hold, which is not in the list -/
structure OwnX (E : Elem α) (w : World) (base : Nat) (F : Nat → Prop) (v : Value) (ls : List α) : Prop where
  row : ∃ xs, w.ownsRow base E.ety E.n v ls.length xs ∧ RowX E w (fun k => F k ∧ v.ownBlock ≠ some k) xs ls
  sub : ∀ k, v.ownBlock = some k → F k
theorem OwnX.nil (w : World) (base : Nat) (F : Nat → Prop) : OwnX E w base F (.slice none 0 0) [] := ⟨⟨[], World.ownsRow_nil _ _ _ _, RowX.nil _ _⟩, fun k h => by cases h⟩
theorem OwnX.turn {w w' : World} {base : Nat} {F G : Nat → Prop} {v : Value} {ls : List α} (h : OwnX E w base F v ls) (ht : Turn w w' G) (hG : ∀ k, F k → ¬ G k) : OwnX E w' base F v ls := by
  obtain ⟨⟨vs, h1, h2⟩, h3⟩ := h
  exact ⟨⟨vs, ownsRow_turn' h1 ht fun k hk => hG k (h3 k hk), h2.turn ht fun k hk => hG k hk.1⟩, h3⟩
theorem OwnX.below {w w' : World} {base : Nat} {F : Nat → Prop} {v : Value} {ls : List α} (h : OwnX E w base F v ls) (hb : Below w.heap.size w w') : OwnX E w' base F v ls := h.turn (Turn.of_below hb fun _ => False) fun _ _ h => h
theorem OwnX.lt {w : World} {base : Nat} {F : Nat → Prop} {v : Value} {ls : List α} (h : OwnX E w base F v ls) : ∀ k, v.ownBlock = some k → base ≤ k ∧ k < w.heap.size := by
  obtain ⟨⟨vs, h1, h2⟩, h3⟩ := h
  exact h1.lt
theorem OwnX.mono {w : World} {base : Nat} {F G : Nat → Prop} {v : Value} {ls : List α} (h : OwnX E w base F v ls) (hF : ∀ k, k < w.heap.size → F k → G k) : OwnX E w base G v ls := by
  obtain ⟨⟨vs, h1, h2⟩, h3⟩ := id h
  exact ⟨⟨vs, h1, h2.mono fun k hk h => ⟨hF k hk h.1, h.2⟩⟩, fun k hk => hF k (h.lt k hk).2 (h3 k hk)⟩
theorem OwnX.base {w : World} {B B' : Nat} {F : Nat → Prop} {v : Value} {ls : List α} (h : OwnX E w B F v ls) (hb : B' ≤ B) : OwnX E w B' F v ls := by
  obtain ⟨⟨vs, h1, h2⟩, h3⟩ := h
  refine ⟨⟨vs, ⟨h1.1, ?_⟩, h2⟩, h3⟩
  rcases h1.2 with h | ⟨g, cap, cur, hv, hg, r⟩
  · exact .inl h
  · exact .inr ⟨g, cap, cur, hv, Nat.le_trans hb hg, r⟩
theorem OwnX.one {w : World} {base : Nat} {F : Nat → Prop} {v : Value} {ls : List α} (h : OwnX E w base F v ls) : v.oneCell' = true := by
  obtain ⟨⟨vs, h1, h2⟩, h3⟩ := h
  rcases h1.2 with ⟨rfl, _⟩ | ⟨g, cap, cur, rfl, _⟩ <;> rfl
theorem OwnX.form {w : World} {base : Nat} {F : Nat → Prop} {v : Value} {ls : List α} (h : OwnX E w base F v ls) : ∃ A c, v = .slice A ls.length c ∧ RdX E w F A ls ∧ ls.length ≤ c ∧ c ≤ maxLen ∧ (A = none → ls = [] ∧ c = 0) := by
  obtain ⟨⟨vs, h1, h2⟩, h3⟩ := h
  rcases h1.2 with ⟨rfl, h0⟩ | ⟨g, cap, cur, hv, hb, hg, hc, hm, r⟩
  · have : ls = [] := List.eq_nil_of_length_eq_zero h0
    subst this
    exact ⟨none, 0, rfl, .inl rfl, Nat.le_refl _, Nat.zero_le _, fun _ => ⟨rfl, rfl⟩⟩
  · subst hv
    refine ⟨some ⟨g, 0, none⟩, cap, rfl, .inr ⟨g, 0, vs, rfl, h3 g rfl, h2.mono fun k _ h => h.1, fun j u hu => ?_⟩, hc, hm, fun h => by cases h⟩
    have := h1.cells (g := g) rfl j u hu
    have e1 : (⟨g, 0, none⟩ : Addr).add j = ⟨g, 0 + j, none⟩ := by
      unfold Addr.add
      split <;> simp_all
    rw [e1] at this
    exact this
theorem run_append_x {w : World} (ty : TypeId) (base : Nat) (F : Nat → Prop) (v : Value) (ls : List α) (hown : OwnX E w base F v ls) (b off m c : Nat) (ys : List Value) (ms : List α) (hm : m = ms.length) (hy : RowX E w (fun k => F k ∧ v.ownBlock ≠ some k) ys ms)
    (hc : ∀ j u, ys[j]? = some u → w.cell? ⟨b, off + j, none⟩ = some u) (hb : ls.length + m ≤ 1099511627776) (hbase : base ≤ w.heap.size) (hF : F w.heap.size) :
    ∃ v' w', (Builtin.append_ #[E.sty, E.sty] ty #[v, .slice (some ⟨b, off, none⟩) m c]).run Tryd.prog w = .ok v' w' ∧ OwnX E w' base F v' (ls ++ ms) ∧ w.grownBy w' v.ownBlock := by
  obtain ⟨i0, z, hi, hz0, hz1, hz2, hz3⟩ := E.info
  obtain ⟨⟨vs, h1, h2⟩, h3⟩ := hown
  have hby := E.byt
  obtain ⟨v', w', hrun, r1, r2, r3, r4⟩ := run_append_own_at (P := Tryd.prog) w base E.sty ty E.ety i0 z E.n E.bytes E.und hi hz0 hz1 hz2 hz3 E.pos v ls.length vs h1 ⟨b, off, none⟩ m c ys (by rw [hy.1, hm])
    (fun j u hu => by
      have e1 : (⟨b, off, none⟩ : Addr).add j = ⟨b, off + j, none⟩ := by
        unfold Addr.add
        split <;> simp_all
      rw [e1]
      exact hc j u hu) hy.one (by simp only [maxLen]; omega) (Nat.le_trans (Nat.mul_le_mul hb hby) (by decide)) hbase
  have hturn : Turn w w' fun k => v.ownBlock = some k := Turn.of_grown r2
  refine ⟨v', w', hrun, ⟨⟨vs ++ ys, by rw [List.length_append, ← hm]; exact r1, ?_⟩, fun k hk => ?_⟩, r2⟩
  · have e1 : RowX E w (fun k => (F k ∧ v'.ownBlock ≠ some k) ∧ v.ownBlock ≠ some k) (vs ++ ys) (ls ++ ms) := (h2.append hy).mono fun k hk hh => ⟨⟨hh.1, fun e => by
      rcases r4 with r4 | r4
      · exact hh.2 (r4.symm.trans e)
      · rw [r4] at e
        cases e
        exact Nat.lt_irrefl _ hk⟩, hh.2⟩
    exact (e1.turn hturn fun k hk => hk.2).mono fun k _ hk => hk.1
  · rcases r4 with r4 | r4
    · exact h3 k (r4.symm.trans hk)
    · rw [r4] at hk
      cases hk
      exact hF
variable {w : World} {ops : Array Oper} {rest : List Oper} {o : Oper} {a : Act} {Q : Exit → Act → World → Prop} {K : Act → World → Prop}
/-- append of a list's elements -/
theorem wp_append_x (s x : Operand) (ho : o.op = .call { callee := .builtin .append, args := #[s, x], argTypes := #[E.sty, E.sty] }) (base : Nat) (F : Nat → Prop) (v : Value) (ls : List α) (hs : a.eval s = v) (hown : OwnX E w base F v ls)
    (b off m c : Nat) (hx : a.eval x = .slice (some ⟨b, off, none⟩) m c) (ys : List Value) (ms : List α) (hm : m = ms.length) (hy : RowX E w (fun k => F k ∧ v.ownBlock ≠ some k) ys ms)
    (hc : ∀ j u, ys[j]? = some u → w.cell? ⟨b, off + j, none⟩ = some u) (hb : ls.length + m ≤ 1099511627776) (hbase : base ≤ w.heap.size) (hF : F w.heap.size)
    (h : ∀ v' w', OwnX E w' base F v' (ls ++ ms) → w.grownBy w' v.ownBlock → K (a.put o.dst v') w') : o.wp Tryd.prog a w K Q := by
  obtain ⟨v', w', hr, h2, h3⟩ := run_append_x (E := E) o.type base F v ls hown b off m c ys ms hm hy hc hb hbase hF
  unfold Oper.wp execOp
  simp only [ho, resolve, invoke, builtin, Sem.run_bind, Sem.run_pure, Result.andThen_ok, List.map_toArray, List.map_cons, List.map_nil, hs, hx, hr]
  exact h v' w' h2 h3
/-- append of one element that stands alone in a block -/
theorem wp_append_x1 (s x : Operand) (ho : o.op = .call { callee := .builtin .append, args := #[s, x], argTypes := #[E.sty, E.sty] }) (base : Nat) (F : Nat → Prop) (v : Value) (ls : List α) (hs : a.eval s = v) (hown : OwnX E w base F v ls)
    (g c : Nat) (hx : a.eval x = .slice (some ⟨g, 0, none⟩) 1 c) (cs : List Value) (y : α) (hy : E.rd w (fun k => F k ∧ v.ownBlock ≠ some k) cs y) (t : TypeId) (hg : Cs w g t cs.toArray) (hb : ls.length + 1 ≤ 1099511627776) (hbase : base ≤ w.heap.size) (hF : F w.heap.size)
    (h : ∀ v' w', OwnX E w' base F v' (ls ++ [y]) → w.grownBy w' v.ownBlock → K (a.put o.dst v') w') : o.wp Tryd.prog a w K Q :=
  wp_append_x (E := E) s x ho base F v ls hs hown g 0 1 c hx cs [y] rfl (RowX.single hy) (fun j u hu => by rw [Nat.zero_add]; exact hg.cell j (by simpa using hu)) hb hbase hF h
theorem wpList_append_x1 (hgd : o.guard = none) (s x : Operand) (ho : o.op = .call { callee := .builtin .append, args := #[s, x], argTypes := #[E.sty, E.sty] }) (base : Nat) (F : Nat → Prop) (v : Value) (ls : List α) (hs : a.eval s = v) (hown : OwnX E w base F v ls)
    (g c : Nat) (hx : a.eval x = .slice (some ⟨g, 0, none⟩) 1 c) (cs : List Value) (y : α) (hy : E.rd w (fun k => F k ∧ v.ownBlock ≠ some k) cs y) (t : TypeId) (hg : Cs w g t cs.toArray) (hb : ls.length + 1 ≤ 1099511627776) (hbase : base ≤ w.heap.size) (hF : F w.heap.size)
    (h : ∀ v' w', OwnX E w' base F v' (ls ++ [y]) → w.grownBy w' v.ownBlock → wpList Tryd.prog ops Q rest (a.put o.dst v') w') : wpList Tryd.prog ops Q (o :: rest) a w :=
  wpList_plain hgd fun _ hK => wp_append_x1 (E := E) s x ho base F v ls hs hown g c hx cs y hy t hg hb hbase hF fun v' w' h1 h2 => hK _ _ (h v' w' h1 h2)
end

end Go.Proofs.YtdhlejhflkfoaaaDoor

/- Tables, changes, their bytes, in plain words: no program. -/
namespace Go.Proofs.YtdhlejhflkfoaaaDoor
open Go.RowKit Go.Shelf
set_option linter.unusedVariables false
set_option maxRecDepth 100000
set_option linter.unusedSimpArgs false

abbrev Key := List UInt8
abbrev Rw := List UInt8 × List UInt8
abbrev Ch := List UInt8 × List UInt8 × Bool
/-- the order of keys -/
def lessK (a b : Key) : Bool := decide (a < b)
theorem lessK_irrefl (a : Key) : lessK a a = false := by simp [lessK, List.lt_irrefl]
theorem lessK_trans {a b c : Key} (h : lessK a b = true) (k : lessK b c = true) : lessK a c = true := by
  simp only [lessK, decide_eq_true_eq] at *
  exact List.lt_trans h k
theorem lessK_asymm {a b : Key} (h : lessK a b = true) : lessK b a = false := by
  cases e : lessK b a
  · rfl
  · have := lessK_trans h e
    rw [lessK_irrefl] at this
    cases this
theorem lessK_total {a b : Key} (h : lessK a b = false) (k : lessK b a = false) : a = b := by
  simp only [lessK, decide_eq_false_iff_not] at *
  exact List.le_antisymm (List.not_lt.1 k) (List.not_lt.1 h)
theorem lessK_ne {a b : Key} (h : lessK a b = true) : a ≠ b := by
  rintro rfl
  rw [lessK_irrefl] at h
  cases h
theorem lessK_nil (a : Key) : lessK [] a = decide (a ≠ []) := by
  cases a with
  | nil => simp [lessK_irrefl]
  | cons x a => simp [lessK]
def fitsK (last k v : List UInt8) : Bool := !(k == []) && decide (k.length ≤ 16) && lessK last k && decide (v.length ≤ 8192)
theorem fitsK_iff {last k v : List UInt8} : fitsK last k v = true ↔ k ≠ [] ∧ k.length ≤ 16 ∧ lessK last k = true ∧ v.length ≤ 8192 := by
  simp [fitsK, and_assoc]
def mayFrom : Key → List Rw → Bool
  | _, [] => true
  | last, x :: r => fitsK last x.1 x.2 && mayFrom x.1 r
def mayP (t : List Rw) : Bool := mayFrom [] t
def okC (last : Key) (x : Ch) : Bool := fitsK last x.1 x.2.1 && !(x.2.2 && !(x.2.1 == []))
def mayCFrom : Key → List Ch → Bool
  | _, [] => true
  | last, x :: r => okC last x && mayCFrom x.1 r
def mayCP (l : List Ch) : Bool := mayCFrom [] l
/-- a value is found -/
def lookR (t : List Rw) (k : Key) : Option (List UInt8) := (t.find? fun x => x.1 == k).map (·.2)
def sharedP : Key → Key → Nat
  | a :: x, b :: y => if a == b then sharedP x y + 1 else 0
  | _, _ => 0
/-- it is the greatest -/
theorem shared_most : ∀ (a b : Key) (n : Nat), n ≤ a.length → n ≤ b.length → a.take n = b.take n → n ≤ sharedP a b
  | _, _, 0, _, _, _ => Nat.zero_le _
  | [], _, n + 1, h, _, _ => by simp at h
  | _ :: _, [], n + 1, _, h, _ => by simp at h
  | a :: x, b :: y, n + 1, h1, h2, h => by
    simp at h h1 h2
    have := shared_most x y n h1 h2 h.2
    unfold sharedP
    rw [h.1]
    simpa using this
def sizeC (x : Ch) : Nat := if x.2.2 then 0 else x.2.1.length + 1
def oneP (last : Key) (x : Ch) : List UInt8 := [UInt8.ofNat (sharedP last x.1), UInt8.ofNat (x.1.length - sharedP last x.1)] ++ x.1.drop (sharedP last x.1) ++ beL (sizeC x : Int) 2 ++ x.2.1
def putFrom : Key → List Ch → List UInt8
  | _, [] => []
  | last, x :: r => oneP last x ++ putFrom x.1 r
/-- the change at the beginning of bytes -/
def nextP (last : Key) : List UInt8 → Except Int (Ch × List UInt8)
  | [] => .error 4
  | s :: b =>
    if last.length < s.toNat then .error 5 else
    match b with
    | [] => .error 4
    | m :: b =>
      if b.length < m.toNat then .error 4 else
      if (b.drop m.toNat).length < 2 then .error 4 else
      let key := last.take s.toNat ++ b.take m.toNat
      let size := 256 * ((b.drop m.toNat).getD 0 0).toNat + ((b.drop m.toNat).getD 1 0).toNat
      let rest := (b.drop m.toNat).drop 2
      if rest.length < size - 1 then .error 4 else
      let c : Ch := (key, rest.take (size - 1), decide (size = 0))
      if !fitsK last key c.2.1 || decide (s.toNat < sharedP last key) then .error 5 else .ok (c, rest.drop (size - 1))
def getF : Nat → Key → List UInt8 → Except Int (List Ch)
  | 0, _, _ => .ok []
  | _ + 1, _, [] => .ok []
  | f + 1, last, s :: b => match nextP last (s :: b) with
    | .error e => .error e
    | .ok (c, r) => match getF f c.1 r with
      | .error e => .error e
      | .ok l => .ok (c :: l)
def getC (b : List UInt8) : Except Int (List Ch) := getF (b.length + 1) [] b
theorem nextP_short {last : Key} {b : List UInt8} {c : Ch} {r : List UInt8} (h : nextP last b = .ok (c, r)) : r.length < b.length := by
  unfold nextP at h
  split at h
  · cases h
  · split at h
    · cases h
    · split at h
      · cases h
      · split at h
        · cases h
        · split at h
          · cases h
          · dsimp only at h
            split at h
            · cases h
            · split at h
              · cases h
              · cases h
                simp
                omega
theorem getF_more : ∀ (f g : Nat) (last : Key) (b : List UInt8), b.length < f → b.length < g → getF f last b = getF g last b
  | 0, _, _, _, h, _ => by omega
  | _ + 1, 0, _, _, _, h => by omega
  | f + 1, g + 1, last, [], _, _ => rfl
  | f + 1, g + 1, last, s :: b, h1, h2 => by
    unfold getF
    cases hn : nextP last (s :: b) with
    | error e => rfl
    | ok p =>
      obtain ⟨c, r⟩ := p
      have := nextP_short hn
      simp only
      rw [getF_more f g c.1 r (by omega) (by omega)]

end Go.Proofs.YtdhlejhflkfoaaaDoor

/- What is put is got; bytes that are got are those that are put; cut, they are some of the changes, or refused. -/
namespace Go.Proofs.YtdhlejhflkfoaaaDoor
open Go.RowKit Go.Shelf
set_option linter.unusedVariables false
set_option maxRecDepth 100000
set_option linter.unusedSimpArgs false

theorem okC_iff {last : Key} {x : Ch} : okC last x = true ↔ (x.1 ≠ [] ∧ x.1.length ≤ 16 ∧ lessK last x.1 = true ∧ x.2.1.length ≤ 8192) ∧ (x.2.2 = true → x.2.1 = []) := by
  unfold okC
  rw [Bool.and_eq_true, fitsK_iff]
  cases x.2.2 <;> simp
theorem ofNat_u8 (s : UInt8) : UInt8.ofNat s.toNat = s := by simp
/-- two bytes of a number -/
def be2 (n : Nat) : List UInt8 := [UInt8.ofNat (n / 256), UInt8.ofNat (n % 256)]
theorem be2_is {n : Nat} (h : n < 65536) : beL (n : Int) 2 = be2 n := by
  have e0 : ((n : Int) / 256 % 256).toNat = n / 256 := by omega
  have e1 : ((n : Int) % 256).toNat = n % 256 := by omega
  simp only [beL, be2, List.range_succ, List.range_zero, List.nil_append, List.map_append, List.map_cons, List.map_nil, List.cons_append]
  show [UInt8.ofNat ((n : Int) / 256 % 256).toNat, UInt8.ofNat ((n : Int) / 1 % 256).toNat] = _
  rw [Int.ediv_one, e0, e1]
theorem sizeC_le {last : Key} {x : Ch} (h : okC last x = true) : sizeC x ≤ 8193 ∧ x.2.1.length = sizeC x - 1 ∧ decide (sizeC x = 0) = x.2.2 := by
  obtain ⟨⟨_, _, _, h4⟩, h5⟩ := okC_iff.1 h
  unfold sizeC
  cases hg : x.2.2
  · simp; omega
  · simp [h5 hg]
theorem one_be2 {last : Key} {x : Ch} (h : sizeC x ≤ 8193) : oneP last x = UInt8.ofNat (sharedP last x.1) :: UInt8.ofNat (x.1.length - sharedP last x.1) :: (x.1.drop (sharedP last x.1) ++ (UInt8.ofNat (sizeC x / 256) :: UInt8.ofNat (sizeC x % 256) :: x.2.1)) := by
  unfold oneP
  rw [be2_is (by omega)]
  simp [be2]
theorem okC_len {last : Key} {x : Ch} (h : okC last x = true) : x.1.length ≤ 16 := (okC_iff.1 h).1.2.1
/-- what is got of bytes is put as those -/
theorem next_back {last : Key} {b : List UInt8} {c : Ch} {r : List UInt8} (h : nextP last b = .ok (c, r)) : okC last c = true ∧ oneP last c ++ r = b := by
  unfold nextP at h
  split at h
  · cases h
  · rename_i s b
    split at h
    · cases h
    · rename_i hs
      split at h
      · cases h
      · rename_i m b
        split at h
        · cases h
        · rename_i hm
          split at h
          · cases h
          · rename_i h2
            dsimp only at h
            split at h
            · cases h
            · rename_i h3
              split at h
              · cases h
              · rename_i h4
                cases h
                simp only [Bool.or_eq_true, Bool.not_eq_true', decide_eq_true_eq, not_or, Bool.not_eq_false] at h4
                obtain ⟨hf, hsh⟩ := h4
                obtain ⟨f1, f2, f3, f4⟩ := fitsK_iff.1 hf
                have hlen : (last.take s.toNat ++ b.take m.toNat).length = s.toNat + m.toNat := by simp; omega
                have hge : s.toNat ≤ sharedP last (last.take s.toNat ++ b.take m.toNat) := shared_most _ _ _ (by omega) (by omega) (by rw [List.take_append_of_le_length (by simp; omega), List.take_take, Nat.min_self])
                have hsn : sharedP last (last.take s.toNat ++ b.take m.toNat) = s.toNat := by omega
                obtain ⟨x, y, rest, he⟩ : ∃ x y rest, b.drop m.toNat = x :: y :: rest := by
                  match hd : b.drop m.toNat, h2 with
                  | [], h2 => simp at h2
                  | [x], h2 => simp at h2
                  | x :: y :: rest, _ => exact ⟨x, y, rest, rfl⟩
                rw [he] at h3 f4 ⊢
                simp only [List.getD_cons_zero, List.getD_cons_succ, List.drop_succ_cons, List.drop_zero] at h3 f4 ⊢
                have hx := x.toNat_lt
                have hy := y.toNat_lt
                have hsz : sizeC (last.take s.toNat ++ b.take m.toNat, rest.take (256 * x.toNat + y.toNat - 1), decide (256 * x.toNat + y.toNat = 0)) = 256 * x.toNat + y.toNat := by
                  unfold sizeC
                  by_cases h0 : 256 * x.toNat + y.toNat = 0
                  · simp [h0]
                  · simp only [h0, decide_false]
                    simp
                    omega
                have hok : okC last (last.take s.toNat ++ b.take m.toNat, rest.take (256 * x.toNat + y.toNat - 1), decide (256 * x.toNat + y.toNat = 0)) = true := by
                  refine okC_iff.2 ⟨⟨f1, f2, f3, f4⟩, fun h0 => ?_⟩
                  simp only [decide_eq_true_eq] at h0
                  simp [h0]
                refine ⟨hok, ?_⟩
                rw [one_be2 (sizeC_le hok).1, hsz, hsn, hlen]
                simp only [Nat.add_sub_cancel_left, ofNat_u8]
                have e1 : (last.take s.toNat ++ b.take m.toNat).drop s.toNat = b.take m.toNat := by
                  have : (last.take s.toNat).length = s.toNat := by simp; omega
                  rw [List.drop_append, this, Nat.sub_self, List.drop_zero, List.drop_of_length_le (by omega), List.nil_append]
                rw [e1]
                have e2 : (256 * x.toNat + y.toNat) / 256 = x.toNat := by omega
                have e3 : (256 * x.toNat + y.toNat) % 256 = y.toNat := by omega
                rw [e2, e3, ofNat_u8, ofNat_u8]
                simp only [List.cons_append, List.append_assoc, List.cons.injEq, true_and]
                rw [List.take_append_drop, ← he, List.take_append_drop]
end Go.Proofs.YtdhlejhflkfoaaaDoor

/- Tables and changes: what is applied, what leads from one table to another one. -/
namespace Go.Proofs.YtdhlejhflkfoaaaDoor
open Go.RowKit Go.Shelf
set_option linter.unusedVariables false
set_option maxRecDepth 100000
set_option linter.unusedSimpArgs false

def withoutP (t : List Rw) (k : Key) : List Rw := t.filter fun x => !(x.1 == k)
def withP (t : List Rw) (x : Rw) : List Rw := t.filter (fun y => lessK y.1 x.1) ++ x :: t.filter fun y => !lessK y.1 x.1
def stepP (t : List Rw) (c : Ch) : List Rw := if c.2.2 then withoutP t c.1 else withP (withoutP t c.1) (c.1, c.2.1)
def applyP (t : List Rw) (l : List Ch) : List Rw := l.foldl stepP t
def goodR (x : Rw) : Prop := x.1 ≠ [] ∧ x.1.length ≤ 16 ∧ x.2.length ≤ 8192
def goodC (x : Ch) : Prop := (x.1 ≠ [] ∧ x.1.length ≤ 16 ∧ x.2.1.length ≤ 8192) ∧ (x.2.2 = true → x.2.1 = [])
abbrev SortR (t : List Rw) : Prop := t.Pairwise fun x y => lessK x.1 y.1 = true
abbrev SortC (t : List Ch) : Prop := t.Pairwise fun x y => lessK x.1 y.1 = true
theorem sortR_cons {x : Rw} {t : List Rw} : SortR (x :: t) ↔ (∀ y ∈ t, lessK x.1 y.1 = true) ∧ SortR t := List.pairwise_cons
theorem sortC_cons {x : Ch} {t : List Ch} : SortC (x :: t) ↔ (∀ y ∈ t, lessK x.1 y.1 = true) ∧ SortC t := List.pairwise_cons
theorem of_filter {α : Type} {p : α → Bool} {t : List α} {y : α} (h : y ∈ t.filter p) : y ∈ t := (List.mem_filter.1 h).1
theorem mayFrom_iff : ∀ (t : List Rw) (last : Key), mayFrom last t = true ↔ (∀ x ∈ t, lessK last x.1 = true ∧ goodR x) ∧ SortR t
  | [], last => by simp [mayFrom]
  | x :: r, last => by
    simp only [mayFrom, Bool.and_eq_true, fitsK_iff, mayFrom_iff r x.1, List.pairwise_cons, List.forall_mem_cons]
    constructor
    · rintro ⟨⟨h1, h2, h3, h4⟩, h5, h6⟩
      exact ⟨⟨⟨h3, h1, h2, h4⟩, fun y hy => ⟨lessK_trans h3 (h5 y hy).1, (h5 y hy).2⟩⟩, fun y hy => (h5 y hy).1, h6⟩
    · rintro ⟨⟨⟨h3, h1, h2, h4⟩, h5⟩, h6, h7⟩
      exact ⟨⟨h1, h2, h3, h4⟩, fun y hy => ⟨h6 y hy, (h5 y hy).2⟩, h7⟩
theorem may_iff (t : List Rw) : mayP t = true ↔ (∀ x ∈ t, goodR x) ∧ SortR t := by
  unfold mayP
  rw [mayFrom_iff]
  constructor
  · rintro ⟨h1, h2⟩; exact ⟨fun x hx => (h1 x hx).2, h2⟩
  · rintro ⟨h1, h2⟩; exact ⟨fun x hx => ⟨by rw [lessK_nil]; simpa using (h1 x hx).1, h1 x hx⟩, h2⟩
theorem mayCFrom_iff : ∀ (t : List Ch) (last : Key), mayCFrom last t = true ↔ (∀ x ∈ t, lessK last x.1 = true ∧ goodC x) ∧ SortC t
  | [], last => by simp [mayCFrom]
  | x :: r, last => by
    simp only [mayCFrom, Bool.and_eq_true, okC_iff, mayCFrom_iff r x.1, List.pairwise_cons, List.forall_mem_cons]
    constructor
    · rintro ⟨⟨⟨h1, h2, h3, h4⟩, hg⟩, h5, h6⟩
      exact ⟨⟨⟨h3, ⟨h1, h2, h4⟩, hg⟩, fun y hy => ⟨lessK_trans h3 (h5 y hy).1, (h5 y hy).2⟩⟩, fun y hy => (h5 y hy).1, h6⟩
    · rintro ⟨⟨⟨h3, ⟨h1, h2, h4⟩, hg⟩, h5⟩, h6, h7⟩
      exact ⟨⟨⟨h1, h2, h3, h4⟩, hg⟩, fun y hy => ⟨h6 y hy, (h5 y hy).2⟩, h7⟩
theorem mayC_iff (t : List Ch) : mayCP t = true ↔ (∀ x ∈ t, goodC x) ∧ SortC t := by
  unfold mayCP
  rw [mayCFrom_iff]
  constructor
  · rintro ⟨h1, h2⟩; exact ⟨fun x hx => (h1 x hx).2, h2⟩
  · rintro ⟨h1, h2⟩; exact ⟨fun x hx => ⟨by rw [lessK_nil]; simpa using (h1 x hx).1.1, h1 x hx⟩, h2⟩
theorem lookR_nil (k : Key) : lookR [] k = none := rfl
theorem lookR_cons (x : Rw) (t : List Rw) (k : Key) : lookR (x :: t) k = if x.1 = k then some x.2 else lookR t k := by
  unfold lookR
  rw [List.find?_cons]
  by_cases h : x.1 = k
  · simp [h]
  · have : (x.1 == k) = false := by simpa using h
    simp [h, this]
theorem lookR_append (a b : List Rw) (k : Key) : lookR (a ++ b) k = (lookR a k).or (lookR b k) := by
  induction a with
  | nil => rfl
  | cons x a ih => rw [List.cons_append, lookR_cons, lookR_cons, ih]; split <;> rfl
theorem lookR_none {t : List Rw} {k : Key} (h : ∀ x ∈ t, x.1 ≠ k) : lookR t k = none := by
  induction t with
  | nil => rfl
  | cons x t ih => rw [lookR_cons, if_neg (h x (by simp)), ih fun y hy => h y (by simp [hy])]
theorem lookR_mem {t : List Rw} {k : Key} {v : List UInt8} (h : lookR t k = some v) : (k, v) ∈ t := by
  induction t with
  | nil => cases h
  | cons x t ih =>
    rw [lookR_cons] at h
    split at h
    · rename_i e
      cases h
      subst e
      simp
    · exact List.mem_cons_of_mem _ (ih h)
theorem lookR_some {t : List Rw} (hs : SortR t) {x : Rw} (h : x ∈ t) : lookR t x.1 = some x.2 := by
  induction t with
  | nil => cases h
  | cons y t ih =>
    first | rw [sortR_cons] at hs | rw [sortC_cons] at hs
    rw [lookR_cons]
    rcases List.mem_cons.1 h with rfl | h
    · rw [if_pos rfl]
    · rw [if_neg (lessK_ne (hs.1 x h)), ih hs.2 h]
/-- tables that tell the same are the same -/
theorem table_ext : ∀ (t u : List Rw), SortR t → SortR u → (∀ k, lookR t k = lookR u k) → t = u
  | [], [], _, _, _ => rfl
  | [], y :: s, _, _, h => by have := h y.1; rw [lookR_cons, if_pos rfl] at this; cases this
  | x :: r, [], _, _, h => by have := h x.1; rw [lookR_cons, if_pos rfl] at this; cases this
  | x :: r, y :: s, h1, h2, h => by
    first | rw [sortR_cons] at h1 h2 | rw [sortC_cons] at h1 h2
    have hk : x.1 = y.1 := by
      have ex := h x.1
      have ey := h y.1
      rw [lookR_cons, if_pos rfl] at ex
      rw [lookR_cons y, if_pos rfl] at ey
      by_cases e : x.1 = y.1
      · exact e
      · exfalso
        rw [lookR_cons, if_neg (Ne.symm e)] at ex
        rw [lookR_cons, if_neg e] at ey
        have m1 := h2.1 _ (lookR_mem ex.symm)
        have m2 := h1.1 _ (lookR_mem ey)
        have := lessK_asymm m1
        rw [m2] at this
        cases this
    have hv : x.2 = y.2 := by
      have ex := h x.1
      rw [lookR_cons, if_pos rfl, lookR_cons, if_pos hk.symm] at ex
      exact Option.some.inj ex
    have hxy : x = y := Prod.ext hk hv
    subst hxy
    rw [table_ext r s h1.2 h2.2 fun k => ?_]
    by_cases e : x.1 = k
    · subst e
      rw [lookR_none fun z hz => (lessK_ne (h1.1 z hz)).symm, lookR_none fun z hz => (lessK_ne (h2.1 z hz)).symm]
    · have := h k
      rwa [lookR_cons, if_neg e, lookR_cons, if_neg e] at this
theorem look_without (t : List Rw) (k k' : Key) : lookR (withoutP t k) k' = if k = k' then none else lookR t k' := by
  induction t with
  | nil => simp [withoutP, lookR_nil]
  | cons x t ih =>
    unfold withoutP at ih ⊢
    rw [List.filter_cons]
    by_cases h : x.1 = k
    · have : (!(x.1 == k)) = false := by simpa using h
      rw [this, if_neg (by decide), ih, lookR_cons]
      subst h
      split <;> rfl
    · have : (!(x.1 == k)) = true := by simpa using h
      rw [this, if_pos rfl, lookR_cons, lookR_cons, ih]
      by_cases e : x.1 = k'
      · subst e
        rw [if_pos rfl, if_neg (Ne.symm h), if_pos rfl]
      · rw [if_neg e, if_neg e]
theorem look_with {t : List Rw} {x : Rw} (h : ∀ y ∈ t, y.1 ≠ x.1) (k : Key) : lookR (withP t x) k = if x.1 = k then some x.2 else lookR t k := by
  unfold withP
  rw [lookR_append, lookR_cons]
  by_cases e : x.1 = k
  · rw [if_pos e, if_pos e, lookR_none fun y hy => e ▸ h y (of_filter hy)]
    rfl
  · rw [if_neg e, if_neg e]
    clear h
    induction t with
    | nil => rfl
    | cons y t ih =>
      rw [List.filter_cons, List.filter_cons, lookR_cons]
      cases hl : lessK y.1 x.1
      · simp only [Bool.not_false, if_true, Bool.false_eq_true, if_false]
        rw [lookR_cons]
        by_cases e2 : y.1 = k
        · rw [if_pos e2, if_pos e2]
          have : lookR (t.filter fun y => lessK y.1 x.1) k = none := lookR_none fun z hz e3 => by
            have := (List.mem_filter.1 hz).2
            rw [e3, ← e2, hl] at this
            cases this
          rw [this]; rfl
        · rw [if_neg e2, if_neg e2, ih]
      · simp only [Bool.not_true, if_true, Bool.false_eq_true, if_false]
        rw [lookR_cons]
        by_cases e2 : y.1 = k
        · rw [if_pos e2, if_pos e2]; rfl
        · rw [if_neg e2, if_neg e2, ih]
theorem sort_without {t : List Rw} (h : SortR t) (k : Key) : SortR (withoutP t k) := h.filter _
theorem without_not (t : List Rw) (k : Key) : ∀ y ∈ withoutP t k, y.1 ≠ k := fun y hy => by
  have := (List.mem_filter.1 hy).2
  simpa using this
theorem sort_with {t : List Rw} (h : SortR t) {x : Rw} (hn : ∀ y ∈ t, y.1 ≠ x.1) : SortR (withP t x) := by
  unfold withP
  rw [SortR, List.pairwise_append]
  refine ⟨h.filter _, List.pairwise_cons.2 ⟨fun y hy => ?_, h.filter _⟩, fun y hy z hz => ?_⟩
  · obtain ⟨m, hl⟩ := List.mem_filter.1 hy
    simp only [Bool.not_eq_true'] at hl
    cases e : lessK x.1 y.1
    · exact absurd (lessK_total hl e) (hn y m)
    · rfl
  · obtain ⟨m, hl⟩ := List.mem_filter.1 hy
    rcases List.mem_cons.1 hz with rfl | hz
    · exact hl
    · obtain ⟨m2, hl2⟩ := List.mem_filter.1 hz
      simp only [Bool.not_eq_true'] at hl2
      cases e : lessK x.1 z.1
      · rw [lessK_total hl2 e]; exact hl
      · exact lessK_trans hl e
theorem mem_with {t : List Rw} {x y : Rw} (h : y ∈ withP t x) : y = x ∨ y ∈ t := by
  unfold withP at h
  rcases List.mem_append.1 h with h | h
  · exact .inr (of_filter h)
  · rcases List.mem_cons.1 h with h | h
    · exact .inl h
    · exact .inr (of_filter h)
theorem sort_step {t : List Rw} (h : SortR t) (c : Ch) : SortR (stepP t c) := by
  unfold stepP
  split
  · exact sort_without h _
  · exact sort_with (sort_without h _) (without_not t c.1)
theorem look_step (t : List Rw) (c : Ch) (k : Key) : lookR (stepP t c) k = if c.1 = k then (if c.2.2 then none else some c.2.1) else lookR t k := by
  unfold stepP
  cases c.2.2
  · simp only [Bool.false_eq_true, if_false]
    rw [look_with (without_not t c.1), look_without]
    by_cases e : c.1 = k
    · rw [if_pos e, if_pos e]
    · rw [if_neg e, if_neg e, if_neg e]
  · simp only [if_true]
    rw [look_without]
theorem sort_apply : ∀ (l : List Ch) {t : List Rw}, SortR t → SortR (applyP t l)
  | [], t, h => h
  | c :: l, t, h => sort_apply l (sort_step h c)
/-- what changes say of a key -/
def lookC (l : List Ch) (k : Key) : Option (Option (List UInt8)) := (l.find? fun x => x.1 == k).map fun x => if x.2.2 then none else some x.2.1
theorem lookC_cons (x : Ch) (l : List Ch) (k : Key) : lookC (x :: l) k = if x.1 = k then some (if x.2.2 then none else some x.2.1) else lookC l k := by
  unfold lookC
  rw [List.find?_cons]
  by_cases h : x.1 = k
  · simp [h]
  · have : (x.1 == k) = false := by simpa using h
    simp [h, this]
theorem lookC_none {l : List Ch} {k : Key} (h : ∀ x ∈ l, x.1 ≠ k) : lookC l k = none := by
  induction l with
  | nil => rfl
  | cons x l ih => rw [lookC_cons, if_neg (h x (by simp)), ih fun y hy => h y (by simp [hy])]
theorem look_apply : ∀ (l : List Ch) (t : List Rw) (k : Key), SortC l → lookR (applyP t l) k = (lookC l k).getD (lookR t k)
  | [], t, k, _ => rfl
  | c :: l, t, k, h => by
    first | rw [sortR_cons] at h | rw [sortC_cons] at h
    show lookR (applyP (stepP t c) l) k = _
    rw [look_apply l _ k h.2, look_step, lookC_cons]
    by_cases e : c.1 = k
    · subst e
      rw [if_pos rfl, if_pos rfl, lookC_none fun y hy => (lessK_ne (h.1 y hy)).symm]
      rfl
    · rw [if_neg e, if_neg e]
/-- all keys of both, in order -/
def keysP (l : List Rw) : List Rw := l.foldl (fun ks x => withP (withoutP ks x.1) (x.1, [])) []
def chgP (a b : List Rw) (k : Key) : Option Ch := match lookR b k with
  | none => some (k, [], true)
  | some w => if lookR a k = some w then none else some (k, w, false)
def betweenP (a b : List Rw) : List Ch := (keysP (a ++ b)).filterMap fun x => chgP a b x.1
theorem keys_all (l : List Rw) : ∀ ks : List Rw, SortR ks → SortR (l.foldl (fun ks x => withP (withoutP ks x.1) (x.1, [])) ks) ∧ ∀ k, (∃ y ∈ l.foldl (fun ks x => withP (withoutP ks x.1) (x.1, [])) ks, y.1 = k) ↔ (∃ y ∈ ks, y.1 = k) ∨ ∃ y ∈ l, y.1 = k := by
  induction l with
  | nil => exact fun ks h => ⟨h, fun k => by simp⟩
  | cons x l ih =>
    intro ks h
    obtain ⟨h1, h2⟩ := ih _ (sort_with (x := (x.1, [])) (sort_without h x.1) (without_not ks x.1))
    refine ⟨h1, fun k => ?_⟩
    rw [List.foldl_cons, h2]
    have hm : (∃ y ∈ withP (withoutP ks x.1) (x.1, []), y.1 = k) ↔ x.1 = k ∨ ∃ y ∈ ks, y.1 = k := by
      constructor
      · rintro ⟨y, hy, rfl⟩
        rcases mem_with hy with rfl | hy
        · exact .inl rfl
        · exact .inr ⟨y, of_filter hy, rfl⟩
      · intro hk
        by_cases e : x.1 = k
        · exact ⟨(x.1, []), by unfold withP; simp, e⟩
        · obtain ⟨y, hy, rfl⟩ := hk.resolve_left e
          refine ⟨y, ?_, rfl⟩
          have hy' : y ∈ withoutP ks x.1 := List.mem_filter.2 ⟨hy, by simpa using Ne.symm e⟩
          unfold withP
          rw [List.mem_append, List.mem_cons]
          cases hl : lessK y.1 x.1
          · exact .inr (.inr (List.mem_filter.2 ⟨hy', by simp [hl]⟩))
          · exact .inl (List.mem_filter.2 ⟨hy', hl⟩)
    rw [hm]
    simp only [List.mem_cons, exists_eq_or_imp]
    constructor
    · rintro ((h | h) | h) <;> simp [h]
    · rintro (h | h | h) <;> simp [h]
theorem sort_keys (l : List Rw) : SortR (keysP l) := (keys_all l [] List.Pairwise.nil).1
theorem mem_keys (l : List Rw) (k : Key) : (∃ y ∈ keysP l, y.1 = k) ↔ ∃ y ∈ l, y.1 = k := by
  have := (keys_all l [] List.Pairwise.nil).2 k
  simpa [keysP] using this
theorem chg_key {a b : List Rw} {k : Key} {c : Ch} (h : chgP a b k = some c) : c.1 = k := by
  unfold chgP at h
  split at h
  · cases h; rfl
  · split at h
    · cases h
    · cases h; rfl
theorem sort_between (a b : List Rw) : SortC (betweenP a b) := by
  unfold betweenP
  rw [SortC, List.pairwise_filterMap]
  refine (sort_keys (a ++ b)).imp fun {x y} h c hc d hd => ?_
  rw [chg_key hc, chg_key hd]
  exact h
theorem lookC_filter {a b : List Rw} : ∀ (ks : List Rw) (k : Key), SortR ks → lookC (ks.filterMap fun x => chgP a b x.1) k = if (∃ y ∈ ks, y.1 = k) then (chgP a b k).map (fun x => if x.2.2 then none else some x.2.1) else none
  | [], k, _ => by simp [lookC]
  | x :: ks, k, h => by
    first | rw [sortR_cons] at h | rw [sortC_cons] at h
    rw [List.filterMap_cons]
    by_cases e : x.1 = k
    · subst e
      rw [if_pos ⟨x, by simp, rfl⟩]
      have hn : lookC (ks.filterMap fun x => chgP a b x.1) x.1 = none := by
        rw [lookC_filter ks x.1 h.2, if_neg]
        rintro ⟨y, hy, e⟩
        exact (lessK_ne (h.1 y hy)) e.symm
      cases hc : chgP a b x.1 with
      | none => simpa using hn
      | some c => simp only; rw [lookC_cons, if_pos (chg_key hc)]; rfl
    · have hiff : (∃ y ∈ x :: ks, y.1 = k) ↔ ∃ y ∈ ks, y.1 = k := by
        simp only [List.mem_cons, exists_eq_or_imp]
        exact ⟨fun h => h.resolve_left e, .inr⟩
      simp only [hiff]
      rw [← lookC_filter ks k h.2]
      cases hc : chgP a b x.1 with
      | none => rfl
      | some c => simp only; rw [lookC_cons, if_neg (by rw [chg_key hc]; exact e)]
theorem look_between {a b : List Rw} (ha : SortR a) (hb : SortR b) (k : Key) : lookC (betweenP a b) k = if lookR a k = lookR b k then none else some (lookR b k) := by
  unfold betweenP
  rw [lookC_filter _ k (sort_keys _)]
  simp only [mem_keys]
  by_cases hk : ∃ y ∈ a ++ b, y.1 = k
  · rw [if_pos hk]
    unfold chgP
    cases hb2 : lookR b k with
    | none =>
      have hne : lookR a k ≠ none := by
        obtain ⟨y, hy, rfl⟩ := hk
        rcases List.mem_append.1 hy with hy | hy
        · rw [lookR_some ha hy]; simp
        · rw [lookR_some hb hy] at hb2; cases hb2
      rw [if_neg hne]
      rfl
    | some w =>
      simp only
      split
      · rfl
      · rfl
  · rw [if_neg hk]
    have h1 : lookR a k = none := lookR_none fun y hy e => hk ⟨y, List.mem_append_left _ hy, e⟩
    have h2 : lookR b k = none := lookR_none fun y hy e => hk ⟨y, List.mem_append_right _ hy, e⟩
    rw [h1, h2, if_pos rfl]
theorem may_between {a b : List Rw} (ha : mayP a = true) (hb : mayP b = true) : mayCP (betweenP a b) = true := by
  rw [may_iff] at ha hb
  rw [mayC_iff]
  refine ⟨fun c hc => ?_, sort_between a b⟩
  unfold betweenP at hc
  obtain ⟨x, hx, hc⟩ := List.mem_filterMap.1 hc
  obtain ⟨y, hy, hk⟩ := (mem_keys (a ++ b) x.1).1 ⟨x, hx, rfl⟩
  have hg : goodR y := by
    rcases List.mem_append.1 hy with hy | hy
    · exact ha.1 y hy
    · exact hb.1 y hy
  rw [goodR, hk] at hg
  unfold chgP at hc
  split at hc
  · cases hc
    exact ⟨⟨hg.1, hg.2.1, by simp⟩, fun _ => rfl⟩
  · rename_i w hw
    split at hc
    · cases hc
    · cases hc
      have := hb.1 _ (lookR_mem hw)
      exact ⟨this, fun h => by cases h⟩
/-- Between, applied, is the second table -/
theorem apply_between {a b : List Rw} (ha : mayP a = true) (hb : mayP b = true) : applyP a (betweenP a b) = b := by
  have h1 := (may_iff a).1 ha
  have h2 := (may_iff b).1 hb
  refine table_ext _ _ (sort_apply _ h1.2) h2.2 fun k => ?_
  rw [look_apply _ _ k (sort_between a b), look_between h1.2 h2.2]
  split
  · rename_i h; exact h
  · rfl
theorem between_none {a b : List Rw} (ha : mayP a = true) (hb : mayP b = true) (h : betweenP a b = []) : a = b := by
  have := apply_between ha hb
  rw [h] at this
  exact this
end Go.Proofs.YtdhlejhflkfoaaaDoor

/- Rows and changes as elements of lists. -/
namespace Go.Proofs.YtdhlejhflkfoaaaDoor
open Go.RowKit Go.Shelf
set_option linter.unusedVariables false
set_option maxRecDepth 100000
set_option linter.unusedSimpArgs false

/-- a text's value -/
def sv (k : Key) : Value := .string ⟨k.toArray⟩
theorem sv_list (k : Key) : (⟨k.toArray⟩ : ByteArray).toList = k := by rw [Lib.toList_data]
def rowE : Elem Rw where
  ety := 41
  sty := 34
  n := 2
  bytes := 40
  rd w F cs x := ∃ v, cs = [sv x.1, v] ∧ BsV w F v x.2
  und := Tryd.underlying34
  info := ⟨_, _, rfl, rfl, rfl, rfl, rfl⟩
  pos := by decide
  byt := by decide
  len := by rintro w F cs x ⟨v, rfl, _⟩; rfl
  one := by
    rintro w F cs x ⟨v, rfl, h⟩ u hu
    simp at hu
    rcases hu with rfl | rfl
    · rfl
    · exact h.one
  turn := by rintro w w' F G cs x ⟨v, h, hv⟩ ht hG; exact ⟨v, h, hv.turn ht hG⟩
  mono := by rintro w F G cs x ⟨v, h, hv⟩ hF; exact ⟨v, h, hv.mono hF⟩
def chgE : Elem Ch where
  ety := 123
  sty := 90
  n := 3
  bytes := 48
  rd w F cs x := ∃ v, cs = [sv x.1, v, .bool x.2.2] ∧ BsV w F v x.2.1
  und := Tryd.underlying90
  info := ⟨_, _, rfl, rfl, rfl, rfl, rfl⟩
  pos := by decide
  byt := by decide
  len := by rintro w F cs x ⟨v, rfl, _⟩; rfl
  one := by
    rintro w F cs x ⟨v, rfl, h⟩ u hu
    simp at hu
    rcases hu with rfl | rfl | rfl
    · rfl
    · exact h.one
    · rfl
  turn := by rintro w w' F G cs x ⟨v, h, hv⟩ ht hG; exact ⟨v, h, hv.turn ht hG⟩
  mono := by rintro w F G cs x ⟨v, h, hv⟩ hF; exact ⟨v, h, hv.mono hF⟩

end Go.Proofs.YtdhlejhflkfoaaaDoor

/- The reference's Rows and Changes: the same rows, the same changes? -/
namespace Go.Proofs.YtdhlejhflkfoaaaDoor
open Go.RowKit Go.Shelf
set_option linter.unusedVariables false
set_option maxRecDepth 100000
set_option linter.unusedSimpArgs false

section
variable {α : Type}
def SameL (p q : List α) (k : Nat) : Prop := k ≤ p.length ∧ p.take k = q.take k
theorem SameL.next {p q : List α} {k : Nat} (h : SameL p q k) (hk : k < p.length) (hq : k < q.length) (e : p[k] = q[k]) : SameL p q (k + 1) := by
  refine ⟨hk, ?_⟩
  rw [List.take_succ_eq_append_getElem hk, List.take_succ_eq_append_getElem hq, h.2, e]
theorem SameL.over [DecidableEq α] {p q : List α} {k : Nat} (h : SameL p q k) (hk : ¬ k < p.length) (hl : p.length = q.length) : decide (p = q) = true := by
  have h1 := h.2
  rw [List.take_of_length_le (by omega), List.take_of_length_le (by omega)] at h1
  simp [h1]
theorem sameL_no [DecidableEq α] {p q : List α} {k : Nat} (hk : k < p.length) (hq : k < q.length) (e : p[k] ≠ q[k]) : decide (p = q) = false := by
  rw [decide_eq_false_iff_not]
  rintro rfl
  exact e rfl
theorem sameL_len [DecidableEq α] {p q : List α} (hl : p.length ≠ q.length) : decide (p = q) = false := by
  rw [decide_eq_false_iff_not]
  rintro rfl
  exact hl rfl
end
theorem sv_eq (x y : Key) : ((⟨x.toArray⟩ : ByteArray).toList == (⟨y.toArray⟩ : ByteArray).toList) = (x == y) := by rw [sv_list, sv_list]
/-- a row's cells -/
theorem row_at {w : World} {F : Nat → Prop} {A : Option Addr} {ls : List Rw} (h : RdX rowE w F A ls) (j : Nat) (hj : j < ls.length) : ∃ b off A' c, A = some ⟨b, off, none⟩ ∧ w.cell? ⟨b, off + j * 2, none⟩ = some (.string ⟨ls[j].1.toArray⟩) ∧ w.cell? ⟨b, off + j * 2 + 1, none⟩ = some (.slice A' ls[j].2.length c) ∧ RdF w F A' ls[j].2 ∧ (A' = none → ls[j].2 = [] ∧ c = 0) ∧ ls[j].2.length ≤ c ∧ c ≤ maxLen := by
  obtain ⟨b, off, cs, e, ⟨v, rfl, A', c, rfl, h1⟩, hat⟩ := h.get j hj
  exact ⟨b, off, A', c, e, hat 0 _ rfl, hat 1 _ rfl, h1⟩
set_option maxHeartbeats 2000000 in
theorem Rows_any (p q : List Rw) (A B : Option Addr) (ca cb : Nat) (F G : Nat → Prop) (w : World) (hp : p.length ≤ 140737488355328) (hq : q.length ≤ 140737488355328) (rp : RdX rowE w F A p) (rq : RdX rowE w G B q) :
    Calls Tryd.prog 13 #[.slice A p.length ca, .slice B q.length cb] w fun e w' => e = .returned (.bool (decide (p = q))) ∧ Below w.heap.size w w' := by
  by_cases hl : p.length = q.length
  · have el : ((p.length : Int) == (q.length : Int)) = true := by simp [hl]
    have el' : ((p.length : Int) != (q.length : Int)) = false := by simp [hl]
    have HP := Lib.hid rp
    have HQ := Lib.hid rq
    have HL := Lib.hid hl
    clear rp rq hl
    go_enter Tryd.func13, Tryd.ntmps13
    go_wp2
    clear el el'
    go_loopw [5] (fun j wr => ∃ k : Nat, j = .int .i64 k ∧ SameL p q k ∧ Below w.heap.size w wr) (fun j _ => p.length - (RowKit.intOf j).toNat)
    case atStart => exact ⟨0, rfl, ⟨Nat.zero_le _, by simp⟩, Below.refl _ _⟩
    case round =>
      obtain ⟨k, rfl, hI, hB⟩ := hrel
      by_cases hk : k < p.length
      · have hk2 : k < q.length := by rw [← HL.out]; exact hk
        obtain ⟨b, off, A1, c1, rfl, hc1, hd1, hr1, -⟩ := row_at (HP.out.below hB) k hk
        obtain ⟨b', off', A2, c2, rfl, hc2, hd2, hr2, -⟩ := row_at (HQ.out.below hB) k hk2
        have HX := Lib.hid (fun e => sameL_no hk hk2 e)
        have HY := Lib.hid (fun e => hI.next hk hk2 e)
        have hsame : ∀ n, Calls Tryd.prog 32 #[.slice A1 p[k].2.length c1, .slice A2 q[k].2.length c2] (wr.drewN n) fun e w' => e = .returned (.bool (p[k].2 == q[k].2)) ∧ wr.drewN n = w' := fun n => Same_any A1 A2 p[k].2 q[k].2 c1 c2 _ hr1.rd hr2.rd
        generalize p[k] = x at *
        generalize q[k] = y at *
        obtain ⟨x1, x2⟩ := x
        obtain ⟨y1, y2⟩ := y
        dsimp only at *
        clear hI hr1 hr2
        by_cases hkey : x1 = y1
        · have hke : (x1 == y1) = true := by simpa using hkey
          obtain ⟨t, he⟩ : ∃ t, (x2 == y2) = t := ⟨_, rfl⟩
          rw [he] at hsame
          cases t
          · have hf := Lib.hid (HX.out (by rintro ⟨⟩; simp at he))
            clear HX HY he hkey
            go_wp2_with fail
            go_quiet (exact Calls.quiet_of_same ((hsame _).mono fun _ _ h => ⟨h.1, h.2.symm⟩))
            go_wp2_with fail
            go_ret
            exact ⟨by rw [hf.out]; first | done | rfl, below_drewN hB _⟩
          · have hf := Lib.hid (HY.out (by rw [hkey, show x2 = y2 by simpa using he]))
            clear HX HY he hkey
            go_wp2_with fail
            go_quiet (exact Calls.quiet_of_same ((hsame _).mono fun _ _ h => ⟨h.1, h.2.symm⟩))
            go_wp2_with fail
            go_roundw
            case rel => exact ⟨k + 1, by go_num, hf.out, below_drewN hB _⟩
            case measure => simp [RowKit.intOf]; omega
        · have hke : (x1 == y1) = false := by simpa using hkey
          have hf := Lib.hid (HX.out (by rintro ⟨⟩; exact hkey rfl))
          clear HX HY hkey hsame
          go_wp2_with fail
          go_quiet (fail)
          go_wp2_with fail
          go_ret
          exact ⟨by rw [hf.out]; first | done | rfl, below_drewN hB _⟩
      · have hv := Lib.hid (hI.over hk HL.out)
        clear hI
        go_wp2_with fail
        go_ret
        exact ⟨by rw [hv.out]; first | done | rfl, hB⟩
  · have el : ((p.length : Int) == (q.length : Int)) = false := by simp; omega
    have el' : ((p.length : Int) != (q.length : Int)) = true := by simp; omega
    have hv := Lib.hid (sameL_len hl)
    clear hl rp rq
    go_enter Tryd.func13, Tryd.ntmps13
    go_wp2_with fail
    go_ret
    exact ⟨by rw [hv.out]; first | done | rfl, Below.refl _ _⟩

end Go.Proofs.YtdhlejhflkfoaaaDoor

/- Rows, changes, and lists of them, among the arguments. -/
namespace Go.Proofs.YtdhlejhflkfoaaaDoor
open Go.RowKit Go.Shelf Go.ChangeShapes Go.WideShapes Go.ChangeAt Go.Deep
set_option linter.unusedVariables false
set_option maxRecDepth 100000
set_option linter.unusedSimpArgs false

section
variable {H : Type} {enc : TypeId × Value → H} {W : World} {fuel : Nat}
/-- bytes, wherever they stand -/
theorem trod_bytesV {cs : List Value} {x : DataW H × List MemPlace} (h : DataW.trod enc Tryd.prog W 0 (fun _ => true) true fuel 25 cs = some x) : ∃ v l, cs = [v] ∧ BsV W (· < W.heap.size) v l := by
  rcases open_ints Tryd.underlying25 Tryd.underlying5 (by kernel_rfl) h with ⟨hcs, _⟩ | ⟨x, len, cap, zs, hcs, _, hl, hm, hz, _, hcell, hwz⟩
  · exact ⟨_, [], hcs, BsV.nil _ _⟩
  · have hz' : zs.length = cap := by simpa using hz
    have hlen : ((zs.take len).map fun n => UInt8.ofNat n.toNat).length = len := by
      rw [List.length_map, List.length_take]; omega
    refine ⟨_, (zs.take len).map fun n => UInt8.ofNat n.toNat, hcs, some x, cap, by rw [hlen], ?_, (fun h => by cases h), by rw [hlen]; exact hl, hm⟩
    refine Rd.f ?_ fun _ _ _ h => h
    by_cases h0 : len = 0
    · subst h0; exact .inl (by simp)
    · obtain ⟨b, off, spot⟩ := x
      have hc0 := hcell 0 (by omega)
      have hspot : spot = none := by simpa [Addr.add] using World.cell?_spot hc0
      subst hspot
      refine .inr ⟨b, off, rfl, fun j hj => ?_⟩
      rw [hlen] at hj
      have hjz : j < zs.length := by omega
      have hc := hcell j hjz
      have e1 : (⟨b, off, none⟩ : Addr).add j = ⟨b, off + j, none⟩ := by
        unfold Addr.add
        split <;> simp_all
      rw [e1] at hc
      rw [hc]
      have hw := hwz zs[j] (List.getElem_mem hjz)
      have hbd : 0 ≤ zs[j] ∧ zs[j] ≤ 255 := by simpa [Lit.wf, IntKind.min, IntKind.max, IntKind.signed, IntKind.bits] using hw
      have e2 : ((UInt8.ofNat (zs[j]).toNat).toNat : Int) = zs[j] := by
        rw [UInt8.toNat_ofNat']
        omega
      simp only [List.getElem_map, List.getElem_take, e2, List.getD, List.getElem?_eq_getElem hjz, Option.getD_some]
theorem trod_row {cs : List Value} {x : DataW H × List MemPlace} (h : DataW.trod enc Tryd.prog W 0 (fun _ => true) true fuel 41 cs = some x) : ∃ z : Rw, rowE.rd W (· < W.heap.size) cs z ∧ z.1.length ≤ maxLen := by
  obtain ⟨y0, y1, n, _, hl, f0, f1⟩ := trod_struct2 Tryd.underlying41 h
  have hc : Tryd.prog.cellsOf 41 = 2 := by kernel_rfl
  have h1 : Tryd.prog.cellsOf 9 = 1 := by kernel_rfl
  have h2 : Tryd.prog.cellsOf 25 = 1 := by kernel_rfl
  rw [hc] at hl
  obtain ⟨c0, c1, rfl⟩ : ∃ c0 c1, cs = [c0, c1] := by
    match cs, hl with
    | [a, b], _ => exact ⟨a, b, rfl⟩
  change DataW.trod enc Tryd.prog W 0 _ true n 9 (([c0, c1].drop 0).take (Tryd.prog.cellsOf 9)) = some y0 at f0
  change DataW.trod enc Tryd.prog W 0 _ true n 25 (([c0, c1].drop 1).take (Tryd.prog.cellsOf 25)) = some y1 at f1
  rw [h1] at f0
  rw [h2] at f1
  obtain ⟨s, e0, _, hs⟩ := DataW.trod_string Tryd.underlying9 f0
  obtain ⟨v, l, e1, hv⟩ := trod_bytesV f1
  simp at e0 e1
  subst e0 e1
  refine ⟨(s.data.toList, l), ⟨c1, rfl, hv⟩, ?_⟩
  have : s.data.toList.length = s.size := Array.length_toList (xs := s.data)
  rw [this]
  exact hs
theorem addr_add2 (x : Addr) (a b : Nat) : (x.add a).add b = x.add (a + b) := by
  unfold Addr.add
  by_cases ha : a = 0 <;> by_cases hb : b = 0 <;> simp [ha, hb, Nat.add_assoc]
end
end Go.Proofs.YtdhlejhflkfoaaaDoor
/- BatRK: BatRef1 BatRef2 BatRef3 BatRef4 BatRef5 BatRef6 BatRef7 BatRef8 BatRef9 BatRef10. -/
/- The reference of layer 7: fits, May, MayChange, Shared. -/
namespace Go.Proofs.YtdhlejhflkfoaaaDoor
open Go.RowKit Go.Shelf
set_option linter.unusedVariables false
set_option maxRecDepth 100000
set_option linter.unusedSimpArgs false

theorem less_bytes (a b : Key) : Op.bytesLess a b = lessK a b := bytesLess_eq a b
/-- a list of rows of which each has a key and a value of some size -/
def SmallR (t : List Rw) : Prop := t.length ≤ 140737488355328 ∧ ∀ x ∈ t, x.1.length ≤ 9223372036854775807
end Go.Proofs.YtdhlejhflkfoaaaDoor

/- The reference of layer 7: Shared, one, Put. -/
namespace Go.Proofs.YtdhlejhflkfoaaaDoor
open Go.RowKit Go.Shelf
set_option linter.unusedVariables false
set_option maxRecDepth 100000
set_option linter.unusedSimpArgs false

def chCells (x : Ch) (A : Option Addr) (c : Nat) : List Value := [.string ⟨x.1.toArray⟩, .slice A x.2.1.length c, .bool x.2.2]
end Go.Proofs.YtdhlejhflkfoaaaDoor

/- The reference of layer 7: Put. -/
namespace Go.Proofs.YtdhlejhflkfoaaaDoor
open Go.RowKit Go.Shelf
set_option linter.unusedVariables false
set_option maxRecDepth 100000
set_option linter.unusedSimpArgs false

end Go.Proofs.YtdhlejhflkfoaaaDoor

/- The reference of layer 7: take, next. -/
namespace Go.Proofs.YtdhlejhflkfoaaaDoor
open Go.RowKit Go.Shelf
set_option linter.unusedVariables false
set_option maxRecDepth 100000
set_option linter.unusedSimpArgs false

end Go.Proofs.YtdhlejhflkfoaaaDoor

/- The reference of layer 7: next. -/
namespace Go.Proofs.YtdhlejhflkfoaaaDoor
open Go.RowKit Go.Shelf
set_option linter.unusedVariables false
set_option maxRecDepth 100000
set_option linter.unusedSimpArgs false

def chZero : List Value := [.string ⟨#[]⟩, .slice none 0 0, .bool false]
/-- what next hands back -/
def NextRet (last : Key) (b : List UInt8) (g2 : Nat) (w : World) (e : Ending) (w' : World) : Prop := Below w.heap.size w w' ∧ match nextP last b with
  | .error er => e = .returned (.tuple #[.agg chZero.toArray, .slice none 0 0, .int .i64 er])
  | .ok (c, r) => ∃ v o2 c2, e = .returned (.tuple #[.agg #[.string ⟨c.1.toArray⟩, v, .bool c.2.2], .slice (some ⟨g2, o2, none⟩) r.length c2, .int .i64 0]) ∧ BsV w' (w.heap.size ≤ ·) v c.2.1 ∧ Rd w' (some ⟨g2, o2, none⟩) r ∧ r.length ≤ c2 ∧ c2 ≤ maxLen
theorem NextRet.has {last : Key} {b : List UInt8} {w w' : World} {k val r : List UInt8} {z : Bool} {v : Value} {g2 o2 c2 n2 : Nat} (h : nextP last b = .ok ((k, val, z), r)) (hb : Below w.heap.size w w') (hv : BsV w' (w.heap.size ≤ ·) v val) (hr : Rd w' (some ⟨g2, o2, none⟩) r) (hn : n2 = r.length) (h1 : n2 ≤ c2) (h2 : c2 ≤ maxLen) :
    NextRet last b g2 w (.returned (.tuple #[.agg #[.string ⟨k.toArray⟩, v, .bool z], .slice (some ⟨g2, o2, none⟩) n2 c2, .int .i64 0])) w' := by
  subst hn
  exact ⟨hb, by rw [h]; exact ⟨v, o2, c2, rfl, hv, hr, h1, h2⟩⟩
end Go.Proofs.YtdhlejhflkfoaaaDoor

/- The reference of layer 7: Get. -/
namespace Go.Proofs.YtdhlejhflkfoaaaDoor
open Go.RowKit Go.Shelf
set_option linter.unusedVariables false
set_option maxRecDepth 100000
set_option linter.unusedSimpArgs false

def glue (acc : List Ch) : Except Int (List Ch) → Except Int (List Ch)
  | .error e => .error e
  | .ok l => .ok (acc ++ l)
theorem glue_nil (x : Except Int (List Ch)) : glue [] x = x := by cases x <;> rfl
/-- what a round of Get holds -/
def GotI (b0 : List UInt8) (acc : List Ch) (last : Key) (b : List UInt8) : Prop := getC b0 = glue acc (getF (b.length + 1) last b) ∧ last.length ≤ 16
theorem GotI.start (b : List UInt8) : GotI b [] [] b := ⟨(glue_nil _).symm, by simp⟩
theorem GotI.over {b0 : List UInt8} {acc : List Ch} {last : Key} (h : GotI b0 acc last []) : getC b0 = .ok acc := by
  have := h.1
  simpa [getF, glue] using this
theorem GotI.next {b0 : List UInt8} {acc : List Ch} {last : Key} {s : UInt8} {b r : List UInt8} {c : Ch} (h : GotI b0 acc last (s :: b)) (hn : nextP last (s :: b) = .ok (c, r)) : GotI b0 (acc ++ [c]) c.1 r := by
  have h1 := h.1
  have hl := nextP_short hn
  refine ⟨?_, okC_len (next_back hn).1⟩
  rw [h1]
  have e1 : getF ((s :: b).length + 1) last (s :: b) = glue [c] (getF (r.length + 1) c.1 r) := by
    rw [show getF ((s :: b).length + 1) last (s :: b) = _ from by unfold getF; rfl, hn]
    simp only
    rw [getF_more (s :: b).length (r.length + 1) c.1 r hl (by omega)]
    cases getF (r.length + 1) c.1 r <;> rfl
  rw [e1]
  cases getF (r.length + 1) c.1 r <;> simp [glue]
def GetCRet (b : List UInt8) (w : World) (e : Ending) (w' : World) : Prop := Below w.heap.size w w' ∧ match getC b with
  | .error er => e = .returned (.tuple #[.slice none 0 0, .int .i64 er])
  | .ok l => ∃ v, e = .returned (.tuple #[v, .int .i64 0]) ∧ OwnX chgE w' w.heap.size (w.heap.size ≤ ·) v l
theorem GetCRet.has {b : List UInt8} {w w' : World} {l : List Ch} {v : Value} (h : getC b = .ok l) (hb : Below w.heap.size w w') (hv : OwnX chgE w' w.heap.size (w.heap.size ≤ ·) v l) : GetCRet b w (.returned (.tuple #[v, .int .i64 0])) w' := ⟨hb, by rw [h]; exact ⟨v, rfl, hv⟩⟩
end Go.Proofs.YtdhlejhflkfoaaaDoor

/- The reference of layer 7: Find, without, with. -/
namespace Go.Proofs.YtdhlejhflkfoaaaDoor
open Go.RowKit Go.Shelf
set_option linter.unusedVariables false
set_option maxRecDepth 100000
set_option linter.unusedSimpArgs false

def findP (t : List Rw) (k : Key) : Option (List UInt8) := if mayP t then lookR t k else none
def FindRet (t : List Rw) (key : Key) (w : World) (e : Ending) (w' : World) : Prop := Below w.heap.size w w' ∧ match findP t key with
  | none => e = .returned (.tuple #[.slice none 0 0, .bool false])
  | some x => ∃ v, e = .returned (.tuple #[v, .bool true]) ∧ w'.ownsRow w.heap.size 5 1 v x.length (cellsOf x)
theorem FindRet.no {t : List Rw} {key : Key} {w w' : World} (h : findP t key = none) (hb : Below w.heap.size w w') : FindRet t key w (.returned (.tuple #[.slice none 0 0, .bool false])) w' := ⟨hb, by rw [h]⟩
theorem FindRet.yes {t : List Rw} {key : Key} {w w' : World} {x : List UInt8} {v : Value} (h : findP t key = some x) (hb : Below w.heap.size w w') (ho : w'.ownsRow w.heap.size 5 1 v x.length (cellsOf x)) : FindRet t key w (.returned (.tuple #[v, .bool true])) w' := ⟨hb, by rw [h]; exact ⟨v, rfl, ho⟩⟩
def rwCells (x : Rw) (A : Option Addr) (c : Nat) : List Value := [.string ⟨x.1.toArray⟩, .slice A x.2.length c]
theorem infoRw (x : Rw) (A : Option Addr) (c : Nat) : (Tryd.prog.info? 41).map (·.size) = some (rwCells x A c).length := by kernel_rfl
theorem rwCells_one (x : Rw) (A : Option Addr) (c : Nat) : ∀ v ∈ rwCells x A c, v.oneCell' = true := by
  intro v hv
  simp [rwCells] at hv
  rcases hv with rfl | rfl <;> rfl
theorem wp_buildRow {w : World} {o : Oper} {a : Act} {Q : Exit → Act → World → Prop} {K : Act → World → Prop} (x : Operand) (ho : o.op = .buildSlice 34 1 #[(0, x)]) (r : Rw) (A : Option Addr) (c : Nat) (hx : a.eval x = .agg (rwCells r A c).toArray)
    (hK : ∀ g w', Cs w' g 41 (rwCells r A c).toArray → Below w.heap.size w w' → w.heap.size ≤ g → K (a.put o.dst (.slice (some ⟨g, 0, none⟩) 1 1)) w') : o.wp Tryd.prog a w K Q := by
  refine wp_of_run2 (v := .slice (some ⟨w.heap.size, 0, none⟩) 1 1) (w' := w.alloc (.cells (rwCells r A c).toArray 41)) ?_ (hK _ _ (Cs.new _ _ _) ((Below.refl _ _).alloc (Nat.le_refl _) _) (Nat.le_refl _))
  unfold execOp
  simp only [ho, hx, List.map_toArray, List.map_cons, List.map_nil, rwCells]
  go_simp
theorem kept_bsv (F : Nat → Prop) (v : Value) (l : List UInt8) : Kept (fun u => BsV u F v l) := fun u u' h hb => h.below hb
theorem kept_ownX {α : Type} {E : Elem α} (B : Nat) (F : Nat → Prop) (v : Value) (ls : List α) : Kept (fun u => OwnX E u B F v ls) := fun u u' h hb => h.below hb
end Go.Proofs.YtdhlejhflkfoaaaDoor

/- The reference of layer 7: with. -/
namespace Go.Proofs.YtdhlejhflkfoaaaDoor
open Go.RowKit Go.Shelf
set_option linter.unusedVariables false
set_option maxRecDepth 100000
set_option linter.unusedSimpArgs false

section
variable {α : Type} {E : Elem α}
/-- a list of one's own in new memory, of elements that hold old memory -/
structure OwnO (E : Elem α) (w : World) (B : Nat) (F : Nat → Prop) (v : Value) (ls : List α) : Prop where
  row : ∃ xs, w.ownsRow B E.ety E.n v ls.length xs ∧ RowX E w F xs ls
  old : ∀ k, F k → k < B
theorem OwnO.nil (w : World) (B : Nat) (F : Nat → Prop) (hF : ∀ k, F k → k < B) : OwnO E w B F (.slice none 0 0) [] := ⟨⟨[], World.ownsRow_nil _ _ _ _, RowX.nil _ _⟩, hF⟩
theorem OwnO.lt {w : World} {B : Nat} {F : Nat → Prop} {v : Value} {ls : List α} (h : OwnO E w B F v ls) : ∀ k, v.ownBlock = some k → B ≤ k ∧ k < w.heap.size := by
  obtain ⟨⟨vs, h1, h2⟩, h3⟩ := h
  exact h1.lt
theorem OwnO.turn {w w' : World} {B : Nat} {F G : Nat → Prop} {v : Value} {ls : List α} (h : OwnO E w B F v ls) (ht : Turn w w' G) (h1 : ∀ k, F k → ¬ G k) (h2 : ∀ k, v.ownBlock = some k → ¬ G k) : OwnO E w' B F v ls := by
  obtain ⟨⟨vs, hr, hx⟩, h3⟩ := h
  exact ⟨⟨vs, ownsRow_turn' hr ht h2, hx.turn ht h1⟩, h3⟩
theorem OwnO.below {w w' : World} {B : Nat} {F : Nat → Prop} {v : Value} {ls : List α} (h : OwnO E w B F v ls) (hb : Below w.heap.size w w') : OwnO E w' B F v ls := h.turn (Turn.of_below hb fun _ => False) (fun _ _ h => h) fun _ _ h => h
/-- the list, with all that it holds -/
theorem OwnO.x {w : World} {B : Nat} {F : Nat → Prop} {v : Value} {ls : List α} (h : OwnO E w B F v ls) : OwnX E w B (fun q => F q ∨ B ≤ q) v ls := by
  obtain ⟨⟨vs, hr, hx⟩, h3⟩ := id h
  exact ⟨⟨vs, hr, hx.mono fun k _ hk => ⟨.inl hk, fun e => by have := (h.lt k e).1; have := h3 k hk; omega⟩⟩, fun k hk => .inr (h.lt k hk).1⟩
theorem OwnO.form {w : World} {B : Nat} {F : Nat → Prop} {v : Value} {ls : List α} (h : OwnO E w B F v ls) : ∃ A c, v = .slice A ls.length c ∧ RdX E w (fun q => F q ∨ B ≤ q) A ls ∧ ls.length ≤ c ∧ c ≤ maxLen ∧ (A = none → ls = [] ∧ c = 0) := h.x.form
variable {w : World} {ops : Array Oper} {rest : List Oper} {o : Oper} {a : Act} {Q : Exit → Act → World → Prop} {K : Act → World → Prop}
end
theorem row_rd {w : World} {F : Nat → Prop} {A : Option Addr} {ls : List Rw} (h : RdX rowE w F A ls) (j : Nat) (hj : j < ls.length) : ∃ b off A' c, A = some ⟨b, off, none⟩ ∧ At w b (off + j * 2) (rwCells ls[j] A' c) ∧ BsV w F (.slice A' ls[j].2.length c) ls[j].2 := by
  obtain ⟨b, off, cs, e, ⟨v, rfl, A', c, rfl, h1⟩, hat⟩ := h.get j hj
  exact ⟨b, off, A', c, e, hat, A', c, rfl, h1⟩
theorem rw_c0 {w : World} {g : Nat} {x : Rw} {A : Option Addr} {c : Nat} (h : Cs w g 41 (rwCells x A c).toArray) : w.cell? ⟨g, 0, none⟩ = some (.string ⟨x.1.toArray⟩) := h.cell 0 rfl
theorem wpList_buildRow {w : World} {ops : Array Oper} {rest : List Oper} {o : Oper} {a : Act} {Q : Exit → Act → World → Prop} (hgd : o.guard = none) (x : Operand) (ho : o.op = .buildSlice 34 1 #[(0, x)]) (r : Rw) (A : Option Addr) (c : Nat) (hx : a.eval x = .agg (rwCells r A c).toArray)
    (hK : ∀ g w', Cs w' g 41 (rwCells r A c).toArray → Below w.heap.size w w' → w.heap.size ≤ g → wpList Tryd.prog ops Q rest (a.put o.dst (.slice (some ⟨g, 0, none⟩) 1 1)) w') : wpList Tryd.prog ops Q (o :: rest) a w :=
  wpList_plain hgd fun _ hh => wp_buildRow x ho r A c hx fun g w' h1 h2 h3 => hh _ _ (hK g w' h1 h2 h3)
end Go.Proofs.YtdhlejhflkfoaaaDoor

/- The reference of layer 7: Apply. -/
namespace Go.Proofs.YtdhlejhflkfoaaaDoor
open Go.RowKit Go.Shelf
set_option linter.unusedVariables false
set_option maxRecDepth 100000
set_option linter.unusedSimpArgs false

def ApplyRet (t : List Rw) (l : List Ch) (w : World) (e : Ending) (w' : World) : Prop := Below w.heap.size w w' ∧
  if mayP t && mayCP l then ∃ v, e = .returned (.tuple #[v, .int .i64 0]) ∧ OwnX rowE w' w.heap.size (w.heap.size ≤ ·) v (applyP t l) else e = .returned (.tuple #[.slice none 0 0, .int .i64 2])
theorem ApplyRet.no {t : List Rw} {l : List Ch} {w w' : World} (h : (mayP t && mayCP l) = false) (hb : Below w.heap.size w w') : ApplyRet t l w (.returned (.tuple #[.slice none 0 0, .int .i64 2])) w' := ⟨hb, by rw [h]; rfl⟩
theorem ApplyRet.yes {t : List Rw} {l : List Ch} {w w' : World} {v : Value} (h : (mayP t && mayCP l) = true) (hb : Below w.heap.size w w') (ho : OwnX rowE w' w.heap.size (w.heap.size ≤ ·) v (applyP t l)) : ApplyRet t l w (.returned (.tuple #[v, .int .i64 0])) w' := ⟨hb, by rw [h, if_pos rfl]; exact ⟨v, rfl, ho⟩⟩
end Go.Proofs.YtdhlejhflkfoaaaDoor

/- The reference of layer 7: Between. -/
namespace Go.Proofs.YtdhlejhflkfoaaaDoor
open Go.RowKit Go.Shelf
set_option linter.unusedVariables false
set_option maxRecDepth 100000
set_option linter.unusedSimpArgs false

def rwZero : List Value := [.string ⟨#[]⟩, .slice none 0 0]
theorem zeroRw (w : World) : (zeroValue 41).run Tryd.prog w = .ok (.agg rwZero.toArray) w := by kernel_rfl
theorem infoRw2 (a b : Value) : (Tryd.prog.info? 41).map (·.size) = some [a, b].length := by kernel_rfl
theorem one2r {a b : Value} (h1 : a.oneCell' = true) (h2 : b.oneCell' = true) : ∀ v ∈ [a, b], v.oneCell' = true := by
  intro v hv
  simp at hv
  rcases hv with rfl | rfl <;> assumption
def BetwRet (a b : List Rw) (w : World) (e : Ending) (w' : World) : Prop := Below w.heap.size w w' ∧
  if mayP a && mayP b then ∃ v, e = .returned (.tuple #[v, .int .i64 0]) ∧ OwnX chgE w' w.heap.size (w.heap.size ≤ ·) v (betweenP a b) else e = .returned (.tuple #[.slice none 0 0, .int .i64 2])
theorem BetwRet.no {a b : List Rw} {w w' : World} (h : (mayP a && mayP b) = false) (hb : Below w.heap.size w w') : BetwRet a b w (.returned (.tuple #[.slice none 0 0, .int .i64 2])) w' := ⟨hb, by rw [h]; rfl⟩
theorem BetwRet.yes {a b : List Rw} {w w' : World} {v : Value} (h : (mayP a && mayP b) = true) (hb : Below w.heap.size w w') (ho : OwnX chgE w' w.heap.size (w.heap.size ≤ ·) v (betweenP a b)) : BetwRet a b w (.returned (.tuple #[v, .int .i64 0])) w' := ⟨hb, by rw [h, if_pos rfl]; exact ⟨v, rfl, ho⟩⟩
end Go.Proofs.YtdhlejhflkfoaaaDoor
