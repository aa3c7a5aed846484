/- Words for memory: a block known whole, a slice that reads as bytes, append of bytes, a list of bytes among the arguments. -/
import Derived.Test.YtlhbipommhljiaaRows
import Derived.WalkKit
import Derived.WalkSpells
import Derived.WalkLawsBesides
import Derived.Outline
import Derived.Lib.Hide
import Derived.RangeFuncNested
import Derived.OwnWalkIn
import Derived.OwnWalk
import Derived.RangeFuncBox
import Derived.Lib.SlBytesRow
import Derived.Shelf.Bytes.SlSmallAll
import Derived.Laws.AppendOwnNone
import Derived.Maps.AppendAt
import Derived.ProofKit
import Derived.OpenShut
import Derived.ShutString
import Derived.ChangeOld
import Derived.Below
import Derived.SizedLaws
namespace Go.Proofs.Ytlhbipommhljiaa
open Go.RowKit Go.Shelf Go.ChangeShapes Go.WideShapes Go.ChangeAt
set_option linter.unusedVariables false

/-- block g is known whole -/
def Cs (W : World) (g : Nat) (t : TypeId) (cs : Array Value) : Prop := W.heap[g]? = some (.cells cs t (0, 0))
theorem Cs.lt {W : World} {g : Nat} {t : TypeId} {cs : Array Value} (h : Cs W g t cs) : g < W.heap.size := (Array.getElem?_eq_some_iff.1 h).1
theorem Cs.cell {W : World} {g : Nat} {t : TypeId} {cs : Array Value} (h : Cs W g t cs) (i : Nat) {v : Value} (hv : cs[i]? = some v) : W.cell? ⟨g, i, none⟩ = some v := (cell_of_row W g i cs t (0, 0) h).trans hv
theorem Cs.frozen {W : World} {g : Nat} {t : TypeId} {cs : Array Value} (h : Cs W g t cs) (i : Nat) : W.frozen? ⟨g, i, none⟩ = false := by
  unfold Cs at h
  simp [World.frozen?, h]
theorem Cs.alloc {W : World} {g : Nat} {t : TypeId} {cs : Array Value} (h : Cs W g t cs) (o : Obj) : Cs (W.alloc o) g t cs := (Below.heap_alloc W o g h.lt).trans h
theorem Cs.drew {W : World} {g : Nat} {t : TypeId} {cs : Array Value} (h : Cs W g t cs) : Cs W.drew g t cs := h
theorem Cs.new (W : World) (t : TypeId) (cs : Array Value) : Cs (W.alloc (.cells cs t)) W.heap.size t cs := World.alloc_heap_new W _
theorem Cs.set {W : World} {g : Nat} {t : TypeId} {cs : Array Value} (h : Cs W g t cs) (i : Nat) (u : Value) : Cs (W.setCell ⟨g, i, none⟩ u) g t (cs.setIfInBounds i u) := by
  unfold Cs at h ⊢
  simp [World.setCell, Array.getElem?_modify, h]
theorem Cs.far {W : World} {g : Nat} {t : TypeId} {cs : Array Value} (h : Cs W g t cs) {p : Addr} (hp : g ≠ p.block) (u : Value) : Cs (W.setCell p u) g t cs := (Below.heap_setCell W p u g hp).trans h
theorem Cs.below {B : Nat} {W W' : World} {g : Nat} {t : TypeId} {cs : Array Value} (h : Cs W g t cs) (hb : Below B W W') (hg : g < B) : Cs W' g t cs := (hb.block g hg).trans h
theorem Cs.put {W : World} {g : Nat} {t : TypeId} {cs : Array Value} (h : Cs W g t cs) {D : Nat} {o : Obj} (o' : Obj) (ho : W.heap[D]? = some o) (hc : o.isCells = false) : Cs (W.putObj D o') g t cs :=
  (World.putObj_heap_other (by rintro rfl; rw [show W.heap[_]? = _ from h] at ho; cases ho; cases hc)).trans h
theorem cs_own {β : Type} (g : Nat) (t : TypeId) (f : β → Array Value) : Own (fun s W => Cs W g t (f s)) := fun s X Y row hs hg hrow => (grownBy_keeps_cells hg hrow hs rfl).trans hs
/-- A slice at A reads as the bytes l. -/
def Rd (W : World) (A : Option Addr) (l : List UInt8) : Prop :=
  l = [] ∨ ∃ b off, A = some ⟨b, off, none⟩ ∧ ∀ j (h : j < l.length), W.cell? ⟨b, off + j, none⟩ = some (.int .u8 (l[j].toNat : Int))
theorem Rd.keep {W W' : World} {A : Option Addr} {l : List UInt8} (h : Rd W A l) (hk : ∀ p v, W.cell? p = some v → W'.cell? p = some v) : Rd W' A l := by
  rcases h with h | ⟨b, off, e, hc⟩
  · exact .inl h
  · exact .inr ⟨b, off, e, fun j hj => hk _ _ (hc j hj)⟩
theorem lt_of_cell {W : World} {p : Addr} {v : Value} (h : W.cell? p = some v) : p.block < W.heap.size := by
  obtain ⟨o, ho, _⟩ := cells_of_cell h
  exact (Array.getElem?_eq_some_iff.1 ho).1
theorem Rd.below {W W' : World} {A : Option Addr} {l : List UInt8} (h : Rd W A l) (hb : Below W.heap.size W W') : Rd W' A l :=
  h.keep fun p v hv => (hb.cell (lt_of_cell hv)).trans hv
theorem ba_size (l : List UInt8) : (⟨l.toArray⟩ : ByteArray).size = l.length := by
  show l.toArray.size = _
  simp
theorem conv_rd {W : World} {A : Option Addr} {l : List UInt8} (h : Rd W A l) (c : Nat) : (convert 23 9 (.slice A l.length c)).run Try.prog W = .ok (.string ⟨l.toArray⟩) W := by
  rcases h with rfl | ⟨b, off, rfl, hc⟩
  · exact run_convert_bytes_zero W 23 5 Try.underlying23 Try.underlying5 A c 9 Try.underlying9
  · have := Lib.run_convert_whole (P := Try.prog) W 23 5 9 Try.underlying23 Try.underlying5 Try.underlying9 b off ⟨l.toArray⟩ (fun i hi => by
      have hi' : i < l.length := by rw [ba_size] at hi; exact hi
      rw [hc i hi']
      rfl) c
    rw [ba_size] at this
    exact this
theorem rd_cs {W : World} {g : Nat} {l : List UInt8} {cs : Array Value} (h : Cs W g 5 cs) (e : cs = (l.map fun c => Value.int .u8 (c.toNat : Int)).toArray) : Rd W (some ⟨g, 0, none⟩) l :=
  .inr ⟨g, 0, rfl, fun j hj => by
    rw [Nat.zero_add]
    exact h.cell j (by rw [e]; simp [List.getElem?_eq_getElem hj])⟩
theorem below_alloc {W W' : World} (o : Obj) (h : Below (W.alloc o).heap.size (W.alloc o) W') : Below W.heap.size W W' :=
  ((Below.refl W.heap.size W).alloc (Nat.le_refl _) o).trans (h.mono (by simp))
theorem below_chain {a b c : World} (h : Below a.heap.size a b) (k : Below b.heap.size b c) : Below a.heap.size a c := h.trans (k.mono h.size)
/-- bytes as cells -/
def cellsOf (l : List UInt8) : List Value := l.map fun c => .int .u8 (c.toNat : Int)
theorem cellsOf_length (l : List UInt8) : (cellsOf l).length = l.length := by simp [cellsOf]
theorem cellsOf_one (l : List UInt8) : ∀ u ∈ cellsOf l, u.oneCell' = true := by
  intro u hu
  simp only [cellsOf, List.mem_map] at hu
  obtain ⟨c, _, rfl⟩ := hu
  rfl
theorem cellsOf_append (p q : List UInt8) : cellsOf (p ++ q) = cellsOf p ++ cellsOf q := by simp [cellsOf]
theorem rd_cells {W : World} {a : Addr} {l : List UInt8} (h : Rd W (some a) l) : ∀ j u, (cellsOf l)[j]? = some u → W.cell? (a.add j) = some u := by
  intro j u hu
  rcases h with rfl | ⟨b, off, e, hc⟩
  · simp [cellsOf] at hu
  · cases e
    have hj : j < l.length := by
      rcases Nat.lt_or_ge j l.length with h1 | h1
      · exact h1
      · rw [List.getElem?_eq_none (by rw [cellsOf_length]; exact h1)] at hu; cases hu
    have e1 : (⟨b, off, none⟩ : Addr).add j = ⟨b, off + j, none⟩ := by
      unfold Addr.add
      split <;> simp_all
    rw [e1, hc j hj]
    simp only [cellsOf, List.getElem?_map, List.getElem?_eq_getElem hj, Option.map_some, Option.some.injEq] at hu
    rw [hu]
theorem own_rd {W : World} {base g n cap : Nat} {l : List UInt8} (h : W.ownsRow base 5 1 (.slice (some ⟨g, 0, none⟩) n cap) n (cellsOf l)) : Rd W (some ⟨g, 0, none⟩) l := by
  refine .inr ⟨g, 0, rfl, fun j hj => ?_⟩
  have := h.cells (g := g) rfl j (.int .u8 (l[j].toNat : Int)) (by simp [cellsOf, List.getElem?_eq_getElem hj])
  have e1 : (⟨g, 0, none⟩ : Addr).add j = ⟨g, 0 + j, none⟩ := by
    unfold Addr.add
    split <;> simp_all
  rw [e1] at this
  exact this
theorem rd_prefix {W : World} {A : Option Addr} {p q : List UInt8} (h : Rd W A (p ++ q)) : Rd W A p := by
  rcases h with h | ⟨b, off, e, hc⟩
  · exact .inl (List.append_eq_nil_iff.1 h).1
  · refine .inr ⟨b, off, e, fun j hj => ?_⟩
    rw [hc j (by rw [List.length_append]; omega), List.getElem_append_left hj]
theorem own_caps {W : World} {base g n cap : Nat} {e : TypeId} {xs : List Value} (h : W.ownsRow base e 1 (.slice (some ⟨g, 0, none⟩) n cap) n xs) : n ≤ cap ∧ cap ≤ maxLen := by
  rcases h.2 with ⟨h0, _⟩ | ⟨g', cap', cur, hv, _, _, h1, h2, _⟩
  · cases h0
  · cases hv; exact ⟨h1, h2⟩
theorem Try_info5 : (Try.prog.info? 5).map (fun i => (i.zero, i.size, i.bytes)) = some (some (.int .u8 0), 1, 1) := by kernel_rfl
theorem own_base {W : World} {base n : Nat} {e : TypeId} {v : Value} {xs : List Value} (h : W.ownsRow base e 1 v n xs) : ∀ k, v.ownBlock = some k → base ≤ k := by
  intro k hk
  rcases h.2 with ⟨rfl, _⟩ | ⟨g', cap', cur, rfl, hg, _⟩
  · cases hk
  · cases hk; exact hg
/-- append of bytes that read as l, nil or not, to a slice of the call's own -/
theorem append_rd {w : World} {ops : Array Oper} {rest : List Oper} {o : Oper} {a : Act} {Q : Exit → Act → World → Prop} (hgd : o.guard = none) (s x : Operand)
    (ho : o.op = .call { callee := .builtin .append, args := #[s, x], argTypes := #[23, 23] })
    (base : Nat) (v : Value) (n : Nat) (xs : List UInt8) (hs : a.eval s = v) (hown : w.ownsRow base 5 1 v n (cellsOf xs))
    (A : Option Addr) (l : List UInt8) (m c : Nat) (hm : m = l.length) (hx : a.eval x = .slice A m c) (hr : Rd w A l) (hA : A = none → l = [] ∧ c = 0) (hb : n + m ≤ 140737488355328) (hbase : base ≤ w.heap.size)
    (h : ∀ v' w', w'.ownsRow base 5 1 v' (n + m) (cellsOf (xs ++ l)) → w.grownBy w' v.ownBlock → wpList Try.prog ops Q rest (a.put o.dst v') w') : wpList Try.prog ops Q (o :: rest) a w := by
  obtain ⟨i0, hi, hz0, hz1, hz2⟩ := info_parts Try_info5
  subst hm
  rcases A with _ | ad
  · obtain ⟨rfl, rfl⟩ := hA rfl
    refine wpList_append_own_none hgd s x 23 ho base 5 i0 1 Try.underlying23 hi v n (cellsOf xs) hs hown hx ?_
    refine h v w ?_ (World.grownBy.refl w _)
    rw [List.append_nil]
    exact hown
  · refine wpList_append_own w hgd s x 23 ho base 5 i0 (.int .u8 0) 1 1 Try.underlying23 hi hz0 hz1 hz2 rfl (by decide) v n (cellsOf xs) hs hown ad l.length c (cellsOf l) hx (by rw [cellsOf_length, Nat.mul_one]) (rd_cells hr) (cellsOf_one l) (by simp only [maxLen]; omega) (by omega) hbase ?_
    intro v' w' h1 h2 _
    rw [← cellsOf_append] at h1
    exact h v' w' h1 h2
theorem own_form {W : World} {base n : Nat} {e : TypeId} {v : Value} {xs : List Value} (h : W.ownsRow base e 1 v n xs) (hn : 1 ≤ n) : ∃ g cap, v = .slice (some ⟨g, 0, none⟩) n cap ∧ n ≤ cap ∧ cap ≤ maxLen := by
  rcases h.2 with ⟨_, h0⟩ | ⟨g, cap, cur, hv, _, _, h1, h2, _⟩
  · omega
  · exact ⟨g, cap, hv, h1, h2⟩
theorem rd_take {W : World} {A : Option Addr} {l : List UInt8} (h : Rd W A l) (m : Nat) : Rd W A (l.take m) :=
  rd_prefix (q := l.drop m) (by rw [List.take_append_drop]; exact h)
/-- what is told of a list of bytes that came in: how it reads, and how much its datum holds -/
def Came {H : Type} (W : World) (v : Value) (d : DataW H) (A : Option Addr) (l : List UInt8) (c : Nat) : Prop :=
  v = .slice A l.length c ∧ Rd W A l ∧ (A = none → l = [] ∧ c = 0) ∧ l.length ≤ c ∧ c ≤ maxLen ∧
    (d = .nil ∨ ∃ elems spare, d = .slice elems spare ∧ elems.length = l.length ∧ elems.length + spare.length = c)
theorem open_came {H : Type} {enc : TypeId × Value → H} {W : World} {base : Nat} {v : Value} {d : DataW H} {p : List MemPlace} (hv : Value.okWide Try.prog W .any base 23 v)
    (h : DataW.Trod enc Try.prog W 0 (fun _ => true) true 23 v d p) : ∃ A l c, Came W v d A l c := by
  obtain ⟨A, len, cap, rfl⟩ := okWide_slice Try.underlying23 hv
  obtain ⟨fuel, hf⟩ := h
  rcases open_ints Try.underlying23 Try.underlying5 (by kernel_rfl) hf with ⟨hcs, hx⟩ | ⟨x, len', cap', zs, hcs, _, hl, hm, hz, hx, hcell, hwz⟩
  · simp [Value.cells] at hcs
    obtain ⟨rfl, rfl, rfl⟩ := hcs
    simp only [Prod.mk.injEq] at hx
    exact ⟨none, [], 0, rfl, .inl rfl, fun _ => ⟨rfl, rfl⟩, Nat.le_refl _, Nat.zero_le _, .inl hx.1⟩
  · simp [Value.cells] at hcs
    obtain ⟨rfl, rfl, rfl⟩ := hcs
    have hz' : zs.length = cap := by simpa using hz
    simp only [Prod.mk.injEq] at hx
    have hlen : ((zs.take len).map fun n => UInt8.ofNat n.toNat).length = len := by
      rw [List.length_map, List.length_take]; omega
    refine ⟨some x, (zs.take len).map fun n => UInt8.ofNat n.toNat, cap, by rw [hlen], ?_, (fun h => by cases h), by rw [hlen]; exact hl, hm, .inr ⟨_, _, hx.1, ?_, ?_⟩⟩
    · by_cases h0 : len = 0
      · subst h0; exact .inl (by simp)
      · obtain ⟨b, off, spot⟩ := x
        have hc0 := hcell 0 (by omega)
        have hspot : spot = none := by simpa [Addr.add] using World.cell?_spot hc0
        subst hspot
        refine .inr ⟨b, off, rfl, fun j hj => ?_⟩
        rw [hlen] at hj
        have hjz : j < zs.length := by omega
        have hc := hcell j hjz
        have e1 : (⟨b, off, none⟩ : Addr).add j = ⟨b, off + j, none⟩ := by
          unfold Addr.add
          split <;> simp_all
        rw [e1] at hc
        rw [hc]
        have hw := hwz zs[j] (List.getElem_mem hjz)
        have hbd : 0 ≤ zs[j] ∧ zs[j] ≤ 255 := by simpa [Lit.wf, IntKind.min, IntKind.max, IntKind.signed, IntKind.bits] using hw
        have e2 : ((UInt8.ofNat (zs[j]).toNat).toNat : Int) = zs[j] := by
          rw [UInt8.toNat_ofNat']
          omega
        simp only [List.getElem_map, List.getElem_take, e2, List.getD, List.getElem?_eq_getElem hjz, Option.getD_some]
    · rw [hlen]; simp [lits]; omega
    · simp [lits]; omega
theorem nil_came {H : Type} {enc : TypeId × Value → H} {W : World} {v : Value} {d : DataW H} {p : List MemPlace} {A : Option Addr} {l : List UInt8} {c : Nat} (h : DataW.Trod enc Try.prog W 0 (fun _ => true) true 23 v d p)
    (hc : Came W v d A l c) : d = .nil → l = [] := by
  rintro rfl
  obtain ⟨m, hm⟩ := h
  rcases open_ints Try.underlying23 Try.underlying5 (by kernel_rfl) hm with ⟨hcs, _⟩ | ⟨x, len', cap', zs, _, _, _, _, _, hx, _⟩
  · rw [hc.1] at hcs
    simp [Value.cells] at hcs
    exact hcs.2.1
  · simp at hx
theorem Try_bytes5 : Try.prog.bytesOf 5 = 1 := by kernel_rfl
/-- what the bound gives of a list that came in -/
theorem came_le {H : Type} {W : World} {v : Value} {d : DataW H} {A : Option Addr} {l : List UInt8} {c : Nat} (h : Came W v d A l c) (hd : d = .nil → l = []) : l.length ≤ Rows.uptoBulk d := by
  have len : ∀ q : List (DataW H), q.length ≤ Rows.uptoBulkAll q := by
    intro q
    induction q with
    | nil => simp [Rows.uptoBulkAll]
    | cons x r ih =>
      have h1 : 1 ≤ Rows.uptoBulk x := by
        cases x with
        | lit y => cases y <;> simp [Rows.uptoBulk]
        | _ => simp [Rows.uptoBulk]
      simp only [Rows.uptoBulkAll, List.length_cons]
      omega
  rcases h.2.2.2.2.2 with rfl | ⟨elems, spare, rfl, he, _⟩
  · rw [hd rfl]; simp
  · have := len elems
    simp only [Rows.uptoBulk]
    omega

end Go.Proofs.Ytlhbipommhljiaa
