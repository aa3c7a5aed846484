/- SWEPT -/
import Derived.ChangeArms
import Derived.Lib.SmallJoins
import Derived.Test.YtfgbpinfplllgaaGreatDoorZBchAK
import Derived.Test.YtfgbpinfplllgaaGreatDoorZJourCutsA
import Derived.Test.YtfgbpinfplllgaaGreatDoorZTblK
set_option linter.unusedVariables false
set_option linter.unusedSimpArgs false
namespace Go.Proofs.YtfgbpinfplllgaaGreatDoor
open Go.RowKit Go.Shelf Go.ChangeShapes Go.WideShapes Go.ChangeAt Go.Deep
set_option maxRecDepth 100000
def RdIF (w : World) (F : Nat → Prop) (A : Option Addr) (l : List Int) : Prop := l = [] ∨ ∃ b f, A = some ⟨b, f, none⟩ ∧ F b ∧ ∀ j (h : j < l.length), w.cell? ⟨b, f + j, none⟩ = some (.int .i64 l[j])
theorem RdIF.rd {w : World} {F : Nat → Prop} {A : Option Addr} {l : List Int} (h : RdIF w F A l) : RdI w A l := by
  rcases h with h | ⟨b, f, e, _, hc⟩
  · exact .inl h
  · exact .inr ⟨b, f, e, hc⟩
theorem RdIF.turn {w w' : World} {F G : Nat → Prop} {A : Option Addr} {l : List Int} (h : RdIF w F A l) (ht : Turn w w' G) (hG : ∀ k, F k → ¬ G k) : RdIF w' F A l := by
  rcases h with h | ⟨b, f, e, hF, hc⟩
  · exact .inl h
  · exact .inr ⟨b, f, e, hF, fun j hj => (World.cell?_of_block (w := w) (ht.block b (lt_of_cell (hc j hj)) (hG _ hF))).trans (hc j hj)⟩
theorem RdIF.mono {w : World} {F G : Nat → Prop} {A : Option Addr} {l : List Int} (h : RdIF w F A l) (hF : ∀ k, k < w.heap.size → F k → G k) : RdIF w G A l := by
  by_cases h0 : l = []
  · exact .inl h0
  rcases h with h | ⟨b, f, e, h1, hc⟩
  · exact .inl h
  · have hp : 0 < l.length := List.length_pos_iff.2 h0
    exact .inr ⟨b, f, e, hF b (lt_of_cell (hc 0 hp)) h1, hc⟩
theorem RdI.f {w : World} {A : Option Addr} {l : List Int} (h : RdI w A l) : RdIF w (· < w.heap.size) A l := by
  by_cases h0 : l = []
  · exact .inl h0
  rcases h with h | ⟨b, f, e, hc⟩
  · exact .inl h
  · have hp : 0 < l.length := List.length_pos_iff.2 h0
    exact .inr ⟨b, f, e, lt_of_cell (hc 0 hp), hc⟩
structure Ct8 where
  b : Option Addr
  l : List Ch
  c : Nat
  arm : Nat
  p : Option Addr
  picks : List Int
  pc : Nat
def ctCells8 (x : Ct8) : List Value := [.slice x.b x.l.length x.c, .int .u8 (x.arm : Int), .slice x.p x.picks.length x.pc]
structure CtOk8 (w : World) (F : Nat → Prop) (x : Ct8) : Prop where
  rd : LsV chgE w F (.slice x.b x.l.length x.c) x.l
  arm : x.arm < 256
  picks : RdIF w F x.p x.picks
  wf : ∀ y ∈ x.picks, -9223372036854775808 ≤ y ∧ y ≤ 9223372036854775807
  few : x.picks.length ≤ 9223372036854775807
theorem LsV.mono8 {α : Type} {E : Elem α} {w : World} {F G : Nat → Prop} {v : Value} {ls : List α} (h : LsV E w F v ls) (hF : ∀ k, k < w.heap.size → F k → G k) : LsV E w G v ls := by
  obtain ⟨A, c, h1, h2, h3⟩ := h
  exact ⟨A, c, h1, h2.mono hF, h3⟩
def cutE8 : Elem Ct8 where
  ety := 68
  sty := 63
  n := 3
  bytes := 56
  rd w F cs x := cs = ctCells8 x ∧ CtOk8 w F x
  und := Tryz.underlying63
  info := ⟨_, _, rfl, rfl, rfl, rfl, rfl⟩
  pos := by decide
  byt := by decide
  len := by rintro w F cs x ⟨rfl, _⟩; rfl
  one := by
    rintro w F cs x ⟨rfl, h⟩ u hu
    simp [ctCells8] at hu
    rcases hu with rfl | rfl | rfl <;> rfl
  turn := by rintro w w' F G cs x ⟨h, k⟩ ht hG; exact ⟨h, k.rd.turn ht hG, k.arm, k.picks.turn ht hG, k.wf, k.few⟩
  mono := by rintro w F G cs x ⟨h, k⟩ hF; exact ⟨h, k.rd.mono8 hF, k.arm, k.picks.mono hF, k.wf, k.few⟩
section
variable {H : Type} {enc : TypeId × Value → H} {W : World} {fuel : Nat}
theorem bulk_len8 : ∀ q : List (DataW H), q.length ≤ Rows.uptoBulkAll q := by
  intro q
  induction q with
  | nil => simp [Rows.uptoBulkAll]
  | cons x r ih =>
    have h1 : 1 ≤ Rows.uptoBulk x := by
      cases x with
      | lit y => cases y <;> simp [Rows.uptoBulk]
      | _ => simp [Rows.uptoBulk]
    simp only [Rows.uptoBulkAll, List.length_cons]
    omega
theorem bulk_mem8 : ∀ {q : List (DataW H)} {d : DataW H}, d ∈ q → Rows.uptoBulk d ≤ Rows.uptoBulkAll q
  | x :: r, d, h => by
    simp only [Rows.uptoBulkAll]
    rcases List.mem_cons.1 h with rfl | h
    · omega
    · have := bulk_mem8 h; omega
theorem trod_chgs {cs : List Value} {x : DataW H × List MemPlace} (h : DataW.trod enc Tryz.prog W 0 (fun _ => true) true fuel 43 cs = some x) : ∃ A l c, cs = [.slice A l.length c] ∧ LsV chgE W (· < W.heap.size) (.slice A l.length c) l ∧ (∀ x ∈ l, x.1.length ≤ maxLen) ∧ l.length ≤ Rows.uptoBulk x.1 := by
  rcases open_slice Tryz.underlying43 h with ⟨hcs, hx⟩ | ⟨a, len, cap, m, n, D, Pl, hcs, hb, hl, hm, hmm, hx, hi⟩
  · exact ⟨none, [], 0, hcs, LsV.nil _ _, by simp, Nat.zero_le _⟩
  · have hmle : len ≤ m := by rw [hmm]; split <;> omega
    have hn : Tryz.prog.cellsOf 73 = 3 := by kernel_rfl
    have key : ∀ k, k ≤ len → ∃ (xs : List Value) (ls : List Ch), ls.length = k ∧ RowX chgE W (· < W.heap.size) xs ls ∧ (∀ z ∈ ls, z.1.length ≤ maxLen) ∧ ∀ i u, xs[i]? = some u → W.cell? (a.add i) = some u := by
      intro k
      induction k with
      | zero => exact fun _ => ⟨[], [], rfl, RowX.nil _ _, by simp, fun i u h => by simp at h⟩
      | succ k ih =>
        intro hk
        obtain ⟨xs, ls, h1, h2, h3, h4⟩ := ih (by omega)
        obtain ⟨cs', hc, ht⟩ := hi k (by omega)
        obtain ⟨z, hz, hp⟩ := trod_change ht
        obtain ⟨_, hcl, hat⟩ := World.cells?_some hc
        rw [hn] at hcl hat
        refine ⟨xs ++ cs', ls ++ [z], by simp [h1], h2.append (RowX.single hz), fun y hy => ?_, fun i u hu => ?_⟩
        · rcases List.mem_append.1 hy with hy | hy
          · exact h3 y hy
          · rw [List.mem_singleton] at hy; subst hy; exact hp
        · have hxl : xs.length = k * 3 := by rw [h2.1, h1]; rfl
          by_cases hlt : i < xs.length
          · rw [List.getElem?_append_left hlt] at hu
            exact h4 i u hu
          · rw [List.getElem?_append_right (by omega)] at hu
            have hj := (List.getElem?_eq_some_iff.1 hu).1
            have := hat (i - xs.length) (by omega)
            have e1 : (a.add (k * 3)).add (i - xs.length) = a.add i := by
              rw [addr_add2, show k * 3 + (i - xs.length) = i by omega]
            rw [e1, hu] at this
            exact this
    obtain ⟨xs, ls, h1, h2, h3, h4⟩ := key len (Nat.le_refl _)
    subst h1
    have hbk : ls.length ≤ Rows.uptoBulk x.1 := by
      rw [hx]
      simp only [Rows.uptoBulk]
      have := bulk_len8 ((List.range ls.length).map D)
      rw [List.length_map, List.length_range] at this
      omega
    refine ⟨some a, ls, cap, hcs, ⟨_, cap, rfl, ?_, hl, hm, fun h => by cases h⟩, h3, hbk⟩
    by_cases h0 : ls = []
    · exact .inl h0
    · have hpos : 0 < xs.length := by rw [h2.1]; exact Nat.mul_pos (List.length_pos_iff.2 h0) (by decide)
      obtain ⟨b, off, spot⟩ := a
      have hc0 := h4 0 _ (List.getElem?_eq_getElem hpos)
      have hspot : spot = none := by simpa [Addr.add] using World.cell?_spot hc0
      subst hspot
      have e1 : ∀ i, (⟨b, off, none⟩ : Addr).add i = ⟨b, off + i, none⟩ := fun i => by
        unfold Addr.add
        split <;> simp_all
      refine .inr ⟨b, off, xs, rfl, ?_, h2, fun i u hu => by rw [← e1]; exact h4 i u hu⟩
      rw [e1] at hc0
      exact lt_of_cell hc0
theorem trod_cut8 {N : Nat} {cs : List Value} {x : DataW H × List MemPlace} (h : DataW.trod enc Tryz.prog W 0 (fun _ => true) true fuel 68 cs = some x) (hz : Rows.uptoBulk x.1 ≤ N) : ∃ z : Ct8, cutE8.rd W (· < W.heap.size) cs z ∧ z.l.length ≤ N ∧ ∀ y ∈ z.l, y.1.length ≤ maxLen := by
  obtain ⟨y0, y1, y2, n, hx, hl, f0, f1, f2⟩ := trod_struct3 Tryz.underlying68 h
  have hc : Tryz.prog.cellsOf 68 = 3 := by kernel_rfl
  have h1 : Tryz.prog.cellsOf 43 = 1 := by kernel_rfl
  have h3 : Tryz.prog.cellsOf 5 = 1 := by kernel_rfl
  have h4 : Tryz.prog.cellsOf 23 = 1 := by kernel_rfl
  rw [hc] at hl
  obtain ⟨c0, c1, c2, rfl⟩ : ∃ c0 c1 c2, cs = [c0, c1, c2] := by
    match cs, hl with
    | [a, b, c], _ => exact ⟨a, b, c, rfl⟩
  change DataW.trod enc Tryz.prog W 0 _ true n 43 (([c0, c1, c2].drop 0).take (Tryz.prog.cellsOf 43)) = some y0 at f0
  change DataW.trod enc Tryz.prog W 0 _ true n 5 (([c0, c1, c2].drop 1).take (Tryz.prog.cellsOf 5)) = some y1 at f1
  change DataW.trod enc Tryz.prog W 0 _ true n 23 (([c0, c1, c2].drop 2).take (Tryz.prog.cellsOf 23)) = some y2 at f2
  rw [h1] at f0
  rw [h3] at f1
  rw [h4] at f2
  obtain ⟨A, l, c, e0, r1, r2, r3⟩ := trod_chgs f0
  obtain ⟨m, e1, _, wm⟩ := DataW.trod_int Tryz.underlying5 f1
  obtain ⟨P, ps, pc, e2, q1, q2, q3⟩ := trod_nums f2
  have hm := wf_u8' wm
  simp at e0 e1 e2
  subst e0 e1 e2
  refine ⟨⟨A, l, c, m.toNat, P, ps, pc⟩, ⟨?_, ⟨r1, ?_, q1.f, q2, q3⟩⟩, ?_, r2⟩
  · simp only [ctCells8]
    rw [show ((m.toNat : Nat) : Int) = m by omega]
  · show m.toNat < 256
    omega
  · show l.length ≤ N
    rw [hx] at hz
    simp only [Rows.uptoBulk, Rows.uptoBulkAll] at hz
    omega
theorem open_list_bulk8 {α : Type} {E : Elem α} (N : Nat) (Pr : α → Prop) (hE : ∀ fuel cs x, DataW.trod enc Tryz.prog W 0 (fun _ => true) true fuel E.ety cs = some x → Rows.uptoBulk x.1 ≤ N → ∃ z, E.rd W (· < W.heap.size) cs z ∧ Pr z) (hn : Tryz.prog.cellsOf E.ety = E.n)
    {base : Nat} {v : Value} {d : DataW H} {p : List MemPlace} (hv : Value.okWide Tryz.prog W .any base E.sty v) (h : DataW.Trod enc Tryz.prog W 0 (fun _ => true) true E.sty v d p) (hz : Rows.uptoBulk d ≤ N) :
    ∃ A l c, v = .slice A l.length c ∧ RdX E W (· < W.heap.size) A l ∧ (∀ x ∈ l, Pr x) ∧ l.length ≤ c ∧ c ≤ maxLen ∧ (A = none → l = [] ∧ c = 0) := by
  obtain ⟨A, len, cap, rfl⟩ := okWide_slice E.und hv
  obtain ⟨fuel, hf⟩ := h
  rcases open_slice E.und hf with ⟨hcs, hx⟩ | ⟨x, len', cap', m, n, D, Pl, hcs, _, hl, hm, hmm, hx, hi⟩
  · simp [Value.cells] at hcs
    obtain ⟨rfl, rfl, rfl⟩ := hcs
    exact ⟨none, [], 0, rfl, .inl rfl, by simp, Nat.le_refl _, Nat.zero_le _, fun _ => ⟨rfl, rfl⟩⟩
  · simp [Value.cells] at hcs
    obtain ⟨rfl, rfl, rfl⟩ := hcs
    have hmle : len ≤ m := by rw [hmm]; split <;> omega
    have hD : ∀ k, k < len → Rows.uptoBulk (D k) ≤ N := fun k hk => by
      have e : d = .slice ((List.range len).map D) ((List.range (m - len)).map fun j => D (len + j)) := congrArg Prod.fst hx
      have h1 := bulk_mem8 (d := D k) (List.mem_map_of_mem (List.mem_range.2 hk))
      rw [e] at hz
      simp only [Rows.uptoBulk] at hz
      omega
    have key : ∀ k, k ≤ len → ∃ (xs : List Value) (ls : List α), ls.length = k ∧ RowX E W (· < W.heap.size) xs ls ∧ (∀ z ∈ ls, Pr z) ∧ ∀ i u, xs[i]? = some u → W.cell? (x.add i) = some u := by
      intro k
      induction k with
      | zero => exact fun _ => ⟨[], [], rfl, RowX.nil _ _, by simp, fun i u h => by simp at h⟩
      | succ k ih =>
        intro hk
        obtain ⟨xs, ls, h1, h2, h3, h4⟩ := ih (by omega)
        obtain ⟨cs', hc, ht⟩ := hi k (by omega)
        obtain ⟨z, hz, hp⟩ := hE _ _ _ ht (hD k (by omega))
        obtain ⟨_, hcl, hat⟩ := World.cells?_some hc
        rw [hn] at hcl hat
        refine ⟨xs ++ cs', ls ++ [z], by simp [h1], h2.append (RowX.single hz), fun y hy => ?_, fun i u hu => ?_⟩
        · rcases List.mem_append.1 hy with hy | hy
          · exact h3 y hy
          · rw [List.mem_singleton] at hy; subst hy; exact hp
        · have hxl : xs.length = k * E.n := by rw [h2.1, h1]
          by_cases hlt : i < xs.length
          · rw [List.getElem?_append_left hlt] at hu
            exact h4 i u hu
          · rw [List.getElem?_append_right (by omega)] at hu
            have hj := (List.getElem?_eq_some_iff.1 hu).1
            have := hat (i - xs.length) (by omega)
            have e1 : (x.add (k * E.n)).add (i - xs.length) = x.add i := by
              rw [addr_add2, show k * E.n + (i - xs.length) = i by omega]
            rw [e1, hu] at this
            exact this
    obtain ⟨xs, ls, h1, h2, h3, h4⟩ := key len (Nat.le_refl _)
    subst h1
    refine ⟨some x, ls, cap, rfl, ?_, h3, hl, hm, fun h => by cases h⟩
    by_cases h0 : ls = []
    · exact .inl h0
    · have hpos : 0 < xs.length := by rw [h2.1]; exact Nat.mul_pos (List.length_pos_iff.2 h0) E.pos
      obtain ⟨b, off, spot⟩ := x
      have hc0 := h4 0 _ (List.getElem?_eq_getElem hpos)
      have hspot : spot = none := by simpa [Addr.add] using World.cell?_spot hc0
      subst hspot
      have e1 : ∀ i, (⟨b, off, none⟩ : Addr).add i = ⟨b, off + i, none⟩ := fun i => by
        unfold Addr.add
        split <;> simp_all
      refine .inr ⟨b, off, xs, rfl, ?_, h2, fun i u hu => by rw [← e1]; exact h4 i u hu⟩
      rw [e1] at hc0
      exact lt_of_cell hc0
theorem open_cuts8 {base : Nat} {v : Value} {d : DataW H} {p : List MemPlace} {N : Nat} (hz : Rows.uptoBulk d ≤ N) (hv : Value.okWide Tryz.prog W .any base 63 v) (h : DataW.Trod enc Tryz.prog W 0 (fun _ => true) true 63 v d p) :
    ∃ A l c, v = .slice A l.length c ∧ RdX cutE8 W (· < W.heap.size) A l ∧ (∀ z ∈ l, z.l.length ≤ N ∧ ∀ y ∈ z.l, y.1.length ≤ maxLen) ∧ l.length ≤ c ∧ c ≤ maxLen ∧ (A = none → l = [] ∧ c = 0) :=
  open_list_bulk8 (E := cutE8) N (fun z => z.l.length ≤ N ∧ ∀ y ∈ z.l, y.1.length ≤ maxLen) (fun _ _ _ h hN => trod_cut8 h hN) (by kernel_rfl) hv h hz
end
end Go.Proofs.YtfgbpinfplllgaaGreatDoor
