/- The program: slices.Delete, slices.Insert upon lists of one's own, at nodes and at entries. -/
import Derived.Lib.AppendZerosOnto
import Derived.Lib.Overlaps
import Derived.Test.YtenpmbfncnepgaaDoorAnyX
import Derived.Test.YtenpmbfncnepgaaDoorTzAK
namespace Go.Proofs.YtenpmbfncnepgaaDoor
open Go.RowKit Go.Shelf
set_option linter.unusedVariables false
set_option maxRecDepth 100000
set_option linter.unusedSimpArgs false

section
variable {α : Type} {E : Elem α}
theorem Elem.size (E : Elem α) : ∃ i, Tryd.prog.info? E.ety = some i ∧ i.size = E.n := by
  obtain ⟨i, z, h1, h2, h3, h4, h5⟩ := E.info
  exact ⟨i, h1, h3⟩
/-- copy of elements into a block known whole -/
theorem run_copyX (w : World) (ty : TypeId) (g o dl dc : Nat) (a : Addr) (sl sc : Nat) (cur : Array Value) (t : TypeId) (cs : List Value) (hg : Cs w g t cur) (hn : cs.length = Nat.min sl dl * E.n)
    (hsrc : ∀ j v, cs[j]? = some v → w.cell? (a.add j) = some v) (hfit : o + cs.length ≤ cur.size) (h1 : ∀ v ∈ cs, v.oneCell' = true) :
    (Builtin.copy_ #[E.sty, E.sty] ty #[.slice (some ⟨g, o, none⟩) dl dc, .slice (some a) sl sc]).run Tryd.prog w = .ok (goInt (Nat.min sl dl)) (w.setRow g (over cur o cs)) := by
  obtain ⟨i, hi, hs⟩ := E.size
  have hf := run_firstCells_some (P := Tryd.prog) w i.size (Nat.min sl dl) a sl sc cs (by rw [hs]; exact hn) hsrc
  have hst := run_storeCells_at Tryd.prog g o t cs 0 cur w hg (by simpa using hfit) h1
  simp only [Nat.add_zero] at hst
  simp [Builtin.copy_, run_underlying E.und, Builtin.lenOf, sizeOf, typeInfo, hi, hf, hst, over]
/-- zero elements, as cells -/
def zsX (z : Value) (n : Nat) : List Value := (Builtin.zeroCells z.cells n).toList
theorem zsX_len {z : Value} {s : Nat} (h : z.cells.size = s) (n : Nat) : (zsX z n).length = n * s := by
  have := size_zeroCells z.cells n
  rw [h] at this
  simpa [zsX] using this
theorem zsX_one {z : Value} {s : Nat} (h : z.cells.size = s) (hp : 0 < s) (h1 : ∀ v ∈ z.cells.toList, v.oneCell' = true) (n : Nat) : ∀ v ∈ zsX z n, v.oneCell' = true := by
  intro v hv
  simp only [zsX, Builtin.zeroCells, Array.toList_map, List.mem_map] at hv
  obtain ⟨j, -, rfl⟩ := hv
  have hlt : j % z.cells.size < z.cells.size := Nat.mod_lt _ (by omega)
  refine h1 _ ?_
  rw [getElem!_pos z.cells _ hlt]
  simp
/-- the last elements of a row of one's own made zero -/
theorem run_clearX (w : World) (ty : TypeId) (g o n c : Nat) (z : Value) (hz : ∀ w, (zeroValue E.ety).run Tryd.prog w = .ok z w) (hzs : z.cells.size = E.n) (hz1 : ∀ v ∈ z.cells.toList, v.oneCell' = true) (cur : Array Value) (t : TypeId) (hg : Cs w g t cur) (hfit : o + n * E.n ≤ cur.size) (hn : 0 < n) :
    (Builtin.clear_ #[E.sty] ty #[.slice (some ⟨g, o, none⟩) n c]).run Tryd.prog w = .ok (.tuple #[]) (w.setRow g (over cur o (zsX z n))) := by
  have hst := run_storeCells_at Tryd.prog g o t (zsX z n) 0 cur w hg (by rw [zsX_len hzs]; simpa using hfit) (zsX_one hzs E.pos hz1 n)
  simp only [Nat.add_zero] at hst
  obtain ⟨m, rfl⟩ : ∃ m, n = m + 1 := ⟨n - 1, by omega⟩
  unfold zsX at *
  simp [Builtin.clear_, run_underlying E.und, hz, hst, over]
theorem ndZ1 : ∀ v ∈ (Value.agg (#[.int .u32 0, .int .u32 0, .bool false, .int .u64 0, .slice none 0 0, .slice none 0 0])).cells.toList, v.oneCell' = true := by
  intro v hv
  simp [Value.cells] at hv
  rcases hv with rfl | rfl | rfl | rfl | rfl | rfl <;> rfl
theorem enZ1 : ∀ v ∈ (Value.agg (#[.string ⟨#[]⟩, .int .u32 0])).cells.toList, v.oneCell' = true := by
  intro v hv
  simp [Value.cells] at hv
  rcases hv with rfl | rfl <;> rfl
end
section
variable {P : Program} {w : World} {o : Oper} {a : Act} {K : Act → World → Prop} {Q : Exit → Act → World → Prop}
/-- append, copy, clear by their runs -/
theorem wp_append_run (s x : Operand) (t t' : TypeId) (ho : o.op = .call { callee := .builtin .append, args := #[s, x], argTypes := #[t, t'] }) (v u : Value) (hs : a.eval s = v) (hx : a.eval x = u) {v' : Value} {w' : World}
    (hr : (Builtin.append_ #[t, t'] o.type #[v, u]).run P w = .ok v' w') (hK : K (a.put o.dst v') w') : o.wp P a w K Q := by
  unfold Oper.wp execOp
  simp only [ho, resolve, invoke, builtin, Sem.run_bind, Sem.run_pure, Result.andThen_ok, List.map_toArray, List.map_cons, List.map_nil, hs, hx, hr]
  exact hK
theorem wp_copy_run (s x : Operand) (t t' : TypeId) (ho : o.op = .call { callee := .builtin .copy, args := #[s, x], argTypes := #[t, t'] }) (v u : Value) (hs : a.eval s = v) (hx : a.eval x = u) {v' : Value} {w' : World}
    (hr : (Builtin.copy_ #[t, t'] o.type #[v, u]).run P w = .ok v' w') (hK : K (a.put o.dst v') w') : o.wp P a w K Q := by
  unfold Oper.wp execOp
  simp only [ho, resolve, invoke, builtin, Sem.run_bind, Sem.run_pure, Result.andThen_ok, List.map_toArray, List.map_cons, List.map_nil, hs, hx, hr]
  exact hK
theorem wp_clear_run (s : Operand) (t : TypeId) (ho : o.op = .call { callee := .builtin .clear, args := #[s], argTypes := #[t] }) (v : Value) (hs : a.eval s = v) {v' : Value} {w' : World}
    (hr : (Builtin.clear_ #[t] o.type #[v]).run P w = .ok v' w') (hK : K (a.put o.dst v') w') : o.wp P a w K Q := by
  unfold Oper.wp execOp
  simp only [ho, resolve, invoke, builtin, Sem.run_bind, Sem.run_pure, Result.andThen_ok, List.map_toArray, List.map_cons, List.map_nil, hs, hr]
  exact hK
variable {ops : Array Oper} {rest : List Oper}
theorem wpList_copy_run (hgd : o.guard = none) (s x : Operand) (t t' : TypeId) (ho : o.op = .call { callee := .builtin .copy, args := #[s, x], argTypes := #[t, t'] }) (v u : Value) (hs : a.eval s = v) (hx : a.eval x = u) {v' : Value} {w' : World}
    (hr : (Builtin.copy_ #[t, t'] o.type #[v, u]).run P w = .ok v' w') (hK : wpList P ops Q rest (a.put o.dst v') w') : wpList P ops Q (o :: rest) a w := wpList_plain hgd fun _ hk => wp_copy_run s x t t' ho v u hs hx hr (hk _ _ hK)
theorem wpList_clear_run (hgd : o.guard = none) (s : Operand) (t : TypeId) (ho : o.op = .call { callee := .builtin .clear, args := #[s], argTypes := #[t] }) (v : Value) (hs : a.eval s = v) {v' : Value} {w' : World}
    (hr : (Builtin.clear_ #[t] o.type #[v]).run P w = .ok v' w') (hK : wpList P ops Q rest (a.put o.dst v') w') : wpList P ops Q (o :: rest) a w := wpList_plain hgd fun _ hk => wp_clear_run s t ho v hs hr (hk _ _ hK)
end
section
variable {α : Type} {E : Elem α}
theorem RowX.take {w : World} {F : Nat → Prop} {xs : List Value} {ls : List α} (h : RowX E w F xs ls) (m : Nat) : RowX E w F (xs.take (m * E.n)) (ls.take m) := by
  refine ⟨by rw [List.length_take, List.length_take, h.1, Nat.mul_min_mul_right], fun j hj => ?_⟩
  have hj' := hj
  rw [List.length_take] at hj'
  have h2 : (j + 1) * E.n ≤ m * E.n := Nat.mul_le_mul_right _ (by omega)
  rw [Nat.succ_mul] at h2
  have := h.2 j (by omega)
  rw [List.drop_take, List.take_take, Nat.min_eq_left (by omega), List.getElem_take]
  exact this
theorem RowX.drop {w : World} {F : Nat → Prop} {xs : List Value} {ls : List α} (h : RowX E w F xs ls) (m : Nat) : RowX E w F (xs.drop (m * E.n)) (ls.drop m) := by
  refine ⟨by rw [List.length_drop, List.length_drop, h.1, Nat.sub_mul], fun j hj => ?_⟩
  rw [List.length_drop] at hj
  have := h.2 (m + j) (by omega)
  rw [List.drop_drop, ← Nat.add_mul, List.getElem_drop]
  exact this
theorem over_take (cur : Array Value) (o k : Nat) (cs : List Value) (hk : k ≤ o) (h : o + cs.length ≤ cur.size) : (over cur o cs).toList.take k = cur.toList.take k := by
  unfold over
  rw [List.toList_toArray, List.append_assoc, List.take_append_of_le_length (by simp; omega), List.take_take, Nat.min_eq_left hk]
theorem over_take' (cur : Array Value) (o : Nat) (cs : List Value) (h : o + cs.length ≤ cur.size) : (over cur o cs).toList.take (o + cs.length) = cur.toList.take o ++ cs := by
  unfold over
  rw [List.toList_toArray, List.take_append_of_le_length (by simp; omega), List.take_of_length_le (by simp [Nat.min_le_left])]
theorem kept_turn (w : World) (G : Nat → Prop) : Kept fun u => Turn w u G := fun a b h hb => h.trans (Turn.of_below hb G) fun _ _ h => h
theorem turn_row (u : World) (g : Nat) (c : Array Value) : Turn u (u.setRow g c) (· = g) := (Turn.of_grown (grown_row u g c)).mono fun k _ e => by injection e with e; exact e.symm
/-- one less -/
def DelRet (E : Elem α) (base : Nat) (F : Nat → Prop) (g m c : Nat) (ls : List α) (i : Nat) (w : World) (e : Ending) (w' : World) : Prop := e = .returned (.slice (some ⟨g, 0, none⟩) m c) ∧ OwnX E w' base F (.slice (some ⟨g, 0, none⟩) m c) (ls.eraseIdx i) ∧ Turn w w' (· = g)
/-- what Delete leaves -/
theorem del_own {w w' : World} {base g m c i : Nat} {F : Nat → Prop} {ls : List α} {cur : Array Value} {news zs : List Value} (hm : ls.length = m + 1) (hi : i ≤ m) (hmc : m + 1 ≤ c) (hcm : c ≤ maxLen) (hb : base ≤ g) (hF : F g) (hs : cur.size = c * E.n)
    (hr : RowX E w (fun k => F k ∧ k ≠ g) (cur.toList.take (ls.length * E.n)) ls) (hn : news = (cur.toList.take ((m + 1) * E.n)).drop ((i + 1) * E.n)) (hz : zs.length = 1 * E.n)
    (hg : Cs w' g E.ety (over (over cur (i * E.n) news) (m * E.n) zs)) (ht : Turn w w' (· = g)) : OwnX E w' base F (.slice (some ⟨g, 0, none⟩) m c) (ls.eraseIdx i) := by
  have e0 : (m + 1) * E.n ≤ c * E.n := Nat.mul_le_mul_right _ hmc
  have e2 : (i + 1) * E.n ≤ (m + 1) * E.n := Nat.mul_le_mul_right _ (by omega)
  have s1 : (m + 1) * E.n = m * E.n + E.n := Nat.succ_mul _ _
  have s2 : (i + 1) * E.n = i * E.n + E.n := Nat.succ_mul _ _
  have s3 : i * E.n ≤ m * E.n := Nat.mul_le_mul_right _ hi
  have s4 : 1 * E.n = E.n := Nat.one_mul _
  have hnl : news.length = m * E.n - i * E.n := by
    rw [hn, List.length_drop, List.length_take, Array.length_toList, Nat.min_eq_left (by rw [hs]; exact e0)]
    omega
  have hfit : i * E.n + news.length ≤ cur.size := by omega
  have hll : (ls.eraseIdx i).length = m := by rw [List.length_eraseIdx, if_pos (by omega)]; omega
  have hrow : RowX E w (fun k => F k ∧ k ≠ g) (cur.toList.take (i * E.n) ++ news) (ls.eraseIdx i) := by
    rw [List.eraseIdx_eq_take_drop_succ]
    refine RowX.append ?_ ?_
    · have := hr.take i
      rwa [List.take_take, Nat.min_eq_left (by rw [hm]; omega)] at this
    · have := hr.drop (i + 1)
      rw [hn, ← hm]
      exact this
  have := OwnX.mk' (E := E) (w := w') (base := base) (g := g) (c := c) (F := F) (ls := ls.eraseIdx i) (cur := over (over cur (i * E.n) news) (m * E.n) zs) hg hb hF (by omega) hcm (by rw [over_size _ _ _ (by rw [over_size _ _ _ hfit, hs]; omega), over_size _ _ _ hfit, hs]) (by
    rw [hll, over_take _ _ _ _ (Nat.le_refl _) (by rw [over_size _ _ _ hfit, hs]; omega)]
    have h5 := over_take' cur (i * E.n) news hfit
    rw [show i * E.n + news.length = m * E.n by omega] at h5
    rw [h5]
    exact hrow.turn ht fun k hk e => hk.2 e)
  rw [hll] at this
  exact this
end
set_option maxHeartbeats 8000000 in
theorem Delete_nd (base : Nat) (F : Nat → Prop) (g m c i : Nat) (ls : List (Nd × Sup)) (w : World) (hm : ls.length = m + 1) (hi : i ≤ m) (h : OwnX (nodeO base) w base F (.slice (some ⟨g, 0, none⟩) (m + 1) c) ls) (hF : F g) (hml : m ≤ 1000000) :
    Calls Tryd.prog 78 #[.slice (some ⟨g, 0, none⟩) (m + 1) c, .int .i64 (i : Int), .int .i64 ((i : Int) + 1)] w fun e w' => DelRet (nodeO base) base F g m c ls i w e w' := by
  obtain ⟨cur, h1, h2, -, h3, h4, h5, h6⟩ := h.cur
  have hmix : Tryd.prog.follows .mixedOrders = true := by kernel_rfl
  have HG := Lib.hid h1
  have HB := Lib.hid h2
  have HM := Lib.hid hm
  have HS := Lib.hid h5
  have HR := Lib.hid h6
  have HFG := Lib.hid hF
  obtain ⟨news, hn⟩ : ∃ news, news = (cur.toList.take ((m + 1) * 6)).drop ((i + 1) * 6) := ⟨_, rfl⟩
  have hcs : cur.size = c * 6 := h5
  have hnl : news.length = (m - i) * 6 := by rw [hn, List.length_drop, List.length_take, Array.length_toList, hcs]; omega
  have hfit : i * 6 + news.length ≤ cur.size := by rw [hnl, hcs]; omega
  have HNW := Lib.hid (show ∀ (u : World) (o2 : Nat), Cs u g 34 cur → (i = m ∨ o2 = (i + 1) * 6) → ∀ j v, news[j]? = some v → u.cell? ((⟨g, o2, none⟩ : Addr).add j) = some v from fun u o2 hu ho j v hv => by
    have hj : j < news.length := (List.getElem?_eq_some_iff.1 hv).1
    rcases ho with ho | ho
    · rw [hnl] at hj; subst ho; simp at hj
    · rw [addr_add]
      rw [hn, List.getElem?_drop, List.getElem?_take_of_lt (by omega)] at hv
      rw [ho]
      exact hu.cell _ (by simpa using hv))
  have HN1 := Lib.hid (show ∀ v ∈ news, v.oneCell' = true from fun v hv => by
    rw [hn, ← HM.out] at hv
    exact HR.out.one v (List.mem_of_mem_drop hv))
  have HNE := Lib.hid hn
  have HNL := Lib.hid hnl
  have HFT := Lib.hid hfit
  have HC := Lib.hid h4
  have HCR := Lib.hid (show ∀ u, Cs u g 34 cur → ∀ o2 m2 c2, (i = m ∨ o2 = (i + 1) * 6) → m2 = m - i → (Builtin.append_ #[23, 23] 23 #[.slice (some ⟨g, 0, none⟩) i c, .slice (some ⟨g, o2, none⟩) m2 c2]).run Tryd.prog u = .ok (.slice (some ⟨g, 0, none⟩) m c) (u.setRow g (over cur (i * 6) news)) from fun u hu o2 m2 c2 ho hm2 => by
    obtain ⟨inf, hinf, hsz⟩ := Elem.size (nodeO base)
    have hz : inf.size = 6 := hsz
    have := run_append_room (P := Tryd.prog) u 23 23 34 inf Tryd.underlying23 hinf g i c cur hu ⟨g, o2, none⟩ m2 c2 news (by rw [HNL.out, hm2, hz]) (HNW.out u o2 hu ho) HN1.out (by omega) (by rw [hz]; exact HFT.out)
    rw [show i + m2 = m by omega, hz] at this
    exact this)
  obtain ⟨zs, hz0, hzr⟩ : ∃ zs : List Value, zs.length = 1 * 6 ∧ ∀ u, Cs u g 34 (over cur (i * 6) news) → ∀ ty c2, (Builtin.clear_ #[23] ty #[.slice (some ⟨g, m * 6, none⟩) 1 c2]).run Tryd.prog u = .ok (.tuple #[]) (u.setRow g (over (over cur (i * 6) news) (m * 6) zs)) := by
    exact ⟨zsX (Value.agg #[.int .u32 0, .int .u32 0, .bool false, .int .u64 0, .slice none 0 0, .slice none 0 0]) 1, zsX_len (by kernel_rfl) 1, fun u hu ty c2 => run_clearX (E := (nodeO base)) u ty g (m * 6) 1 c2 (Value.agg #[.int .u32 0, .int .u32 0, .bool false, .int .u64 0, .slice none 0 0, .slice none 0 0]) (fun w => by kernel_rfl) (by kernel_rfl) ndZ1 _ 34 hu (by rw [over_size _ _ _ HFT.out, HS.out]; show m * 6 + 1 * 6 ≤ c * 6; omega) (by decide)⟩
  have HZ0 := Lib.hid hz0
  have HZR := Lib.hid hzr
  have i1 : (i : Int) ≤ m := by omega
  have i2 : (m : Int) + 1 ≤ c := by omega
  have i3 : (m : Int) ≤ 1000000 := by omega
  have i4 := Lib.hid (show (c : Int) ≤ 9223372036854775807 by have := HC.out; simp only [maxLen] at this; omega)
  clear h h1 h2 h4 h5 h6 hn hcs hnl hfit hz0 hzr hF hm
  have j1 : ¬ c < i := by omega
  have j2 : ¬ c = 0 := by omega
  have j3 : ¬ (m + 1 < i + 1) := by omega
  have j4 : ¬ c = m := by omega
  have i5 : ¬ (i : Int) + 1 < 0 := by omega
  have i6 : ¬ (m : Int) + 1 < (i : Int) + 1 := by omega
  obtain ⟨o2, ho2⟩ : ∃ o2, o2 = if c = i + 1 then 0 else (i + 1) * 6 := ⟨_, rfl⟩
  have HO2 := Lib.hid (show i = m ∨ o2 = (i + 1) * 6 by
    by_cases hci : c = i + 1
    · left; omega
    · right; rw [ho2, if_neg hci])
  have HO := Lib.hid ho2
  clear ho2
  go_enter Tryd.func78, Tryd.ntmps78
  go_wp2_with fail
  refine wp_region_X [6, 7] (fun u => Cs u g 34 cur ∧ Turn w u (· = g)) (fun u => Cs u g 34 cur ∧ Turn w u (· = g)) hmix (⟨HG.out.drew, Turn.drew _ _⟩) ?_
  change wpAnyX _ _ _ _ _ _ _ _ _ _
  refine wpAnyX_take (i := 0) (v := .slice (some ⟨g, 0, none⟩) (m + 1) c) 8 (kept_and (kept_cs _ _ _) (kept_turn _ _)) (fun _ h => h) rfl (by kernel_rfl) (by kernel_rfl) (fun _ _ _ h => h) (DoesV.reads (by rfl) fun w9 hS => by go_simp) ?_
  try simp only [List.getElem_toArray, List.getElem_cons_succ, List.getElem_cons_zero, Act.put, List.setIfInBounds_toArray, List.set_cons_succ, List.set_cons_zero]
  refine wpAnyX_take (i := 1) (v := .int .i64 (i : Int)) 8 (kept_and (kept_cs _ _ _) (kept_turn _ _)) (fun _ h => h) rfl (by kernel_rfl) (by kernel_rfl) (fun _ _ _ h => h) (DoesV.reads (by rfl) fun w9 hS => by go_simp) ?_
  try simp only [List.getElem_toArray, List.getElem_cons_succ, List.getElem_cons_zero, Act.put, List.setIfInBounds_toArray, List.set_cons_succ, List.set_cons_zero]
  refine wpAnyX_take (i := 2) (v := .slice (some ⟨g, 0, none⟩) i c) 8 (kept_and (kept_cs _ _ _) (kept_turn _ _)) (fun _ h => h) rfl (by kernel_rfl) (by kernel_rfl) (fun _ _ _ h => h) (DoesV.reads (by rfl) fun w9 hS => by go_simp) ?_
  try simp only [List.getElem_toArray, List.getElem_cons_succ, List.getElem_cons_zero, Act.put, List.setIfInBounds_toArray, List.set_cons_succ, List.set_cons_zero]
  refine wpAnyX_take (i := 3) (v := .slice (some ⟨g, 0, none⟩) (m + 1) c) 8 (kept_and (kept_cs _ _ _) (kept_turn _ _)) (fun _ h => h) rfl (by kernel_rfl) (by kernel_rfl) (fun _ _ _ h => h) (DoesV.reads (by rfl) fun w9 hS => by go_simp) ?_
  try simp only [List.getElem_toArray, List.getElem_cons_succ, List.getElem_cons_zero, Act.put, List.setIfInBounds_toArray, List.set_cons_succ, List.set_cons_zero]
  refine wpAnyX_take (i := 4) (v := .int .i64 ((i : Int) + 1)) 8 (kept_and (kept_cs _ _ _) (kept_turn _ _)) (fun _ h => h) rfl (by kernel_rfl) (by kernel_rfl) (fun _ _ _ h => h) (DoesV.reads (by rfl) fun w9 hS => by go_simp) ?_
  try simp only [List.getElem_toArray, List.getElem_cons_succ, List.getElem_cons_zero, Act.put, List.setIfInBounds_toArray, List.set_cons_succ, List.set_cons_zero]
  refine wpAnyX_take (i := 5) (v := .slice (some ⟨g, o2, none⟩) (m + 1 - (i + 1)) (c - (i + 1))) 8 (kept_and (kept_cs _ _ _) (kept_turn _ _)) (fun _ h => h) rfl (by kernel_rfl) (by kernel_rfl) (fun _ _ _ h => h) (DoesV.reads (by rfl) fun w9 hS => by go_simp; rw [HO.out]; by_cases hx : c = i + 1 <;> simp [hx]) ?_
  try simp only [List.getElem_toArray, List.getElem_cons_succ, List.getElem_cons_zero, Act.put, List.setIfInBounds_toArray, List.set_cons_succ, List.set_cons_zero]
  refine wpAnyX_only (i := 6) rfl (by kernel_rfl) rfl (fun u hS => wp_append_run _ _ _ _ rfl _ _ rfl rfl (HCR.out u hS.1 _ _ _ HO2.out (by omega)) ⟨fun u => Cs u g 34 (over cur (i * 6) news) ∧ Turn w u (· = g), ⟨hS.1.row _, hS.2.trans (turn_row u g _) fun _ _ h => h⟩, kept_and (kept_cs _ _ _) (kept_turn _ _), fun h => absurd (by decide : (6 : Nat) ∈ [6, 7]) h, ?_⟩)
  try simp only [List.getElem_toArray, List.getElem_cons_succ, List.getElem_cons_zero, Act.put, List.setIfInBounds_toArray, List.set_cons_succ, List.set_cons_zero]
  refine wpAnyX_only (i := 7) rfl (by kernel_rfl) rfl (fun u hS => wp_of_run2 (v := .slice (some ⟨g, 0, none⟩) m c) (by go_simp) ⟨fun u => Cs u g 34 (over cur (i * 6) news) ∧ Turn w u (· = g), hS, kept_and (kept_cs _ _ _) (kept_turn _ _), fun h => absurd (by decide : (7 : Nat) ∈ [6, 7]) h, ?_⟩)
  try simp only [List.getElem_toArray, List.getElem_cons_succ, List.getElem_cons_zero, Act.put, List.setIfInBounds_toArray, List.set_cons_succ, List.set_cons_zero]
  refine wpAnyX_done (by kernel_rfl) (fun z hz => ?_) _
  have CZ := Lib.hid hz.1
  have TZ := Lib.hid hz.2
  clear hz
  go_wp2_with (first
    | (refine wpList_clear_run rfl _ 23 rfl _ rfl (HZR.out z CZ.out _ _) ?_; go_frame)
    | fail)
  go_ret
  exact ⟨rfl, del_own (E := (nodeO base)) HM.out (by omega) (by omega) HC.out HB.out HFG.out HS.out HR.out HNE.out HZ0.out (CZ.out.row _) (TZ.out.trans (turn_row z g _) fun _ _ h => h), TZ.out.trans (turn_row z g _) fun _ _ h => h⟩
set_option maxHeartbeats 8000000 in
theorem Delete_en (base : Nat) (F : Nat → Prop) (g m c i : Nat) (ls : List Ent) (w : World) (hm : ls.length = m + 1) (hi : i ≤ m) (h : OwnX entE w base F (.slice (some ⟨g, 0, none⟩) (m + 1) c) ls) (hF : F g) (hml : m ≤ 1000000) :
    Calls Tryd.prog 77 #[.slice (some ⟨g, 0, none⟩) (m + 1) c, .int .i64 (i : Int), .int .i64 ((i : Int) + 1)] w fun e w' => DelRet entE base F g m c ls i w e w' := by
  obtain ⟨cur, h1, h2, -, h3, h4, h5, h6⟩ := h.cur
  have hmix : Tryd.prog.follows .mixedOrders = true := by kernel_rfl
  have HG := Lib.hid h1
  have HB := Lib.hid h2
  have HM := Lib.hid hm
  have HS := Lib.hid h5
  have HR := Lib.hid h6
  have HFG := Lib.hid hF
  obtain ⟨news, hn⟩ : ∃ news, news = (cur.toList.take ((m + 1) * 2)).drop ((i + 1) * 2) := ⟨_, rfl⟩
  have hcs : cur.size = c * 2 := h5
  have hnl : news.length = (m - i) * 2 := by rw [hn, List.length_drop, List.length_take, Array.length_toList, hcs]; omega
  have hfit : i * 2 + news.length ≤ cur.size := by rw [hnl, hcs]; omega
  have HNW := Lib.hid (show ∀ (u : World) (o2 : Nat), Cs u g 84 cur → (i = m ∨ o2 = (i + 1) * 2) → ∀ j v, news[j]? = some v → u.cell? ((⟨g, o2, none⟩ : Addr).add j) = some v from fun u o2 hu ho j v hv => by
    have hj : j < news.length := (List.getElem?_eq_some_iff.1 hv).1
    rcases ho with ho | ho
    · rw [hnl] at hj; subst ho; simp at hj
    · rw [addr_add]
      rw [hn, List.getElem?_drop, List.getElem?_take_of_lt (by omega)] at hv
      rw [ho]
      exact hu.cell _ (by simpa using hv))
  have HN1 := Lib.hid (show ∀ v ∈ news, v.oneCell' = true from fun v hv => by
    rw [hn, ← HM.out] at hv
    exact HR.out.one v (List.mem_of_mem_drop hv))
  have HNE := Lib.hid hn
  have HNL := Lib.hid hnl
  have HFT := Lib.hid hfit
  have HC := Lib.hid h4
  have HCR := Lib.hid (show ∀ u, Cs u g 84 cur → ∀ o2 m2 c2, (i = m ∨ o2 = (i + 1) * 2) → m2 = m - i → (Builtin.append_ #[32, 32] 32 #[.slice (some ⟨g, 0, none⟩) i c, .slice (some ⟨g, o2, none⟩) m2 c2]).run Tryd.prog u = .ok (.slice (some ⟨g, 0, none⟩) m c) (u.setRow g (over cur (i * 2) news)) from fun u hu o2 m2 c2 ho hm2 => by
    obtain ⟨inf, hinf, hsz⟩ := Elem.size entE
    have hz : inf.size = 2 := hsz
    have := run_append_room (P := Tryd.prog) u 32 32 84 inf Tryd.underlying32 hinf g i c cur hu ⟨g, o2, none⟩ m2 c2 news (by rw [HNL.out, hm2, hz]) (HNW.out u o2 hu ho) HN1.out (by omega) (by rw [hz]; exact HFT.out)
    rw [show i + m2 = m by omega, hz] at this
    exact this)
  obtain ⟨zs, hz0, hzr⟩ : ∃ zs : List Value, zs.length = 1 * 2 ∧ ∀ u, Cs u g 84 (over cur (i * 2) news) → ∀ ty c2, (Builtin.clear_ #[32] ty #[.slice (some ⟨g, m * 2, none⟩) 1 c2]).run Tryd.prog u = .ok (.tuple #[]) (u.setRow g (over (over cur (i * 2) news) (m * 2) zs)) := by
    exact ⟨zsX (Value.agg #[.string ⟨#[]⟩, .int .u32 0]) 1, zsX_len (by kernel_rfl) 1, fun u hu ty c2 => run_clearX (E := entE) u ty g (m * 2) 1 c2 (Value.agg #[.string ⟨#[]⟩, .int .u32 0]) (fun w => by kernel_rfl) (by kernel_rfl) enZ1 _ 84 hu (by rw [over_size _ _ _ HFT.out, HS.out]; show m * 2 + 1 * 2 ≤ c * 2; omega) (by decide)⟩
  have HZ0 := Lib.hid hz0
  have HZR := Lib.hid hzr
  have i1 : (i : Int) ≤ m := by omega
  have i2 : (m : Int) + 1 ≤ c := by omega
  have i3 : (m : Int) ≤ 1000000 := by omega
  have i4 := Lib.hid (show (c : Int) ≤ 9223372036854775807 by have := HC.out; simp only [maxLen] at this; omega)
  clear h h1 h2 h4 h5 h6 hn hcs hnl hfit hz0 hzr hF hm
  have j1 : ¬ c < i := by omega
  have j2 : ¬ c = 0 := by omega
  have j3 : ¬ (m + 1 < i + 1) := by omega
  have j4 : ¬ c = m := by omega
  have i5 : ¬ (i : Int) + 1 < 0 := by omega
  have i6 : ¬ (m : Int) + 1 < (i : Int) + 1 := by omega
  obtain ⟨o2, ho2⟩ : ∃ o2, o2 = if c = i + 1 then 0 else (i + 1) * 2 := ⟨_, rfl⟩
  have HO2 := Lib.hid (show i = m ∨ o2 = (i + 1) * 2 by
    by_cases hci : c = i + 1
    · left; omega
    · right; rw [ho2, if_neg hci])
  have HO := Lib.hid ho2
  clear ho2
  go_enter Tryd.func77, Tryd.ntmps77
  go_wp2_with fail
  refine wp_region_X [6, 7] (fun u => Cs u g 84 cur ∧ Turn w u (· = g)) (fun u => Cs u g 84 cur ∧ Turn w u (· = g)) hmix (⟨HG.out.drew, Turn.drew _ _⟩) ?_
  change wpAnyX _ _ _ _ _ _ _ _ _ _
  refine wpAnyX_take (i := 0) (v := .slice (some ⟨g, 0, none⟩) (m + 1) c) 8 (kept_and (kept_cs _ _ _) (kept_turn _ _)) (fun _ h => h) rfl (by kernel_rfl) (by kernel_rfl) (fun _ _ _ h => h) (DoesV.reads (by rfl) fun w9 hS => by go_simp) ?_
  try simp only [List.getElem_toArray, List.getElem_cons_succ, List.getElem_cons_zero, Act.put, List.setIfInBounds_toArray, List.set_cons_succ, List.set_cons_zero]
  refine wpAnyX_take (i := 1) (v := .int .i64 (i : Int)) 8 (kept_and (kept_cs _ _ _) (kept_turn _ _)) (fun _ h => h) rfl (by kernel_rfl) (by kernel_rfl) (fun _ _ _ h => h) (DoesV.reads (by rfl) fun w9 hS => by go_simp) ?_
  try simp only [List.getElem_toArray, List.getElem_cons_succ, List.getElem_cons_zero, Act.put, List.setIfInBounds_toArray, List.set_cons_succ, List.set_cons_zero]
  refine wpAnyX_take (i := 2) (v := .slice (some ⟨g, 0, none⟩) i c) 8 (kept_and (kept_cs _ _ _) (kept_turn _ _)) (fun _ h => h) rfl (by kernel_rfl) (by kernel_rfl) (fun _ _ _ h => h) (DoesV.reads (by rfl) fun w9 hS => by go_simp) ?_
  try simp only [List.getElem_toArray, List.getElem_cons_succ, List.getElem_cons_zero, Act.put, List.setIfInBounds_toArray, List.set_cons_succ, List.set_cons_zero]
  refine wpAnyX_take (i := 3) (v := .slice (some ⟨g, 0, none⟩) (m + 1) c) 8 (kept_and (kept_cs _ _ _) (kept_turn _ _)) (fun _ h => h) rfl (by kernel_rfl) (by kernel_rfl) (fun _ _ _ h => h) (DoesV.reads (by rfl) fun w9 hS => by go_simp) ?_
  try simp only [List.getElem_toArray, List.getElem_cons_succ, List.getElem_cons_zero, Act.put, List.setIfInBounds_toArray, List.set_cons_succ, List.set_cons_zero]
  refine wpAnyX_take (i := 4) (v := .int .i64 ((i : Int) + 1)) 8 (kept_and (kept_cs _ _ _) (kept_turn _ _)) (fun _ h => h) rfl (by kernel_rfl) (by kernel_rfl) (fun _ _ _ h => h) (DoesV.reads (by rfl) fun w9 hS => by go_simp) ?_
  try simp only [List.getElem_toArray, List.getElem_cons_succ, List.getElem_cons_zero, Act.put, List.setIfInBounds_toArray, List.set_cons_succ, List.set_cons_zero]
  refine wpAnyX_take (i := 5) (v := .slice (some ⟨g, o2, none⟩) (m + 1 - (i + 1)) (c - (i + 1))) 8 (kept_and (kept_cs _ _ _) (kept_turn _ _)) (fun _ h => h) rfl (by kernel_rfl) (by kernel_rfl) (fun _ _ _ h => h) (DoesV.reads (by rfl) fun w9 hS => by go_simp; rw [HO.out]; by_cases hx : c = i + 1 <;> simp [hx]) ?_
  try simp only [List.getElem_toArray, List.getElem_cons_succ, List.getElem_cons_zero, Act.put, List.setIfInBounds_toArray, List.set_cons_succ, List.set_cons_zero]
  refine wpAnyX_only (i := 6) rfl (by kernel_rfl) rfl (fun u hS => wp_append_run _ _ _ _ rfl _ _ rfl rfl (HCR.out u hS.1 _ _ _ HO2.out (by omega)) ⟨fun u => Cs u g 84 (over cur (i * 2) news) ∧ Turn w u (· = g), ⟨hS.1.row _, hS.2.trans (turn_row u g _) fun _ _ h => h⟩, kept_and (kept_cs _ _ _) (kept_turn _ _), fun h => absurd (by decide : (6 : Nat) ∈ [6, 7]) h, ?_⟩)
  try simp only [List.getElem_toArray, List.getElem_cons_succ, List.getElem_cons_zero, Act.put, List.setIfInBounds_toArray, List.set_cons_succ, List.set_cons_zero]
  refine wpAnyX_only (i := 7) rfl (by kernel_rfl) rfl (fun u hS => wp_of_run2 (v := .slice (some ⟨g, 0, none⟩) m c) (by go_simp) ⟨fun u => Cs u g 84 (over cur (i * 2) news) ∧ Turn w u (· = g), hS, kept_and (kept_cs _ _ _) (kept_turn _ _), fun h => absurd (by decide : (7 : Nat) ∈ [6, 7]) h, ?_⟩)
  try simp only [List.getElem_toArray, List.getElem_cons_succ, List.getElem_cons_zero, Act.put, List.setIfInBounds_toArray, List.set_cons_succ, List.set_cons_zero]
  refine wpAnyX_done (by kernel_rfl) (fun z hz => ?_) _
  have CZ := Lib.hid hz.1
  have TZ := Lib.hid hz.2
  clear hz
  go_wp2_with (first
    | (refine wpList_clear_run rfl _ 32 rfl _ rfl (HZR.out z CZ.out _ _) ?_; go_frame)
    | fail)
  go_ret
  exact ⟨rfl, del_own (E := entE) HM.out (by omega) (by omega) HC.out HB.out HFG.out HS.out HR.out HNE.out HZ0.out (CZ.out.row _) (TZ.out.trans (turn_row z g _) fun _ _ h => h), TZ.out.trans (turn_row z g _) fun _ _ h => h⟩

/-- one more -/
def InsRet {α : Type} (E : Elem α) (base : Nat) (F : Nat → Prop) (v : Value) (ls : List α) (w : World) (e : Ending) (w' : World) : Prop := ∃ v', e = .returned v' ∧ OwnX E w' base F v' ls ∧ Turn w w' (fun k => v.ownBlock = some k)
theorem shape_of {w : World} {g : Nat} {t : TypeId} {cs : Array Value} (h : Cs w g t cs) : w.shape? g = some (t, cs.size) := by
  unfold Cs at h
  simp [World.shape?, h]
theorem fits_frozen {w : World} {g : Nat} {t : TypeId} {cs : Array Value} (h : Cs w g t cs) (k : Nat) : w.frozen? ⟨g, k, none⟩ = false := h.frozen k
section
variable {α : Type} {E : Elem α}
/-- what Insert leaves, where there was room, and where there was none -/
theorem ins_row {w : World} {F : Nat → Prop} {xs cs : List Value} {ls : List α} {y : α} {i : Nat} (h : RowX E w F xs ls) (hy : E.rd w F cs y) : RowX E w F (xs.take (i * E.n) ++ cs ++ xs.drop (i * E.n)) (ls.take i ++ y :: ls.drop i) := by
  have := ((h.take i).append (RowX.single hy)).append (h.drop i)
  simpa using this
theorem ins_room {w w' : World} {base g n c i : Nat} {F : Nat → Prop} {ls : List α} {cur : Array Value} {cs mv : List Value} {y : α} (hn : ls.length = n) (hi : i < n) (hc : n + 1 ≤ c) (hcm : c ≤ maxLen) (hb : base ≤ g) (hF : F g) (hs : cur.size = c * E.n)
    (hr : RowX E w (fun k => F k ∧ k ≠ g) (cur.toList.take (ls.length * E.n)) ls) (hy : E.rd w (fun k => F k ∧ k ≠ g) cs y) (hm : mv = (cur.toList.take (n * E.n)).drop (i * E.n))
    (hg : Cs w' g E.ety (over (over cur ((i + 1) * E.n) mv) (i * E.n) cs)) (ht : Turn w w' (· = g)) : OwnX E w' base F (.slice (some ⟨g, 0, none⟩) (n + 1) c) (ls.take i ++ y :: ls.drop i) := by
  have e0 : (n + 1) * E.n ≤ c * E.n := Nat.mul_le_mul_right _ hc
  have s1 : (n + 1) * E.n = n * E.n + E.n := Nat.succ_mul _ _
  have s2 : (i + 1) * E.n = i * E.n + E.n := Nat.succ_mul _ _
  have s3 : (i + 1) * E.n ≤ n * E.n := Nat.mul_le_mul_right _ hi
  have hcl : cs.length = E.n := E.len hy
  have hml : mv.length = n * E.n - i * E.n := by
    rw [hm, List.length_drop, List.length_take, Array.length_toList, Nat.min_eq_left (by rw [hs]; omega)]
  have f1 : (i + 1) * E.n + mv.length ≤ cur.size := by rw [hs]; omega
  have f2 : i * E.n + cs.length ≤ (over cur ((i + 1) * E.n) mv).size := by rw [over_size _ _ _ f1, hs]; omega
  have hll : (ls.take i ++ y :: ls.drop i).length = n + 1 := by simp; omega
  have := OwnX.mk' (E := E) (w := w') (base := base) (g := g) (c := c) (F := F) (ls := ls.take i ++ y :: ls.drop i) (cur := over (over cur ((i + 1) * E.n) mv) (i * E.n) cs) hg hb hF (by omega) hcm (by rw [over_size _ _ _ f2, over_size _ _ _ f1, hs]) (by
    have hk := (ins_row (i := i) hr hy).turn ht fun k hk e => hk.2 e
    have e1 : (over (over cur ((i + 1) * E.n) mv) (i * E.n) cs).toList.take ((n + 1) * E.n) = (cur.toList.take (ls.length * E.n)).take (i * E.n) ++ cs ++ (cur.toList.take (ls.length * E.n)).drop (i * E.n) := by
      rw [hn, ← hm]
      unfold over
      simp only [List.toList_toArray]
      rw [List.take_take, Nat.min_eq_left (by omega)]
      have k1 : (cur.toList.take ((i + 1) * E.n)).length = (i + 1) * E.n := by rw [List.length_take, Array.length_toList, hs, Nat.min_eq_left (by omega)]
      have k2 : (cur.toList.take ((i + 1) * E.n) ++ mv ++ cur.toList.drop ((i + 1) * E.n + mv.length)).take (i * E.n) = cur.toList.take (i * E.n) := by
        rw [List.append_assoc, List.take_append_of_le_length (by rw [k1]; omega), List.take_take, Nat.min_eq_left (by omega)]
      have k3 : (cur.toList.take ((i + 1) * E.n) ++ mv ++ cur.toList.drop ((i + 1) * E.n + mv.length)).drop (i * E.n + cs.length) = mv ++ cur.toList.drop ((i + 1) * E.n + mv.length) := by
        rw [List.append_assoc, List.drop_append_of_le_length (by rw [k1]; omega), List.drop_of_length_le (by rw [k1]; omega), List.nil_append]
      rw [k2, k3, ← List.append_assoc, List.take_append_of_le_length (by simp only [List.length_append, List.length_take, Array.length_toList, hcl, hml]; rw [Nat.min_eq_left (by rw [hs]; omega)]; omega)]
      rw [List.take_of_length_le (by simp only [List.length_append, List.length_take, Array.length_toList, hcl, hml]; rw [Nat.min_eq_left (by rw [hs]; omega)]; omega)]
    rw [hll, e1]
    exact hk)
  rw [hll] at this
  exact this
theorem ins_grow {w w' : World} {base g n c i : Nat} {F : Nat → Prop} {G : Nat → Prop} {ls : List α} {cur : Array Value} {xs cs mv : List Value} {y : α} (hn : ls.length = n) (hi : i < n) (hc : n + 1 ≤ c) (hcm : c ≤ maxLen) (hb : base ≤ g) (hF : F g) (hs : cur.size = c * E.n) (hx : cur.toList.take (i * E.n) = xs.take (i * E.n))
    (hr : RowX E w G xs ls) (hy : E.rd w G cs y) (hm : mv = xs.drop (i * E.n)) (hG : ∀ k, k < w.heap.size → G k → F k ∧ k ≠ g)
    (hg : Cs w' g E.ety (over (over cur (i * E.n) cs) ((i + 1) * E.n) mv)) (ht : Below w.heap.size w w') : OwnX E w' base F (.slice (some ⟨g, 0, none⟩) (n + 1) c) (ls.take i ++ y :: ls.drop i) := by
  have e0 : (n + 1) * E.n ≤ c * E.n := Nat.mul_le_mul_right _ hc
  have s1 : (n + 1) * E.n = n * E.n + E.n := Nat.succ_mul _ _
  have s2 : (i + 1) * E.n = i * E.n + E.n := Nat.succ_mul _ _
  have s3 : (i + 1) * E.n ≤ n * E.n := Nat.mul_le_mul_right _ hi
  have hcl : cs.length = E.n := E.len hy
  have hxl : xs.length = n * E.n := by rw [hr.1, hn]
  have hml : mv.length = n * E.n - i * E.n := by rw [hm, List.length_drop, hxl]
  have f1 : i * E.n + cs.length ≤ cur.size := by rw [hs]; omega
  have f2 : (i + 1) * E.n + mv.length ≤ (over cur (i * E.n) cs).size := by rw [over_size _ _ _ f1, hs]; omega
  have hll : (ls.take i ++ y :: ls.drop i).length = n + 1 := by simp; omega
  have := OwnX.mk' (E := E) (w := w') (base := base) (g := g) (c := c) (F := F) (ls := ls.take i ++ y :: ls.drop i) (cur := over (over cur (i * E.n) cs) ((i + 1) * E.n) mv) hg hb hF (by omega) hcm (by rw [over_size _ _ _ f2, over_size _ _ _ f1, hs]) (by
    have hk := ((ins_row (i := i) hr hy).mono hG).below ht
    have e1 : (over (over cur (i * E.n) cs) ((i + 1) * E.n) mv).toList.take ((n + 1) * E.n) = xs.take (i * E.n) ++ cs ++ xs.drop (i * E.n) := by
      have h5 := over_take' (over cur (i * E.n) cs) ((i + 1) * E.n) mv f2
      rw [show (i + 1) * E.n + mv.length = (n + 1) * E.n by omega] at h5
      have h6 := over_take' cur (i * E.n) cs f1
      rw [show i * E.n + cs.length = (i + 1) * E.n by omega] at h6
      rw [h5, h6, hx, hm]
    rw [hll, e1]
    exact hk)
  rw [hll] at this
  exact this
end
set_option maxHeartbeats 8000000 in
theorem InsertE_nd (base : Nat) (F : Nat → Prop) (v : Value) (ls : List (Nd × Sup)) (vb : Nat) (cs : List Value) (y : (Nd × Sup)) (w : World) (h : OwnX (nodeO base) w base F v ls) (hvb : Cs w vb 34 cs.toArray) (hy : ((nodeO base)).rd w (fun k => F k ∧ v.ownBlock ≠ some k) cs y) (hF : ∀ k, w.heap.size ≤ k → F k) (hbase : base ≤ w.heap.size) (hml : ls.length ≤ 1000000) :
    Calls Tryd.prog 27 #[v, .int .i64 (ls.length : Int), .slice (some ⟨vb, 0, none⟩) 1 1] w fun e w' => InsRet (nodeO base) base F v (ls ++ [y]) w e w' := by
  obtain ⟨A, c, rfl, hr, hc, hcm, hnil⟩ := h.form
  have HO := Lib.hid h
  have HV := Lib.hid hvb
  have HY := Lib.hid hy
  have HF := Lib.hid hF
  have HB := Lib.hid hbase
  have iml : (ls.length : Int) ≤ 1000000 := by omega
  have HM := Lib.hid hml
  clear h hvb hy hF hbase hnil hr hcm hml
  generalize hn : ls.length = n at *
  have HN := Lib.hid hn
  clear hn
  rcases Nat.lt_or_ge n c with hcn | hcn
  · have hcc : ¬ c = n := by omega
    go_enter Tryd.func27, Tryd.ntmps27
    go_wp2_with (first
      | (at_builtin; refine wpList_append_x1 (E := (nodeO base)) rfl _ _ rfl base F _ ls rfl HO.out vb 1 rfl cs y HY.out _ HV.out (by have := HM.out; have := HN.out; omega) HB.out (HF.out _ (Nat.le_refl _)) ?_; intro v' w' ho hg; go_frame; have HO2 := Lib.hid ho; have HG2 := Lib.hid (show w.grownBy w' (Value.slice A n c).ownBlock from hg); clear ho hg)
      | fail)
    go_ret
    exact ⟨v', rfl, HO2.out, Turn.of_grown HG2.out⟩
  · obtain rfl : n = c := by omega
    go_enter Tryd.func27, Tryd.ntmps27
    go_wp2_with (first
      | (at_builtin; refine wpList_append_x1 (E := (nodeO base)) rfl _ _ rfl base F _ ls rfl HO.out vb 1 rfl cs y HY.out _ HV.out (by have := HM.out; have := HN.out; omega) HB.out (HF.out _ (Nat.le_refl _)) ?_; intro v' w' ho hg; go_frame; have HO2 := Lib.hid ho; have HG2 := Lib.hid (show w.grownBy w' (Value.slice A n n).ownBlock from hg); clear ho hg)
      | fail)
    go_ret
    exact ⟨v', rfl, HO2.out, Turn.of_grown HG2.out⟩
set_option maxHeartbeats 8000000 in
theorem InsertE_en (base : Nat) (F : Nat → Prop) (v : Value) (ls : List Ent) (vb : Nat) (cs : List Value) (y : Ent) (w : World) (h : OwnX entE w base F v ls) (hvb : Cs w vb 84 cs.toArray) (hy : (entE).rd w (fun k => F k ∧ v.ownBlock ≠ some k) cs y) (hF : ∀ k, w.heap.size ≤ k → F k) (hbase : base ≤ w.heap.size) (hml : ls.length ≤ 1000000) :
    Calls Tryd.prog 49 #[v, .int .i64 (ls.length : Int), .slice (some ⟨vb, 0, none⟩) 1 1] w fun e w' => InsRet entE base F v (ls ++ [y]) w e w' := by
  obtain ⟨A, c, rfl, hr, hc, hcm, hnil⟩ := h.form
  have HO := Lib.hid h
  have HV := Lib.hid hvb
  have HY := Lib.hid hy
  have HF := Lib.hid hF
  have HB := Lib.hid hbase
  have iml : (ls.length : Int) ≤ 1000000 := by omega
  have HM := Lib.hid hml
  clear h hvb hy hF hbase hnil hr hcm hml
  generalize hn : ls.length = n at *
  have HN := Lib.hid hn
  clear hn
  rcases Nat.lt_or_ge n c with hcn | hcn
  · have hcc : ¬ c = n := by omega
    go_enter Tryd.func49, Tryd.ntmps49
    go_wp2_with (first
      | (at_builtin; refine wpList_append_x1 (E := entE) rfl _ _ rfl base F _ ls rfl HO.out vb 1 rfl cs y HY.out _ HV.out (by have := HM.out; have := HN.out; omega) HB.out (HF.out _ (Nat.le_refl _)) ?_; intro v' w' ho hg; go_frame; have HO2 := Lib.hid ho; have HG2 := Lib.hid (show w.grownBy w' (Value.slice A n c).ownBlock from hg); clear ho hg)
      | fail)
    go_ret
    exact ⟨v', rfl, HO2.out, Turn.of_grown HG2.out⟩
  · obtain rfl : n = c := by omega
    go_enter Tryd.func49, Tryd.ntmps49
    go_wp2_with (first
      | (at_builtin; refine wpList_append_x1 (E := entE) rfl _ _ rfl base F _ ls rfl HO.out vb 1 rfl cs y HY.out _ HV.out (by have := HM.out; have := HN.out; omega) HB.out (HF.out _ (Nat.le_refl _)) ?_; intro v' w' ho hg; go_frame; have HO2 := Lib.hid ho; have HG2 := Lib.hid (show w.grownBy w' (Value.slice A n n).ownBlock from hg); clear ho hg)
      | fail)
    go_ret
    exact ⟨v', rfl, HO2.out, Turn.of_grown HG2.out⟩
theorem sizeOf_el {t : TypeId} {n : Nat} (h : (Tryd.prog.info? t).map (·.size) = some n) (w : World) : (Go.sizeOf t).run Tryd.prog w = .ok n w := by
  cases e : Tryd.prog.info? t with
  | none => rw [e] at h; cases h
  | some j =>
    rw [e] at h
    have : j.size = n := by simpa using h
    simp [sizeOf, typeInfo, e, this]
section
variable {α : Type} {E : Elem α}
/-- a longer row, with zeros behind what was there -/
theorem run_growX {w : World} {g c i k : Nat} {cur : Array Value} (hg : Cs w g E.ety cur) (hs : cur.size = c * E.n) (hi : i ≤ c) (h0 : 0 < k) (hk : c < i + k) (hb : i + k ≤ 10000000) :
    ∃ C cur' w', (Builtin.append_ #[E.sty, 3] E.sty #[.slice (some ⟨g, 0, none⟩) i c, .int .i64 (k : Int)]).run Tryd.prog w = .ok (.slice (some ⟨w.heap.size, 0, none⟩) (i + k) C) w' ∧ i + k ≤ C ∧ C ≤ maxLen ∧ cur'.size = C * E.n ∧ cur'.toList.take (i * E.n) = cur.toList.take (i * E.n) ∧ Cs w' w.heap.size E.ety cur' ∧ Below w.heap.size w w' := by
  obtain ⟨inf, z, h1, h2, h3, h4, h5⟩ := E.info
  have hby := E.byt
  have hin : i * E.n ≤ c * E.n := Nat.mul_le_mul_right _ hi
  have hold := run_firstCells_some (P := Tryd.prog) w.drew inf.size i ⟨g, 0, none⟩ i c (cur.toList.take (i * E.n)) (by rw [List.length_take, Array.length_toList, hs, h3, Nat.min_eq_left hin]) (fun j v hj => by
    rw [addr_add, Nat.zero_add]
    have hj2 : j < i * E.n := by
      have := (List.getElem?_eq_some_iff.1 hj).1
      rw [List.length_take] at this
      omega
    rw [List.getElem?_take_of_lt hj2] at hj
    exact hg.drew.cell j (by simpa using hj))
  have hle := grownCap_le_maxLen w (i + k) c E.ety (by simp only [maxLen]; omega)
  have hge := grownCap_ge w (i + k) c E.ety
  have hcap : Builtin.nextslicecap (i + k) c ≤ 2 * (i + k) := nextslicecap_le (by omega)
  have hpz := E.pos
  have := Lib.run_append_grow_zeros (P := Tryd.prog) w E.sty 3 E.sty E.ety inf z .i64 .i64 E.und Tryd.underlying3 h1 h2 (some ⟨g, 0, none⟩) i c _ hold k h0 (by rw [h3]; exact hpz) hk (by omega) (Nat.le_trans (Nat.mul_le_mul (show k ≤ 10000000 by omega) (by rw [h4]; exact hby)) (by decide)) (Nat.le_trans (Nat.mul_le_mul (show Builtin.nextslicecap (i + k) c ≤ 20000000 by omega) (by rw [h4]; exact hby)) (by decide))
  refine ⟨_, (cur.toList.take (i * E.n)).toArray ++ Builtin.zeroCells z.cells k ++ Builtin.zeroCells z.cells (grownCap w (i + k) c E.ety - (i + k)), _, this, hge, hle, ?_, ?_, ?_, ?_⟩
  · simp only [Array.size_append, List.size_toArray, size_zeroCells, h5, List.length_take, Array.length_toList, hs, Nat.min_eq_left hin, ← Nat.add_mul]
    congr 1
    omega
  · simp only [Array.toList_append, List.append_assoc]
    rw [List.take_append_of_le_length (by rw [List.length_take, Array.length_toList, hs]; omega), List.take_take, Nat.min_self]
  · exact World.alloc_heap_new w.drew _
  · exact ((Below.refl _ _).drew).alloc (by simp) _
end
section
variable {P : Program} {w : World} {o : Oper} {a : Act} {Q : Exit → Act → World → Prop} {ops : Array Oper} {rest : List Oper}
theorem wpList_append_run (hgd : o.guard = none) (s x : Operand) (t t' : TypeId) (ho : o.op = .call { callee := .builtin .append, args := #[s, x], argTypes := #[t, t'] }) (v u : Value) (hs : a.eval s = v) (hx : a.eval x = u) {v' : Value} {w' : World}
    (hr : (Builtin.append_ #[t, t'] o.type #[v, u]).run P w = .ok v' w') (hK : wpList P ops Q rest (a.put o.dst v') w') : wpList P ops Q (o :: rest) a w := wpList_plain hgd fun _ hk => wp_append_run s x t t' ho v u hs hx hr (hk _ _ hK)
end
set_option maxHeartbeats 8000000 in
theorem InsertR_nd (base : Nat) (F : Nat → Prop) (g n c i : Nat) (ls : List (Nd × Sup)) (vb : Nat) (cs : List Value) (y : (Nd × Sup)) (w : World) (h : OwnX (nodeO base) w base F (.slice (some ⟨g, 0, none⟩) n c) ls) (hn : ls.length = n) (hi : i < n) (hroom : n + 1 ≤ c) (hF : F g) (hne : vb ≠ g) (hvb : Cs w vb 34 cs.toArray) (hy : ((nodeO base)).rd w (fun k => F k ∧ k ≠ g) cs y) (hml : n ≤ 1000000) :
    Calls Tryd.prog 27 #[.slice (some ⟨g, 0, none⟩) n c, .int .i64 (i : Int), .slice (some ⟨vb, 0, none⟩) 1 1] w fun e w' => InsRet (nodeO base) base F (.slice (some ⟨g, 0, none⟩) n c) (ls.take i ++ y :: ls.drop i) w e w' := by
  obtain ⟨cur, h1, h2, -, h3, h4, h5, h6⟩ := h.cur
  have hmix : Tryd.prog.follows .mixedOrders = true := by kernel_rfl
  have HG := Lib.hid h1
  have HV := Lib.hid hvb
  have HB := Lib.hid h2
  have HN := Lib.hid hn
  have HS := Lib.hid (show cur.size = c * 6 from h5)
  have HR := Lib.hid h6
  have HY := Lib.hid hy
  have HFG := Lib.hid hF
  have HC := Lib.hid h4
  have HNE := Lib.hid hne
  have hcl : cs.length = 6 := ((nodeO base)).len hy
  have HC1 := Lib.hid (((nodeO base)).one hy)
  obtain ⟨mv, hmv⟩ : ∃ mv, mv = (cur.toList.take (n * 6)).drop (i * 6) := ⟨_, rfl⟩
  have hcs : cur.size = c * 6 := h5
  have hml2 : mv.length = (n - i) * 6 := by rw [hmv, List.length_drop, List.length_take, Array.length_toList, hcs]; omega
  have HM1 := Lib.hid (show ∀ v ∈ mv, v.oneCell' = true from fun v hv => by
    rw [hmv, ← hn] at hv
    exact h6.one v (List.mem_of_mem_drop hv))
  have HMV := Lib.hid hmv
  have HOV := Lib.hid (show ∀ u, Cs u g 34 cur → Cs u vb 34 cs.toArray → ∀ lb cb, (callFunc 52 #[.slice (some ⟨vb, 0, none⟩) 1 1, .slice (some ⟨g, (i + 1) * 6, none⟩) lb cb]).run Tryd.prog u = .ok (.value (.bool false)) u from fun u hu hv lb cb => by
    rw [run_callFunc_extern Tryd.func52 (by kernel_rfl) (by kernel_rfl) (by kernel_rfl) (e := Extern.SlicesOverlaps.overlaps #[23, 23] #[4]) (by kernel_rfl),
      Lib.run_overlaps_apart u 23 4 34 Tryd.underlying23 6 (sizeOf_el infoNode) ⟨vb, 0, none⟩ ⟨g, (i + 1) * 6, none⟩ 1 1 lb cb HNE.out _ _ _ _ (shape_of hv) (shape_of hu) (by rw [HS.out]; omega) (hv.frozen 0) (hv.frozen _)]
    rfl)
  have HCP := Lib.hid (show ∀ u, Cs u g 34 cur → ∀ ty d1 d2 s1 s2, d1 = n - i → s1 = n + 1 - i → (Builtin.copy_ #[23, 23] ty #[.slice (some ⟨g, (i + 1) * 6, none⟩) d1 d2, .slice (some ⟨g, i * 6, none⟩) s1 s2]).run Tryd.prog u = .ok (goInt (Nat.min s1 d1)) (u.setRow g (over cur ((i + 1) * 6) mv)) from fun u hu ty d1 d2 s1 s2 e1 e2 => by
    refine run_copyX (E := (nodeO base)) u ty g ((i + 1) * 6) d1 d2 ⟨g, i * 6, none⟩ s1 s2 cur _ mv hu ?_ (fun j v hv => ?_) (by rw [hml2, hcs]; omega) HM1.out
    · rw [hml2, e1, e2, show Nat.min (n + 1 - i) (n - i) = n - i from Nat.min_eq_right (by omega)]
      rfl
    · have hj : j < mv.length := (List.getElem?_eq_some_iff.1 hv).1
      rw [addr_add]
      rw [hmv, List.getElem?_drop, List.getElem?_take_of_lt (by omega)] at hv
      exact hu.cell _ (by simpa using hv))
  have HCQ := Lib.hid (show ∀ u, Cs u g 34 (over cur ((i + 1) * 6) mv) → Cs u vb 34 cs.toArray → ∀ ty d1 d2, 1 ≤ d1 → (Builtin.copy_ #[23, 23] ty #[.slice (some ⟨g, i * 6, none⟩) d1 d2, .slice (some ⟨vb, 0, none⟩) 1 1]).run Tryd.prog u = .ok (goInt (Nat.min 1 d1)) (u.setRow g (over (over cur ((i + 1) * 6) mv) (i * 6) cs)) from fun u hu hv ty d1 d2 e1 => by
    refine run_copyX (E := (nodeO base)) u ty g (i * 6) d1 d2 ⟨vb, 0, none⟩ 1 1 _ _ cs hu ?_ (fun j v hj => ?_) (by rw [over_size _ _ _ (by rw [hml2, hcs]; omega), hcl, hcs]; omega) HC1.out
    · rw [hcl, show Nat.min 1 d1 = 1 from Nat.min_eq_left e1]
      rfl
    · rw [addr_add, Nat.zero_add]
      exact hv.cell j (by simpa using hj))
  have i1 : (i : Int) < n := by omega
  have i2 : (n : Int) + 1 ≤ c := by omega
  have i3 : (n : Int) ≤ 1000000 := by omega
  have i4 := Lib.hid (show (c : Int) ≤ 9223372036854775807 by have := HC.out; simp only [maxLen] at this; omega)
  have j1 : ¬ c = i := by omega
  have j2 : ¬ c = i + 1 := by omega
  have j3 : ((i : Int) == (n : Int)) = false := by simp; omega
  have j4 : ¬ (c : Int) < (n : Int) + 1 := by omega
  have j5 : ¬ ((i : Int) + 1 < 0) := by omega
  have j6 : ¬ ((n : Int) + 1 < (i : Int) + 1) := by omega
  have j7 : ¬ ((n : Int) + 1 < 0) := by omega
  have j8 : ¬ ((n : Int) + 1 < i) := by omega
  have j9 : ¬ c < n + 1 := by omega
  have jw : IntKind.i64.wrap ((i : Int) + 1) = (i : Int) + 1 := by rw [IntKind.wrap_i64]; omega
  clear h h1 h2 h4 h5 h6 hn hvb hy hF hne hcl hmv hcs hml2
  go_enter Tryd.func27, Tryd.ntmps27
  have hov := HOV.out w HG.out HV.out
  go_wp2_with (first
    | (simp only [hov])
    | fail)
  clear hov
  refine wp_region_X [8] (fun u => Cs u g 34 cur ∧ Cs u vb 34 cs.toArray ∧ Turn w u (· = g)) (fun u => Cs u g 34 cur ∧ Cs u vb 34 cs.toArray ∧ Turn w u (· = g)) hmix (⟨HG.out.drew, HV.out.drew, Turn.drew _ _⟩) ?_
  change wpAnyX _ _ _ _ _ _ _ _ _ _
  refine wpAnyX_take (i := 0) (v := .slice (some ⟨g, 0, none⟩) (n + 1) c) 8 (kept_and (kept_cs _ _ _) (kept_and (kept_cs _ _ _) (kept_turn _ _))) (fun _ h => h) rfl (by kernel_rfl) (by kernel_rfl) (fun _ _ _ h => h) (DoesV.reads (by rfl) fun w9 hS => by go_simp) ?_
  try simp only [List.getElem_toArray, List.getElem_cons_succ, List.getElem_cons_zero, Act.put, List.setIfInBounds_toArray, List.set_cons_succ, List.set_cons_zero]
  refine wpAnyX_take (i := 1) (v := .int .i64 (i : Int)) 8 (kept_and (kept_cs _ _ _) (kept_and (kept_cs _ _ _) (kept_turn _ _))) (fun _ h => h) rfl (by kernel_rfl) (by kernel_rfl) (fun _ _ _ h => h) (DoesV.reads (by rfl) fun w9 hS => by go_simp) ?_
  try simp only [List.getElem_toArray, List.getElem_cons_succ, List.getElem_cons_zero, Act.put, List.setIfInBounds_toArray, List.set_cons_succ, List.set_cons_zero]
  refine wpAnyX_take (i := 2) (v := .int .i64 1) 8 (kept_and (kept_cs _ _ _) (kept_and (kept_cs _ _ _) (kept_turn _ _))) (fun _ h => h) rfl (by kernel_rfl) (by kernel_rfl) (fun _ _ _ h => h) (DoesV.reads (by rfl) fun w9 hS => by go_simp) ?_
  try simp only [List.getElem_toArray, List.getElem_cons_succ, List.getElem_cons_zero, Act.put, List.setIfInBounds_toArray, List.set_cons_succ, List.set_cons_zero]
  refine wpAnyX_take (i := 3) (v := .int .i64 ((i : Int) + 1)) 8 (kept_and (kept_cs _ _ _) (kept_and (kept_cs _ _ _) (kept_turn _ _))) (fun _ h => h) rfl (by kernel_rfl) (by kernel_rfl) (fun _ _ _ h => h) (DoesV.reads (by rfl) fun w9 hS => by go_simp) ?_
  try simp only [List.getElem_toArray, List.getElem_cons_succ, List.getElem_cons_zero, Act.put, List.setIfInBounds_toArray, List.set_cons_succ, List.set_cons_zero]
  refine wpAnyX_take (i := 4) (v := .slice (some ⟨g, (i + 1) * 6, none⟩) (n + 1 - (i + 1)) (c - (i + 1))) 8 (kept_and (kept_cs _ _ _) (kept_and (kept_cs _ _ _) (kept_turn _ _))) (fun _ h => h) rfl (by kernel_rfl) (by kernel_rfl) (fun _ _ _ h => h) (DoesV.reads (by rfl) fun w9 hS => by go_simp) ?_
  try simp only [List.getElem_toArray, List.getElem_cons_succ, List.getElem_cons_zero, Act.put, List.setIfInBounds_toArray, List.set_cons_succ, List.set_cons_zero]
  refine wpAnyX_take (i := 5) (v := .slice (some ⟨g, 0, none⟩) (n + 1) c) 8 (kept_and (kept_cs _ _ _) (kept_and (kept_cs _ _ _) (kept_turn _ _))) (fun _ h => h) rfl (by kernel_rfl) (by kernel_rfl) (fun _ _ _ h => h) (DoesV.reads (by rfl) fun w9 hS => by go_simp) ?_
  try simp only [List.getElem_toArray, List.getElem_cons_succ, List.getElem_cons_zero, Act.put, List.setIfInBounds_toArray, List.set_cons_succ, List.set_cons_zero]
  refine wpAnyX_take (i := 6) (v := .int .i64 (i : Int)) 8 (kept_and (kept_cs _ _ _) (kept_and (kept_cs _ _ _) (kept_turn _ _))) (fun _ h => h) rfl (by kernel_rfl) (by kernel_rfl) (fun _ _ _ h => h) (DoesV.reads (by rfl) fun w9 hS => by go_simp) ?_
  try simp only [List.getElem_toArray, List.getElem_cons_succ, List.getElem_cons_zero, Act.put, List.setIfInBounds_toArray, List.set_cons_succ, List.set_cons_zero]
  refine wpAnyX_take (i := 7) (v := .slice (some ⟨g, i * 6, none⟩) (n + 1 - i) (c - i)) 8 (kept_and (kept_cs _ _ _) (kept_and (kept_cs _ _ _) (kept_turn _ _))) (fun _ h => h) rfl (by kernel_rfl) (by kernel_rfl) (fun _ _ _ h => h) (DoesV.reads (by rfl) fun w9 hS => by go_simp) ?_
  try simp only [List.getElem_toArray, List.getElem_cons_succ, List.getElem_cons_zero, Act.put, List.setIfInBounds_toArray, List.set_cons_succ, List.set_cons_zero]
  refine wpAnyX_only (i := 8) rfl (by kernel_rfl) rfl (fun u hS => wp_copy_run _ _ _ _ rfl _ _ rfl rfl (HCP.out u hS.1 _ _ _ _ _ (by omega) rfl) ⟨fun u => Cs u g 34 (over cur ((i + 1) * 6) mv) ∧ Cs u vb 34 cs.toArray ∧ Turn w u (· = g), ⟨hS.1.row _, hS.2.1.turn (turn_row u g _) HNE.out, hS.2.2.trans (turn_row u g _) fun _ _ h => h⟩, kept_and (kept_cs _ _ _) (kept_and (kept_cs _ _ _) (kept_turn _ _)), fun h => absurd (by decide : (8 : Nat) ∈ [8]) h, ?_⟩)
  try simp only [List.getElem_toArray, List.getElem_cons_succ, List.getElem_cons_zero, Act.put, List.setIfInBounds_toArray, List.set_cons_succ, List.set_cons_zero]
  refine wpAnyX_done (by kernel_rfl) (fun z hz => ?_) _
  have CZ := Lib.hid hz.1
  have CV := Lib.hid hz.2.1
  have TZ := Lib.hid hz.2.2
  clear hz
  go_wp2_with (first
    | (refine wpList_copy_run rfl _ _ 23 23 rfl _ _ rfl rfl (HCQ.out z CZ.out CV.out _ _ _ (by omega)) ?_; go_frame)
    | fail)
  go_ret
  exact ⟨_, rfl, ins_room (E := (nodeO base)) HN.out hi hroom HC.out HB.out HFG.out HS.out HR.out HY.out HMV.out (CZ.out.row _) (TZ.out.trans (turn_row z g _) fun _ _ h => h), (TZ.out.trans (turn_row z g _) fun _ _ h => h).mono fun k _ e => by rw [e]; rfl⟩
set_option maxHeartbeats 8000000 in
theorem InsertG_nd (base : Nat) (F : Nat → Prop) (g n i : Nat) (ls : List (Nd × Sup)) (vb : Nat) (cs : List Value) (y : (Nd × Sup)) (w : World) (h : OwnX (nodeO base) w base F (.slice (some ⟨g, 0, none⟩) n n) ls) (hn : ls.length = n) (hi : i < n) (hF : ∀ k, w.heap.size ≤ k → F k) (hbase : base ≤ w.heap.size) (hvb : Cs w vb 34 cs.toArray) (hy : ((nodeO base)).rd w (fun k => F k ∧ k ≠ g) cs y) (hml : n ≤ 1000000) :
    Calls Tryd.prog 27 #[.slice (some ⟨g, 0, none⟩) n n, .int .i64 (i : Int), .slice (some ⟨vb, 0, none⟩) 1 1] w fun e w' => InsRet (nodeO base) base F (.slice (some ⟨g, 0, none⟩) n n) (ls.take i ++ y :: ls.drop i) w e w' := by
  obtain ⟨cur, h1, h2, -, h3, h4, h5, h6⟩ := h.cur
  have hmix : Tryd.prog.follows .mixedOrders = true := by kernel_rfl
  have hcs : cur.size = n * 6 := h5
  obtain ⟨C, cur2, w1, hrun, hC1, hC2, hsz2, htk2, hg2, hb2⟩ := run_growX (E := (nodeO base)) (k := n + 1 - i) h1 hcs (Nat.le_of_lt hi) (by omega) (by omega) (by omega)
  rw [show i + (n + 1 - i) = n + 1 by omega] at hrun hC1
  rw [show ((n + 1 - i : Nat) : Int) = (n : Int) + 1 - (i : Int) by omega] at hrun
  have hgs : g < w.heap.size := h1.lt
  obtain ⟨g2, hgg⟩ : ∃ g2, g2 = w.heap.size := ⟨_, rfl⟩
  rw [← hgg] at hrun hg2
  have HRUN := Lib.hid hrun
  have HG := Lib.hid h1
  have HV := Lib.hid hvb
  have HB := Lib.hid h2
  have HN := Lib.hid hn
  have HS := Lib.hid hcs
  have HR := Lib.hid h6
  have HY := Lib.hid hy
  have HF := Lib.hid hF
  have HC := Lib.hid hC2
  have HG2 := Lib.hid hg2
  have HS2 := Lib.hid (show cur2.size = C * 6 from hsz2)
  have HTK := Lib.hid (show cur2.toList.take (i * 6) = cur.toList.take (i * 6) from htk2)
  have HBL := Lib.hid hb2
  have HGG := Lib.hid hgg
  have HGS := Lib.hid hgs
  have HBS := Lib.hid hbase
  have hcl : cs.length = 6 := ((nodeO base)).len hy
  have HC1 := Lib.hid (((nodeO base)).one hy)
  obtain ⟨mv, hmv⟩ : ∃ mv, mv = (cur.toList.take (n * 6)).drop (i * 6) := ⟨_, rfl⟩
  have hml2 : mv.length = (n - i) * 6 := by rw [hmv, List.length_drop, List.length_take, Array.length_toList, hcs]; omega
  have HM1 := Lib.hid (show ∀ v ∈ mv, v.oneCell' = true from fun v hv => by
    rw [hmv, ← hn] at hv
    exact h6.one v (List.mem_of_mem_drop hv))
  have HMV := Lib.hid hmv
  have hs2 : cur2.size = C * 6 := hsz2
  have hfit : i * 6 + cs.length ≤ cur2.size := by rw [hcl, hs2]; omega
  have HCQ := Lib.hid (show ∀ u, Cs u g2 34 cur2 → Cs u vb 34 cs.toArray → ∀ ty d1 d2, 1 ≤ d1 → (Builtin.copy_ #[23, 23] ty #[.slice (some ⟨g2, i * 6, none⟩) d1 d2, .slice (some ⟨vb, 0, none⟩) 1 1]).run Tryd.prog u = .ok (goInt (Nat.min 1 d1)) (u.setRow g2 (over cur2 (i * 6) cs)) from fun u hu hv ty d1 d2 e1 => by
    refine run_copyX (E := (nodeO base)) u ty g2 (i * 6) d1 d2 ⟨vb, 0, none⟩ 1 1 _ _ cs hu ?_ (fun j v hj => ?_) hfit HC1.out
    · rw [hcl, show Nat.min 1 d1 = 1 from Nat.min_eq_left e1]
      rfl
    · rw [addr_add, Nat.zero_add]
      exact hv.cell j (by simpa using hj))
  have HCP := Lib.hid (show ∀ u, Cs u g2 34 (over cur2 (i * 6) cs) → Cs u g 34 cur → ∀ ty d1 d2 s1 s2, d1 = n - i → s1 = n - i → (Builtin.copy_ #[23, 23] ty #[.slice (some ⟨g2, (i + 1) * 6, none⟩) d1 d2, .slice (some ⟨g, i * 6, none⟩) s1 s2]).run Tryd.prog u = .ok (goInt (Nat.min s1 d1)) (u.setRow g2 (over (over cur2 (i * 6) cs) ((i + 1) * 6) mv)) from fun u hu hu2 ty d1 d2 s1 s2 e1 e2 => by
    refine run_copyX (E := (nodeO base)) u ty g2 ((i + 1) * 6) d1 d2 ⟨g, i * 6, none⟩ s1 s2 _ _ mv hu ?_ (fun j v hv => ?_) (by rw [over_size _ _ _ hfit, hml2, hs2]; omega) HM1.out
    · rw [hml2, e1, e2, show Nat.min (n - i) (n - i) = n - i from Nat.min_self _]
      rfl
    · have hj : j < mv.length := (List.getElem?_eq_some_iff.1 hv).1
      rw [addr_add]
      rw [hmv, List.getElem?_drop, List.getElem?_take_of_lt (by omega)] at hv
      exact hu2.cell _ (by simpa using hv))
  have i1 : (i : Int) < n := by omega
  have i2 : (n : Int) + 1 ≤ C := by omega
  have i3 : (n : Int) ≤ 1000000 := by omega
  have i4 := Lib.hid (show (C : Int) ≤ 9223372036854775807 by have := HC.out; simp only [maxLen] at this; omega)
  have j1 : ¬ C = i := by omega
  have j2 : ¬ C = i + 1 := by omega
  have j3 : ((i : Int) == (n : Int)) = false := by simp; omega
  have j4 : (n : Int) < (n : Int) + 1 := by omega
  have j5 : ¬ ((i : Int) + 1 < 0) := by omega
  have j6 : ¬ ((n : Int) + 1 < (i : Int) + 1) := by omega
  have j7 : ¬ n = i := by omega
  have j8 : ¬ n = 0 := by omega
  have j9 : ¬ C = 0 := by omega
  have j10 : ¬ n < i := by omega
  have jw : IntKind.i64.wrap ((i : Int) + 1) = (i : Int) + 1 := by rw [IntKind.wrap_i64]; omega
  clear h h1 h2 h4 h5 h6 hn hvb hy hF hcl hmv hcs hml2 hrun hC2 hsz2 htk2 hg2 hb2 hgg hs2 hfit hbase hgs h3
  go_enter Tryd.func27, Tryd.ntmps27
  go_wp2_with (first
    | ((with_reducible show wpList _ _ _ _ _ w); refine wpList_append_run rfl _ _ _ _ rfl _ _ rfl rfl HRUN.out ?_; go_frame)
    | ((with_reducible show wpList _ _ _ _ _ w1); refine wpList_copy_run rfl _ _ 23 23 rfl _ _ rfl rfl (HCQ.out w1 HG2.out (HV.out.below HBL.out HV.out.lt) _ _ _ (by omega)) ?_; go_frame)
    | fail)
  have C2 := Lib.hid (HG2.out.row (over cur2 (i * 6) cs))
  have T2 := Lib.hid (turn_row w1 g2 (over cur2 (i * 6) cs))
  generalize w1.setRow g2 (over cur2 (i * 6) cs) = w2 at *
  have CG := Lib.hid (show Cs w2 g 34 cur from (HG.out.below HBL.out HGS.out).turn T2.out (by have := HGS.out; have := HGG.out; omega))
  have BL2 := Lib.hid (show Below w.heap.size w w2 from HBL.out.trans (T2.out.below HBL.out.size fun k e => by have := HGG.out; omega))
  refine wp_region_X [8] (fun u => Cs u g2 34 (over cur2 (i * 6) cs) ∧ Cs u g 34 cur ∧ Below w.heap.size w u) (fun u => Cs u g2 34 (over cur2 (i * 6) cs) ∧ Cs u g 34 cur ∧ Below w.heap.size w u) hmix (⟨C2.out.drew, CG.out.drew, BL2.out.drew⟩) ?_
  change wpAnyX _ _ _ _ _ _ _ _ _ _
  refine wpAnyX_take (i := 0) (v := .slice (some ⟨g2, 0, none⟩) (n + 1) C) 8 (kept_and (kept_cs _ _ _) (kept_and (kept_cs _ _ _) (kept_below _))) (fun _ h => h) rfl (by kernel_rfl) (by kernel_rfl) (fun _ _ _ h => h) (DoesV.reads (by rfl) fun w9 hS => by go_simp) ?_
  try simp only [List.getElem_toArray, List.getElem_cons_succ, List.getElem_cons_zero, Act.put, List.setIfInBounds_toArray, List.set_cons_succ, List.set_cons_zero]
  refine wpAnyX_take (i := 1) (v := .int .i64 (i : Int)) 8 (kept_and (kept_cs _ _ _) (kept_and (kept_cs _ _ _) (kept_below _))) (fun _ h => h) rfl (by kernel_rfl) (by kernel_rfl) (fun _ _ _ h => h) (DoesV.reads (by rfl) fun w9 hS => by go_simp) ?_
  try simp only [List.getElem_toArray, List.getElem_cons_succ, List.getElem_cons_zero, Act.put, List.setIfInBounds_toArray, List.set_cons_succ, List.set_cons_zero]
  refine wpAnyX_take (i := 2) (v := .int .i64 1) 8 (kept_and (kept_cs _ _ _) (kept_and (kept_cs _ _ _) (kept_below _))) (fun _ h => h) rfl (by kernel_rfl) (by kernel_rfl) (fun _ _ _ h => h) (DoesV.reads (by rfl) fun w9 hS => by go_simp) ?_
  try simp only [List.getElem_toArray, List.getElem_cons_succ, List.getElem_cons_zero, Act.put, List.setIfInBounds_toArray, List.set_cons_succ, List.set_cons_zero]
  refine wpAnyX_take (i := 3) (v := .int .i64 ((i : Int) + 1)) 8 (kept_and (kept_cs _ _ _) (kept_and (kept_cs _ _ _) (kept_below _))) (fun _ h => h) rfl (by kernel_rfl) (by kernel_rfl) (fun _ _ _ h => h) (DoesV.reads (by rfl) fun w9 hS => by go_simp) ?_
  try simp only [List.getElem_toArray, List.getElem_cons_succ, List.getElem_cons_zero, Act.put, List.setIfInBounds_toArray, List.set_cons_succ, List.set_cons_zero]
  refine wpAnyX_take (i := 4) (v := .slice (some ⟨g2, (i + 1) * 6, none⟩) (n + 1 - (i + 1)) (C - (i + 1))) 8 (kept_and (kept_cs _ _ _) (kept_and (kept_cs _ _ _) (kept_below _))) (fun _ h => h) rfl (by kernel_rfl) (by kernel_rfl) (fun _ _ _ h => h) (DoesV.reads (by rfl) fun w9 hS => by go_simp) ?_
  try simp only [List.getElem_toArray, List.getElem_cons_succ, List.getElem_cons_zero, Act.put, List.setIfInBounds_toArray, List.set_cons_succ, List.set_cons_zero]
  refine wpAnyX_take (i := 5) (v := .slice (some ⟨g, 0, none⟩) n n) 8 (kept_and (kept_cs _ _ _) (kept_and (kept_cs _ _ _) (kept_below _))) (fun _ h => h) rfl (by kernel_rfl) (by kernel_rfl) (fun _ _ _ h => h) (DoesV.reads (by rfl) fun w9 hS => by go_simp) ?_
  try simp only [List.getElem_toArray, List.getElem_cons_succ, List.getElem_cons_zero, Act.put, List.setIfInBounds_toArray, List.set_cons_succ, List.set_cons_zero]
  refine wpAnyX_take (i := 6) (v := .int .i64 (i : Int)) 8 (kept_and (kept_cs _ _ _) (kept_and (kept_cs _ _ _) (kept_below _))) (fun _ h => h) rfl (by kernel_rfl) (by kernel_rfl) (fun _ _ _ h => h) (DoesV.reads (by rfl) fun w9 hS => by go_simp) ?_
  try simp only [List.getElem_toArray, List.getElem_cons_succ, List.getElem_cons_zero, Act.put, List.setIfInBounds_toArray, List.set_cons_succ, List.set_cons_zero]
  refine wpAnyX_take (i := 7) (v := .slice (some ⟨g, i * 6, none⟩) (n - i) (n - i)) 8 (kept_and (kept_cs _ _ _) (kept_and (kept_cs _ _ _) (kept_below _))) (fun _ h => h) rfl (by kernel_rfl) (by kernel_rfl) (fun _ _ _ h => h) (DoesV.reads (by rfl) fun w9 hS => by go_simp) ?_
  try simp only [List.getElem_toArray, List.getElem_cons_succ, List.getElem_cons_zero, Act.put, List.setIfInBounds_toArray, List.set_cons_succ, List.set_cons_zero]
  refine wpAnyX_only (i := 8) rfl (by kernel_rfl) rfl (fun u hS => wp_copy_run _ _ _ _ rfl _ _ rfl rfl (HCP.out u hS.1 hS.2.1 _ _ _ _ _ (by omega) rfl) ⟨fun u => Cs u g2 34 (over (over cur2 (i * 6) cs) ((i + 1) * 6) mv) ∧ Cs u g 34 cur ∧ Below w.heap.size w u, ⟨hS.1.row _, hS.2.1.turn (turn_row u g2 _) (by have := HGS.out; have := HGG.out; omega), hS.2.2.trans ((turn_row u g2 _).below hS.2.2.size fun k e => by have := HGG.out; omega)⟩, kept_and (kept_cs _ _ _) (kept_and (kept_cs _ _ _) (kept_below _)), fun h => absurd (by decide : (8 : Nat) ∈ [8]) h, ?_⟩)
  try simp only [List.getElem_toArray, List.getElem_cons_succ, List.getElem_cons_zero, Act.put, List.setIfInBounds_toArray, List.set_cons_succ, List.set_cons_zero]
  refine wpAnyX_done (by kernel_rfl) (fun z hz => ?_) _
  have CZ := Lib.hid hz.1
  have BZ := Lib.hid hz.2.2
  clear hz
  go_wp2_with fail
  go_ret
  refine ⟨_, rfl, ins_grow (E := (nodeO base)) (G := fun k => F k ∧ k ≠ g) (xs := cur.toList.take (ls.length * 6)) (cur := cur2) (cs := cs) (mv := mv) HN.out hi (by omega) HC.out (by have := HBS.out; have := HGG.out; omega) (HF.out _ (by have := HGG.out; omega)) HS2.out ?_ HR.out HY.out (by rw [HN.out]; exact HMV.out) (fun k hk h => ⟨h.1, by have := HGG.out; omega⟩) CZ.out BZ.out, Turn.of_below BZ.out _⟩
  show cur2.toList.take (i * 6) = (cur.toList.take (ls.length * 6)).take (i * 6)
  rw [HTK.out, List.take_take, HN.out, Nat.min_eq_left (by omega)]
set_option maxHeartbeats 8000000 in
theorem InsertR_en (base : Nat) (F : Nat → Prop) (g n c i : Nat) (ls : List Ent) (vb : Nat) (cs : List Value) (y : Ent) (w : World) (h : OwnX entE w base F (.slice (some ⟨g, 0, none⟩) n c) ls) (hn : ls.length = n) (hi : i < n) (hroom : n + 1 ≤ c) (hF : F g) (hne : vb ≠ g) (hvb : Cs w vb 84 cs.toArray) (hy : (entE).rd w (fun k => F k ∧ k ≠ g) cs y) (hml : n ≤ 1000000) :
    Calls Tryd.prog 49 #[.slice (some ⟨g, 0, none⟩) n c, .int .i64 (i : Int), .slice (some ⟨vb, 0, none⟩) 1 1] w fun e w' => InsRet entE base F (.slice (some ⟨g, 0, none⟩) n c) (ls.take i ++ y :: ls.drop i) w e w' := by
  obtain ⟨cur, h1, h2, -, h3, h4, h5, h6⟩ := h.cur
  have hmix : Tryd.prog.follows .mixedOrders = true := by kernel_rfl
  have HG := Lib.hid h1
  have HV := Lib.hid hvb
  have HB := Lib.hid h2
  have HN := Lib.hid hn
  have HS := Lib.hid (show cur.size = c * 2 from h5)
  have HR := Lib.hid h6
  have HY := Lib.hid hy
  have HFG := Lib.hid hF
  have HC := Lib.hid h4
  have HNE := Lib.hid hne
  have hcl : cs.length = 2 := (entE).len hy
  have HC1 := Lib.hid ((entE).one hy)
  obtain ⟨mv, hmv⟩ : ∃ mv, mv = (cur.toList.take (n * 2)).drop (i * 2) := ⟨_, rfl⟩
  have hcs : cur.size = c * 2 := h5
  have hml2 : mv.length = (n - i) * 2 := by rw [hmv, List.length_drop, List.length_take, Array.length_toList, hcs]; omega
  have HM1 := Lib.hid (show ∀ v ∈ mv, v.oneCell' = true from fun v hv => by
    rw [hmv, ← hn] at hv
    exact h6.one v (List.mem_of_mem_drop hv))
  have HMV := Lib.hid hmv
  have HOV := Lib.hid (show ∀ u, Cs u g 84 cur → Cs u vb 84 cs.toArray → ∀ lb cb, (callFunc 72 #[.slice (some ⟨vb, 0, none⟩) 1 1, .slice (some ⟨g, (i + 1) * 2, none⟩) lb cb]).run Tryd.prog u = .ok (.value (.bool false)) u from fun u hu hv lb cb => by
    rw [run_callFunc_extern Tryd.func72 (by kernel_rfl) (by kernel_rfl) (by kernel_rfl) (e := Extern.SlicesOverlaps.overlaps #[32, 32] #[4]) (by kernel_rfl),
      Lib.run_overlaps_apart u 32 4 84 Tryd.underlying32 2 (sizeOf_el infoEnt) ⟨vb, 0, none⟩ ⟨g, (i + 1) * 2, none⟩ 1 1 lb cb HNE.out _ _ _ _ (shape_of hv) (shape_of hu) (by rw [HS.out]; omega) (hv.frozen 0) (hv.frozen _)]
    rfl)
  have HCP := Lib.hid (show ∀ u, Cs u g 84 cur → ∀ ty d1 d2 s1 s2, d1 = n - i → s1 = n + 1 - i → (Builtin.copy_ #[32, 32] ty #[.slice (some ⟨g, (i + 1) * 2, none⟩) d1 d2, .slice (some ⟨g, i * 2, none⟩) s1 s2]).run Tryd.prog u = .ok (goInt (Nat.min s1 d1)) (u.setRow g (over cur ((i + 1) * 2) mv)) from fun u hu ty d1 d2 s1 s2 e1 e2 => by
    refine run_copyX (E := entE) u ty g ((i + 1) * 2) d1 d2 ⟨g, i * 2, none⟩ s1 s2 cur _ mv hu ?_ (fun j v hv => ?_) (by rw [hml2, hcs]; omega) HM1.out
    · rw [hml2, e1, e2, show Nat.min (n + 1 - i) (n - i) = n - i from Nat.min_eq_right (by omega)]
      rfl
    · have hj : j < mv.length := (List.getElem?_eq_some_iff.1 hv).1
      rw [addr_add]
      rw [hmv, List.getElem?_drop, List.getElem?_take_of_lt (by omega)] at hv
      exact hu.cell _ (by simpa using hv))
  have HCQ := Lib.hid (show ∀ u, Cs u g 84 (over cur ((i + 1) * 2) mv) → Cs u vb 84 cs.toArray → ∀ ty d1 d2, 1 ≤ d1 → (Builtin.copy_ #[32, 32] ty #[.slice (some ⟨g, i * 2, none⟩) d1 d2, .slice (some ⟨vb, 0, none⟩) 1 1]).run Tryd.prog u = .ok (goInt (Nat.min 1 d1)) (u.setRow g (over (over cur ((i + 1) * 2) mv) (i * 2) cs)) from fun u hu hv ty d1 d2 e1 => by
    refine run_copyX (E := entE) u ty g (i * 2) d1 d2 ⟨vb, 0, none⟩ 1 1 _ _ cs hu ?_ (fun j v hj => ?_) (by rw [over_size _ _ _ (by rw [hml2, hcs]; omega), hcl, hcs]; omega) HC1.out
    · rw [hcl, show Nat.min 1 d1 = 1 from Nat.min_eq_left e1]
      rfl
    · rw [addr_add, Nat.zero_add]
      exact hv.cell j (by simpa using hj))
  have i1 : (i : Int) < n := by omega
  have i2 : (n : Int) + 1 ≤ c := by omega
  have i3 : (n : Int) ≤ 1000000 := by omega
  have i4 := Lib.hid (show (c : Int) ≤ 9223372036854775807 by have := HC.out; simp only [maxLen] at this; omega)
  have j1 : ¬ c = i := by omega
  have j2 : ¬ c = i + 1 := by omega
  have j3 : ((i : Int) == (n : Int)) = false := by simp; omega
  have j4 : ¬ (c : Int) < (n : Int) + 1 := by omega
  have j5 : ¬ ((i : Int) + 1 < 0) := by omega
  have j6 : ¬ ((n : Int) + 1 < (i : Int) + 1) := by omega
  have j7 : ¬ ((n : Int) + 1 < 0) := by omega
  have j8 : ¬ ((n : Int) + 1 < i) := by omega
  have j9 : ¬ c < n + 1 := by omega
  have jw : IntKind.i64.wrap ((i : Int) + 1) = (i : Int) + 1 := by rw [IntKind.wrap_i64]; omega
  clear h h1 h2 h4 h5 h6 hn hvb hy hF hne hcl hmv hcs hml2
  go_enter Tryd.func49, Tryd.ntmps49
  have hov := HOV.out w HG.out HV.out
  go_wp2_with (first
    | (simp only [hov])
    | fail)
  clear hov
  refine wp_region_X [8] (fun u => Cs u g 84 cur ∧ Cs u vb 84 cs.toArray ∧ Turn w u (· = g)) (fun u => Cs u g 84 cur ∧ Cs u vb 84 cs.toArray ∧ Turn w u (· = g)) hmix (⟨HG.out.drew, HV.out.drew, Turn.drew _ _⟩) ?_
  change wpAnyX _ _ _ _ _ _ _ _ _ _
  refine wpAnyX_take (i := 0) (v := .slice (some ⟨g, 0, none⟩) (n + 1) c) 8 (kept_and (kept_cs _ _ _) (kept_and (kept_cs _ _ _) (kept_turn _ _))) (fun _ h => h) rfl (by kernel_rfl) (by kernel_rfl) (fun _ _ _ h => h) (DoesV.reads (by rfl) fun w9 hS => by go_simp) ?_
  try simp only [List.getElem_toArray, List.getElem_cons_succ, List.getElem_cons_zero, Act.put, List.setIfInBounds_toArray, List.set_cons_succ, List.set_cons_zero]
  refine wpAnyX_take (i := 1) (v := .int .i64 (i : Int)) 8 (kept_and (kept_cs _ _ _) (kept_and (kept_cs _ _ _) (kept_turn _ _))) (fun _ h => h) rfl (by kernel_rfl) (by kernel_rfl) (fun _ _ _ h => h) (DoesV.reads (by rfl) fun w9 hS => by go_simp) ?_
  try simp only [List.getElem_toArray, List.getElem_cons_succ, List.getElem_cons_zero, Act.put, List.setIfInBounds_toArray, List.set_cons_succ, List.set_cons_zero]
  refine wpAnyX_take (i := 2) (v := .int .i64 1) 8 (kept_and (kept_cs _ _ _) (kept_and (kept_cs _ _ _) (kept_turn _ _))) (fun _ h => h) rfl (by kernel_rfl) (by kernel_rfl) (fun _ _ _ h => h) (DoesV.reads (by rfl) fun w9 hS => by go_simp) ?_
  try simp only [List.getElem_toArray, List.getElem_cons_succ, List.getElem_cons_zero, Act.put, List.setIfInBounds_toArray, List.set_cons_succ, List.set_cons_zero]
  refine wpAnyX_take (i := 3) (v := .int .i64 ((i : Int) + 1)) 8 (kept_and (kept_cs _ _ _) (kept_and (kept_cs _ _ _) (kept_turn _ _))) (fun _ h => h) rfl (by kernel_rfl) (by kernel_rfl) (fun _ _ _ h => h) (DoesV.reads (by rfl) fun w9 hS => by go_simp) ?_
  try simp only [List.getElem_toArray, List.getElem_cons_succ, List.getElem_cons_zero, Act.put, List.setIfInBounds_toArray, List.set_cons_succ, List.set_cons_zero]
  refine wpAnyX_take (i := 4) (v := .slice (some ⟨g, (i + 1) * 2, none⟩) (n + 1 - (i + 1)) (c - (i + 1))) 8 (kept_and (kept_cs _ _ _) (kept_and (kept_cs _ _ _) (kept_turn _ _))) (fun _ h => h) rfl (by kernel_rfl) (by kernel_rfl) (fun _ _ _ h => h) (DoesV.reads (by rfl) fun w9 hS => by go_simp) ?_
  try simp only [List.getElem_toArray, List.getElem_cons_succ, List.getElem_cons_zero, Act.put, List.setIfInBounds_toArray, List.set_cons_succ, List.set_cons_zero]
  refine wpAnyX_take (i := 5) (v := .slice (some ⟨g, 0, none⟩) (n + 1) c) 8 (kept_and (kept_cs _ _ _) (kept_and (kept_cs _ _ _) (kept_turn _ _))) (fun _ h => h) rfl (by kernel_rfl) (by kernel_rfl) (fun _ _ _ h => h) (DoesV.reads (by rfl) fun w9 hS => by go_simp) ?_
  try simp only [List.getElem_toArray, List.getElem_cons_succ, List.getElem_cons_zero, Act.put, List.setIfInBounds_toArray, List.set_cons_succ, List.set_cons_zero]
  refine wpAnyX_take (i := 6) (v := .int .i64 (i : Int)) 8 (kept_and (kept_cs _ _ _) (kept_and (kept_cs _ _ _) (kept_turn _ _))) (fun _ h => h) rfl (by kernel_rfl) (by kernel_rfl) (fun _ _ _ h => h) (DoesV.reads (by rfl) fun w9 hS => by go_simp) ?_
  try simp only [List.getElem_toArray, List.getElem_cons_succ, List.getElem_cons_zero, Act.put, List.setIfInBounds_toArray, List.set_cons_succ, List.set_cons_zero]
  refine wpAnyX_take (i := 7) (v := .slice (some ⟨g, i * 2, none⟩) (n + 1 - i) (c - i)) 8 (kept_and (kept_cs _ _ _) (kept_and (kept_cs _ _ _) (kept_turn _ _))) (fun _ h => h) rfl (by kernel_rfl) (by kernel_rfl) (fun _ _ _ h => h) (DoesV.reads (by rfl) fun w9 hS => by go_simp) ?_
  try simp only [List.getElem_toArray, List.getElem_cons_succ, List.getElem_cons_zero, Act.put, List.setIfInBounds_toArray, List.set_cons_succ, List.set_cons_zero]
  refine wpAnyX_only (i := 8) rfl (by kernel_rfl) rfl (fun u hS => wp_copy_run _ _ _ _ rfl _ _ rfl rfl (HCP.out u hS.1 _ _ _ _ _ (by omega) rfl) ⟨fun u => Cs u g 84 (over cur ((i + 1) * 2) mv) ∧ Cs u vb 84 cs.toArray ∧ Turn w u (· = g), ⟨hS.1.row _, hS.2.1.turn (turn_row u g _) HNE.out, hS.2.2.trans (turn_row u g _) fun _ _ h => h⟩, kept_and (kept_cs _ _ _) (kept_and (kept_cs _ _ _) (kept_turn _ _)), fun h => absurd (by decide : (8 : Nat) ∈ [8]) h, ?_⟩)
  try simp only [List.getElem_toArray, List.getElem_cons_succ, List.getElem_cons_zero, Act.put, List.setIfInBounds_toArray, List.set_cons_succ, List.set_cons_zero]
  refine wpAnyX_done (by kernel_rfl) (fun z hz => ?_) _
  have CZ := Lib.hid hz.1
  have CV := Lib.hid hz.2.1
  have TZ := Lib.hid hz.2.2
  clear hz
  go_wp2_with (first
    | (refine wpList_copy_run rfl _ _ 32 32 rfl _ _ rfl rfl (HCQ.out z CZ.out CV.out _ _ _ (by omega)) ?_; go_frame)
    | fail)
  go_ret
  exact ⟨_, rfl, ins_room (E := entE) HN.out hi hroom HC.out HB.out HFG.out HS.out HR.out HY.out HMV.out (CZ.out.row _) (TZ.out.trans (turn_row z g _) fun _ _ h => h), (TZ.out.trans (turn_row z g _) fun _ _ h => h).mono fun k _ e => by rw [e]; rfl⟩
set_option maxHeartbeats 8000000 in
theorem InsertG_en (base : Nat) (F : Nat → Prop) (g n i : Nat) (ls : List Ent) (vb : Nat) (cs : List Value) (y : Ent) (w : World) (h : OwnX entE w base F (.slice (some ⟨g, 0, none⟩) n n) ls) (hn : ls.length = n) (hi : i < n) (hF : ∀ k, w.heap.size ≤ k → F k) (hbase : base ≤ w.heap.size) (hvb : Cs w vb 84 cs.toArray) (hy : (entE).rd w (fun k => F k ∧ k ≠ g) cs y) (hml : n ≤ 1000000) :
    Calls Tryd.prog 49 #[.slice (some ⟨g, 0, none⟩) n n, .int .i64 (i : Int), .slice (some ⟨vb, 0, none⟩) 1 1] w fun e w' => InsRet entE base F (.slice (some ⟨g, 0, none⟩) n n) (ls.take i ++ y :: ls.drop i) w e w' := by
  obtain ⟨cur, h1, h2, -, h3, h4, h5, h6⟩ := h.cur
  have hmix : Tryd.prog.follows .mixedOrders = true := by kernel_rfl
  have hcs : cur.size = n * 2 := h5
  obtain ⟨C, cur2, w1, hrun, hC1, hC2, hsz2, htk2, hg2, hb2⟩ := run_growX (E := entE) (k := n + 1 - i) h1 hcs (Nat.le_of_lt hi) (by omega) (by omega) (by omega)
  rw [show i + (n + 1 - i) = n + 1 by omega] at hrun hC1
  rw [show ((n + 1 - i : Nat) : Int) = (n : Int) + 1 - (i : Int) by omega] at hrun
  have hgs : g < w.heap.size := h1.lt
  obtain ⟨g2, hgg⟩ : ∃ g2, g2 = w.heap.size := ⟨_, rfl⟩
  rw [← hgg] at hrun hg2
  have HRUN := Lib.hid hrun
  have HG := Lib.hid h1
  have HV := Lib.hid hvb
  have HB := Lib.hid h2
  have HN := Lib.hid hn
  have HS := Lib.hid hcs
  have HR := Lib.hid h6
  have HY := Lib.hid hy
  have HF := Lib.hid hF
  have HC := Lib.hid hC2
  have HG2 := Lib.hid hg2
  have HS2 := Lib.hid (show cur2.size = C * 2 from hsz2)
  have HTK := Lib.hid (show cur2.toList.take (i * 2) = cur.toList.take (i * 2) from htk2)
  have HBL := Lib.hid hb2
  have HGG := Lib.hid hgg
  have HGS := Lib.hid hgs
  have HBS := Lib.hid hbase
  have hcl : cs.length = 2 := (entE).len hy
  have HC1 := Lib.hid ((entE).one hy)
  obtain ⟨mv, hmv⟩ : ∃ mv, mv = (cur.toList.take (n * 2)).drop (i * 2) := ⟨_, rfl⟩
  have hml2 : mv.length = (n - i) * 2 := by rw [hmv, List.length_drop, List.length_take, Array.length_toList, hcs]; omega
  have HM1 := Lib.hid (show ∀ v ∈ mv, v.oneCell' = true from fun v hv => by
    rw [hmv, ← hn] at hv
    exact h6.one v (List.mem_of_mem_drop hv))
  have HMV := Lib.hid hmv
  have hs2 : cur2.size = C * 2 := hsz2
  have hfit : i * 2 + cs.length ≤ cur2.size := by rw [hcl, hs2]; omega
  have HCQ := Lib.hid (show ∀ u, Cs u g2 84 cur2 → Cs u vb 84 cs.toArray → ∀ ty d1 d2, 1 ≤ d1 → (Builtin.copy_ #[32, 32] ty #[.slice (some ⟨g2, i * 2, none⟩) d1 d2, .slice (some ⟨vb, 0, none⟩) 1 1]).run Tryd.prog u = .ok (goInt (Nat.min 1 d1)) (u.setRow g2 (over cur2 (i * 2) cs)) from fun u hu hv ty d1 d2 e1 => by
    refine run_copyX (E := entE) u ty g2 (i * 2) d1 d2 ⟨vb, 0, none⟩ 1 1 _ _ cs hu ?_ (fun j v hj => ?_) hfit HC1.out
    · rw [hcl, show Nat.min 1 d1 = 1 from Nat.min_eq_left e1]
      rfl
    · rw [addr_add, Nat.zero_add]
      exact hv.cell j (by simpa using hj))
  have HCP := Lib.hid (show ∀ u, Cs u g2 84 (over cur2 (i * 2) cs) → Cs u g 84 cur → ∀ ty d1 d2 s1 s2, d1 = n - i → s1 = n - i → (Builtin.copy_ #[32, 32] ty #[.slice (some ⟨g2, (i + 1) * 2, none⟩) d1 d2, .slice (some ⟨g, i * 2, none⟩) s1 s2]).run Tryd.prog u = .ok (goInt (Nat.min s1 d1)) (u.setRow g2 (over (over cur2 (i * 2) cs) ((i + 1) * 2) mv)) from fun u hu hu2 ty d1 d2 s1 s2 e1 e2 => by
    refine run_copyX (E := entE) u ty g2 ((i + 1) * 2) d1 d2 ⟨g, i * 2, none⟩ s1 s2 _ _ mv hu ?_ (fun j v hv => ?_) (by rw [over_size _ _ _ hfit, hml2, hs2]; omega) HM1.out
    · rw [hml2, e1, e2, show Nat.min (n - i) (n - i) = n - i from Nat.min_self _]
      rfl
    · have hj : j < mv.length := (List.getElem?_eq_some_iff.1 hv).1
      rw [addr_add]
      rw [hmv, List.getElem?_drop, List.getElem?_take_of_lt (by omega)] at hv
      exact hu2.cell _ (by simpa using hv))
  have i1 : (i : Int) < n := by omega
  have i2 : (n : Int) + 1 ≤ C := by omega
  have i3 : (n : Int) ≤ 1000000 := by omega
  have i4 := Lib.hid (show (C : Int) ≤ 9223372036854775807 by have := HC.out; simp only [maxLen] at this; omega)
  have j1 : ¬ C = i := by omega
  have j2 : ¬ C = i + 1 := by omega
  have j3 : ((i : Int) == (n : Int)) = false := by simp; omega
  have j4 : (n : Int) < (n : Int) + 1 := by omega
  have j5 : ¬ ((i : Int) + 1 < 0) := by omega
  have j6 : ¬ ((n : Int) + 1 < (i : Int) + 1) := by omega
  have j7 : ¬ n = i := by omega
  have j8 : ¬ n = 0 := by omega
  have j9 : ¬ C = 0 := by omega
  have j10 : ¬ n < i := by omega
  have jw : IntKind.i64.wrap ((i : Int) + 1) = (i : Int) + 1 := by rw [IntKind.wrap_i64]; omega
  clear h h1 h2 h4 h5 h6 hn hvb hy hF hcl hmv hcs hml2 hrun hC2 hsz2 htk2 hg2 hb2 hgg hs2 hfit hbase hgs h3
  go_enter Tryd.func49, Tryd.ntmps49
  go_wp2_with (first
    | ((with_reducible show wpList _ _ _ _ _ w); refine wpList_append_run rfl _ _ _ _ rfl _ _ rfl rfl HRUN.out ?_; go_frame)
    | ((with_reducible show wpList _ _ _ _ _ w1); refine wpList_copy_run rfl _ _ 32 32 rfl _ _ rfl rfl (HCQ.out w1 HG2.out (HV.out.below HBL.out HV.out.lt) _ _ _ (by omega)) ?_; go_frame)
    | fail)
  have C2 := Lib.hid (HG2.out.row (over cur2 (i * 2) cs))
  have T2 := Lib.hid (turn_row w1 g2 (over cur2 (i * 2) cs))
  generalize w1.setRow g2 (over cur2 (i * 2) cs) = w2 at *
  have CG := Lib.hid (show Cs w2 g 84 cur from (HG.out.below HBL.out HGS.out).turn T2.out (by have := HGS.out; have := HGG.out; omega))
  have BL2 := Lib.hid (show Below w.heap.size w w2 from HBL.out.trans (T2.out.below HBL.out.size fun k e => by have := HGG.out; omega))
  refine wp_region_X [8] (fun u => Cs u g2 84 (over cur2 (i * 2) cs) ∧ Cs u g 84 cur ∧ Below w.heap.size w u) (fun u => Cs u g2 84 (over cur2 (i * 2) cs) ∧ Cs u g 84 cur ∧ Below w.heap.size w u) hmix (⟨C2.out.drew, CG.out.drew, BL2.out.drew⟩) ?_
  change wpAnyX _ _ _ _ _ _ _ _ _ _
  refine wpAnyX_take (i := 0) (v := .slice (some ⟨g2, 0, none⟩) (n + 1) C) 8 (kept_and (kept_cs _ _ _) (kept_and (kept_cs _ _ _) (kept_below _))) (fun _ h => h) rfl (by kernel_rfl) (by kernel_rfl) (fun _ _ _ h => h) (DoesV.reads (by rfl) fun w9 hS => by go_simp) ?_
  try simp only [List.getElem_toArray, List.getElem_cons_succ, List.getElem_cons_zero, Act.put, List.setIfInBounds_toArray, List.set_cons_succ, List.set_cons_zero]
  refine wpAnyX_take (i := 1) (v := .int .i64 (i : Int)) 8 (kept_and (kept_cs _ _ _) (kept_and (kept_cs _ _ _) (kept_below _))) (fun _ h => h) rfl (by kernel_rfl) (by kernel_rfl) (fun _ _ _ h => h) (DoesV.reads (by rfl) fun w9 hS => by go_simp) ?_
  try simp only [List.getElem_toArray, List.getElem_cons_succ, List.getElem_cons_zero, Act.put, List.setIfInBounds_toArray, List.set_cons_succ, List.set_cons_zero]
  refine wpAnyX_take (i := 2) (v := .int .i64 1) 8 (kept_and (kept_cs _ _ _) (kept_and (kept_cs _ _ _) (kept_below _))) (fun _ h => h) rfl (by kernel_rfl) (by kernel_rfl) (fun _ _ _ h => h) (DoesV.reads (by rfl) fun w9 hS => by go_simp) ?_
  try simp only [List.getElem_toArray, List.getElem_cons_succ, List.getElem_cons_zero, Act.put, List.setIfInBounds_toArray, List.set_cons_succ, List.set_cons_zero]
  refine wpAnyX_take (i := 3) (v := .int .i64 ((i : Int) + 1)) 8 (kept_and (kept_cs _ _ _) (kept_and (kept_cs _ _ _) (kept_below _))) (fun _ h => h) rfl (by kernel_rfl) (by kernel_rfl) (fun _ _ _ h => h) (DoesV.reads (by rfl) fun w9 hS => by go_simp) ?_
  try simp only [List.getElem_toArray, List.getElem_cons_succ, List.getElem_cons_zero, Act.put, List.setIfInBounds_toArray, List.set_cons_succ, List.set_cons_zero]
  refine wpAnyX_take (i := 4) (v := .slice (some ⟨g2, (i + 1) * 2, none⟩) (n + 1 - (i + 1)) (C - (i + 1))) 8 (kept_and (kept_cs _ _ _) (kept_and (kept_cs _ _ _) (kept_below _))) (fun _ h => h) rfl (by kernel_rfl) (by kernel_rfl) (fun _ _ _ h => h) (DoesV.reads (by rfl) fun w9 hS => by go_simp) ?_
  try simp only [List.getElem_toArray, List.getElem_cons_succ, List.getElem_cons_zero, Act.put, List.setIfInBounds_toArray, List.set_cons_succ, List.set_cons_zero]
  refine wpAnyX_take (i := 5) (v := .slice (some ⟨g, 0, none⟩) n n) 8 (kept_and (kept_cs _ _ _) (kept_and (kept_cs _ _ _) (kept_below _))) (fun _ h => h) rfl (by kernel_rfl) (by kernel_rfl) (fun _ _ _ h => h) (DoesV.reads (by rfl) fun w9 hS => by go_simp) ?_
  try simp only [List.getElem_toArray, List.getElem_cons_succ, List.getElem_cons_zero, Act.put, List.setIfInBounds_toArray, List.set_cons_succ, List.set_cons_zero]
  refine wpAnyX_take (i := 6) (v := .int .i64 (i : Int)) 8 (kept_and (kept_cs _ _ _) (kept_and (kept_cs _ _ _) (kept_below _))) (fun _ h => h) rfl (by kernel_rfl) (by kernel_rfl) (fun _ _ _ h => h) (DoesV.reads (by rfl) fun w9 hS => by go_simp) ?_
  try simp only [List.getElem_toArray, List.getElem_cons_succ, List.getElem_cons_zero, Act.put, List.setIfInBounds_toArray, List.set_cons_succ, List.set_cons_zero]
  refine wpAnyX_take (i := 7) (v := .slice (some ⟨g, i * 2, none⟩) (n - i) (n - i)) 8 (kept_and (kept_cs _ _ _) (kept_and (kept_cs _ _ _) (kept_below _))) (fun _ h => h) rfl (by kernel_rfl) (by kernel_rfl) (fun _ _ _ h => h) (DoesV.reads (by rfl) fun w9 hS => by go_simp) ?_
  try simp only [List.getElem_toArray, List.getElem_cons_succ, List.getElem_cons_zero, Act.put, List.setIfInBounds_toArray, List.set_cons_succ, List.set_cons_zero]
  refine wpAnyX_only (i := 8) rfl (by kernel_rfl) rfl (fun u hS => wp_copy_run _ _ _ _ rfl _ _ rfl rfl (HCP.out u hS.1 hS.2.1 _ _ _ _ _ (by omega) rfl) ⟨fun u => Cs u g2 84 (over (over cur2 (i * 2) cs) ((i + 1) * 2) mv) ∧ Cs u g 84 cur ∧ Below w.heap.size w u, ⟨hS.1.row _, hS.2.1.turn (turn_row u g2 _) (by have := HGS.out; have := HGG.out; omega), hS.2.2.trans ((turn_row u g2 _).below hS.2.2.size fun k e => by have := HGG.out; omega)⟩, kept_and (kept_cs _ _ _) (kept_and (kept_cs _ _ _) (kept_below _)), fun h => absurd (by decide : (8 : Nat) ∈ [8]) h, ?_⟩)
  try simp only [List.getElem_toArray, List.getElem_cons_succ, List.getElem_cons_zero, Act.put, List.setIfInBounds_toArray, List.set_cons_succ, List.set_cons_zero]
  refine wpAnyX_done (by kernel_rfl) (fun z hz => ?_) _
  have CZ := Lib.hid hz.1
  have BZ := Lib.hid hz.2.2
  clear hz
  go_wp2_with fail
  go_ret
  refine ⟨_, rfl, ins_grow (E := entE) (G := fun k => F k ∧ k ≠ g) (xs := cur.toList.take (ls.length * 2)) (cur := cur2) (cs := cs) (mv := mv) HN.out hi (by omega) HC.out (by have := HBS.out; have := HGG.out; omega) (HF.out _ (by have := HGG.out; omega)) HS2.out ?_ HR.out HY.out (by rw [HN.out]; exact HMV.out) (fun k hk h => ⟨h.1, by have := HGG.out; omega⟩) CZ.out BZ.out, Turn.of_below BZ.out _⟩
  show cur2.toList.take (i * 2) = (cur.toList.take (ls.length * 2)).take (i * 2)
  rw [HTK.out, List.take_take, HN.out, Nat.min_eq_left (by omega)]
theorem Insert_nd (base : Nat) (F : Nat → Prop) (v : Value) (i : Nat) (ls : List (Nd × Sup)) (vb : Nat) (cs : List Value) (y : (Nd × Sup)) (w : World) (h : OwnX (nodeO base) w base F v ls) (hi : i ≤ ls.length) (hne : v.ownBlock ≠ some vb) (hvb : Cs w vb 34 cs.toArray) (hy : ((nodeO base)).rd w (fun k => F k ∧ v.ownBlock ≠ some k) cs y) (hF : ∀ k, w.heap.size ≤ k → F k) (hbase : base ≤ w.heap.size) (hml : ls.length ≤ 1000000) :
    Calls Tryd.prog 27 #[v, .int .i64 (i : Int), .slice (some ⟨vb, 0, none⟩) 1 1] w fun e w' => InsRet (nodeO base) base F v (ls.take i ++ y :: ls.drop i) w e w' := by
  by_cases hl : i = ls.length
  · subst hl
    have := InsertE_nd base F v ls vb cs y w h hvb hy hF hbase hml
    rwa [List.take_length, List.drop_length]
  · obtain ⟨g, c, rfl, h1, h2⟩ := h.shape (fun e => by rw [e] at hi hl; simp at hi hl; omega)
    have hy' : ((nodeO base)).rd w (fun k => F k ∧ k ≠ g) cs y := ((nodeO base)).mono hy fun k _ hk => ⟨hk.1, fun e => hk.2 (by rw [e]; rfl)⟩
    have hlt : i < ls.length := by omega
    obtain ⟨cur, k1, k2, -, k3, -⟩ := h.cur
    by_cases hc : ls.length + 1 ≤ c
    · exact InsertR_nd base F g ls.length c i ls vb cs y w h rfl hlt hc h2 (fun e => hne (by rw [e]; rfl)) hvb hy' hml
    · obtain rfl : c = ls.length := by omega
      exact InsertG_nd base F g ls.length i ls vb cs y w h rfl hlt hF hbase hvb hy' hml
theorem Insert_en (base : Nat) (F : Nat → Prop) (v : Value) (i : Nat) (ls : List Ent) (vb : Nat) (cs : List Value) (y : Ent) (w : World) (h : OwnX entE w base F v ls) (hi : i ≤ ls.length) (hne : v.ownBlock ≠ some vb) (hvb : Cs w vb 84 cs.toArray) (hy : (entE).rd w (fun k => F k ∧ v.ownBlock ≠ some k) cs y) (hF : ∀ k, w.heap.size ≤ k → F k) (hbase : base ≤ w.heap.size) (hml : ls.length ≤ 1000000) :
    Calls Tryd.prog 49 #[v, .int .i64 (i : Int), .slice (some ⟨vb, 0, none⟩) 1 1] w fun e w' => InsRet entE base F v (ls.take i ++ y :: ls.drop i) w e w' := by
  by_cases hl : i = ls.length
  · subst hl
    have := InsertE_en base F v ls vb cs y w h hvb hy hF hbase hml
    rwa [List.take_length, List.drop_length]
  · obtain ⟨g, c, rfl, h1, h2⟩ := h.shape (fun e => by rw [e] at hi hl; simp at hi hl; omega)
    have hy' : (entE).rd w (fun k => F k ∧ k ≠ g) cs y := (entE).mono hy fun k _ hk => ⟨hk.1, fun e => hk.2 (by rw [e]; rfl)⟩
    have hlt : i < ls.length := by omega
    obtain ⟨cur, k1, k2, -, k3, -⟩ := h.cur
    by_cases hc : ls.length + 1 ≤ c
    · exact InsertR_en base F g ls.length c i ls vb cs y w h rfl hlt hc h2 (fun e => hne (by rw [e]; rfl)) hvb hy' hml
    · obtain rfl : c = ls.length := by omega
      exact InsertG_en base F g ls.length i ls vb cs y w h rfl hlt hF hbase hvb hy' hml

end Go.Proofs.YtenpmbfncnepgaaDoor
