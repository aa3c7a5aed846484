/- BatchOwn: rows of their own memory, three bytes of 9 behind each value; are they as they were? -/
import Derived.Test.YtiemphfikfigdaaBatProg
import Derived.Test.YtiemphfikfigdaaBatRK
import Derived.Test.YtiemphfikfigdaaWordsK
import Derived.Test.YtiemphfikfigdaaTblK
import Derived.BigQuiet
namespace Go.Proofs.Ytiemphfikfigdaa
open Go.RowKit Go.Shelf
set_option linter.unusedVariables false
set_option maxRecDepth 100000
set_option linter.unusedSimpArgs false

/-- bytes, three of 9 behind them -/
def NineV (w : World) (F : Nat → Prop) (v : Value) (l : List UInt8) : Prop := ∃ g cap, v = .slice (some ⟨g, 0, none⟩) l.length cap ∧ F g ∧ g < w.heap.size ∧ l.length + 3 ≤ cap ∧ cap ≤ maxLen ∧ Rd w (some ⟨g, 0, none⟩) (l ++ [9, 9, 9])
theorem NineV.turn {w w' : World} {F G : Nat → Prop} {v : Value} {l : List UInt8} (h : NineV w F v l) (ht : Turn w w' G) (hG : ∀ k, F k → ¬ G k) : NineV w' F v l := by
  obtain ⟨g, cap, rfl, h1, h2, h3, h4, h5⟩ := h
  refine ⟨g, cap, rfl, h1, Nat.lt_of_lt_of_le h2 ht.size, h3, h4, ?_⟩
  rcases h5 with h | ⟨b, off, e, hc⟩
  · simp at h
  · cases e
    exact .inr ⟨g, 0, rfl, fun j hj => (World.cell?_of_block (w := w) (ht.block g h2 (hG g h1))).trans (hc j hj)⟩
theorem NineV.mono {w : World} {F G : Nat → Prop} {v : Value} {l : List UInt8} (h : NineV w F v l) (hF : ∀ k, k < w.heap.size → F k → G k) : NineV w G v l := by
  obtain ⟨g, cap, rfl, h1, h2, h3⟩ := h
  exact ⟨g, cap, rfl, hF g h2 h1, h2, h3⟩
theorem NineV.below {w w' : World} {F : Nat → Prop} {v : Value} {l : List UInt8} (h : NineV w F v l) (hb : Below w.heap.size w w') : NineV w' F v l := h.turn (Turn.of_below hb fun _ => False) fun _ _ h => h
theorem NineV.bs {w : World} {F : Nat → Prop} {v : Value} {l : List UInt8} (h : NineV w F v l) : BsV w F v l := by
  obtain ⟨g, cap, rfl, h1, h2, h3, h4, h5⟩ := h
  exact ⟨_, cap, rfl, (rd_prefix h5).f fun b off e _ => (by cases e; exact h1), (fun e => by cases e), by omega, h4⟩
theorem kept_nine (F : Nat → Prop) (v : Value) (l : List UInt8) : Kept (fun u => NineV u F v l) := fun u u' h hb => h.below hb
def rowW : Elem Rw where
  ety := 50
  sty := 36
  n := 2
  bytes := 40
  rd w F cs x := ∃ v, cs = [sv x.1, v] ∧ NineV w F v x.2
  und := Try.underlying36
  info := ⟨_, _, rfl, rfl, rfl, rfl, rfl⟩
  pos := by decide
  byt := by decide
  len := by rintro w F cs x ⟨v, rfl, _⟩; rfl
  one := by
    rintro w F cs x ⟨v, rfl, h⟩ u hu
    simp at hu
    rcases hu with rfl | rfl
    · rfl
    · exact h.bs.one
  turn := by rintro w w' F G cs x ⟨v, h, hv⟩ ht hG; exact ⟨v, h, hv.turn ht hG⟩
  mono := by rintro w F G cs x ⟨v, h, hv⟩ hF; exact ⟨v, h, hv.mono hF⟩
theorem rdx_ofW {w : World} {F : Nat → Prop} {A : Option Addr} {ls : List Rw} (h : RdX rowW w F A ls) : RdX rowE w F A ls := by
  rcases h with h | ⟨b, off, xs, e, hF, ⟨hl, hr⟩, hc⟩
  · exact .inl h
  · exact .inr ⟨b, off, xs, e, hF, ⟨hl, fun j hj => by obtain ⟨v, h1, h2⟩ := hr j hj; exact ⟨v, h1, h2.bs⟩⟩, hc⟩
theorem ls_ofW {w : World} {F : Nat → Prop} {v : Value} {ls : List Rw} (h : LsV rowW w F v ls) : LsV rowE w F v ls := by
  obtain ⟨A, c, h1, h2, h3⟩ := h
  exact ⟨A, c, h1, rdx_ofW h2, h3⟩
theorem roww_at {w : World} {F : Nat → Prop} {A : Option Addr} {ls : List Rw} (h : RdX rowW w F A ls) (j : Nat) (hj : j < ls.length) : ∃ b off g c, A = some ⟨b, off, none⟩ ∧ w.cell? ⟨b, off + j * 2, none⟩ = some (.string ⟨ls[j].1.toArray⟩) ∧ w.cell? ⟨b, off + j * 2 + 1, none⟩ = some (.slice (some ⟨g, 0, none⟩) ls[j].2.length c) ∧ ls[j].2.length + 3 ≤ c ∧ c ≤ maxLen ∧ Rd w (some ⟨g, 0, none⟩) (ls[j].2 ++ [9, 9, 9]) := by
  obtain ⟨b, off, cs, e, ⟨v, rfl, g, c, rfl, -, -, h1⟩, hat⟩ := h.get j hj
  exact ⟨b, off, g, c, e, hat 0 _ rfl, hat 1 _ rfl, h1⟩
def OwnRet7 (t : List Rw) (w : World) (e : Ending) (w' : World) : Prop := ∃ v, e = .returned v ∧ OwnX rowW w' w.heap.size (w.heap.size ≤ ·) v t ∧ Below w.heap.size w w'
set_option maxHeartbeats 8000000 in
theorem own7_any (t : List Rw) (A : Option Addr) (c : Nat) (F : Nat → Prop) (w : World) (hl : t.length ≤ 1000000) (hv : ∀ x ∈ t, x.2.length ≤ 140737488351232) (hr : RdX rowE w F A t) :
    Calls Try.prog 30 #[.slice A t.length c] w fun e w' => OwnRet7 t w e w' := by
  have hmix : Try.prog.follows .mixedOrders = true := by kernel_rfl
  have hl' : (t.length : Int) ≤ 9223372036854775807 := by omega
  have HR := Lib.hid hr
  have HV := Lib.hid hv
  clear hr hv
  go_enter Try.func30, Try.ntmps30
  go_wp2_with fail
  go_loopw [3, 4] (fun v j wr => ∃ k : Nat, j = .int .i64 k ∧ k ≤ t.length ∧ OwnX rowW wr w.heap.size (w.heap.size ≤ ·) v (t.take k) ∧ Below w.heap.size w wr) (fun _ j _ => t.length - (RowKit.intOf j).toNat)
  case atStart => exact ⟨0, rfl, Nat.zero_le _, OwnX.nil _ _ _, Below.refl _ _⟩
  case round =>
    obtain ⟨k, rfl, hk, ho, hb⟩ := hrel
    have HO := Lib.hid ho
    have HB := Lib.hid hb
    clear ho hb
    by_cases hlt : k < t.length
    · have hlt' : (k : Int) < (t.length : Int) := by omega
      obtain ⟨b, off, A1, c1, rfl, hc1, hd1, hr1, hn1, hx1, hx2⟩ := row_at HR.out k hlt
      have hval := HV.out _ (List.getElem_mem hlt)
      have HN := Lib.hid (show t.take (k + 1) = t.take k ++ [t[k]] from List.take_succ_eq_append_getElem hlt)
      have hwl : (t.take k).length = k := by rw [List.length_take]; omega
      generalize t[k] = x at *
      obtain ⟨x1, x2⟩ := x
      dsimp only at *
      have q1 : wr.cell? ⟨b, off + k * 2, none⟩ = some (.string ⟨x1.toArray⟩) := (HB.out.cell (lt_of_cell hc1)).trans hc1
      have HC1 := Lib.hid hc1
      have HD1 := Lib.hid hd1
      have hcp := fun u (hu : Below w.heap.size w u) => Wide_ty x2 A1 c1 u (by omega) (hr1.rd.below hu) hn1
      have HCP := Lib.hid hcp
      clear hr1 hn1 hcp hc1 hd1
      go_wp2_with fail
      refine wp_region_V [14] (fun y => Below w.heap.size w y ∧ OwnX rowW y w.heap.size (w.heap.size ≤ ·) u3 (t.take k)) hmix (⟨HB.out.drew, HO.out.below (Below.refl _ _).drew⟩) ?_
      change wpAnyV _ _ _ _ _ _ _ _ _
      refine wpAnyV_take (i := 0) (v := u3) 8 (kept_and (kept_below w) (kept_ownX _ _ _ _)) rfl (by kernel_rfl) (by kernel_rfl) (fun _ _ _ h => h) (fun _ h => h) (DoesV.reads (by rfl) fun w9 hS => by go_simp) ?_
      try simp only [List.getElem_toArray, List.getElem_cons_succ, List.getElem_cons_zero, Act.put, List.setIfInBounds_toArray, List.set_cons_succ, List.set_cons_zero]
      refine wpAnyV_take (i := 1) (v := .slice (some ⟨b, off, none⟩) t.length c) 8 (kept_and (kept_below w) (kept_ownX _ _ _ _)) rfl (by kernel_rfl) (by kernel_rfl) (fun _ _ _ h => h) (fun _ h => h) (DoesV.reads (by rfl) fun w9 hS => by go_simp) ?_
      try simp only [List.getElem_toArray, List.getElem_cons_succ, List.getElem_cons_zero, Act.put, List.setIfInBounds_toArray, List.set_cons_succ, List.set_cons_zero]
      refine wpAnyV_take (i := 2) (v := .int .i64 (k : Int)) 8 (kept_and (kept_below w) (kept_ownX _ _ _ _)) rfl (by kernel_rfl) (by kernel_rfl) (fun _ _ _ h => h) (fun _ h => h) (DoesV.reads (by rfl) fun w9 hS => by go_simp) ?_
      try simp only [List.getElem_toArray, List.getElem_cons_succ, List.getElem_cons_zero, Act.put, List.setIfInBounds_toArray, List.set_cons_succ, List.set_cons_zero]
      refine wpAnyV_take (i := 3) (v := .pointer (some ⟨b, off + k * 2, none⟩)) 8 (kept_and (kept_below w) (kept_ownX _ _ _ _)) rfl (by kernel_rfl) (by kernel_rfl) (fun _ _ _ h => h) (fun _ h => h) (DoesV.reads (by rfl) fun w9 hS => by go_simp) ?_
      try simp only [List.getElem_toArray, List.getElem_cons_succ, List.getElem_cons_zero, Act.put, List.setIfInBounds_toArray, List.set_cons_succ, List.set_cons_zero]
      refine wpAnyV_take (i := 4) (v := .pointer (some ⟨b, off + k * 2, none⟩)) 8 (kept_and (kept_below w) (kept_ownX _ _ _ _)) rfl (by kernel_rfl) (by kernel_rfl) (fun _ _ _ h => h) (fun _ h => h) (DoesV.reads (by rfl) fun w9 hS => by go_simp) ?_
      try simp only [List.getElem_toArray, List.getElem_cons_succ, List.getElem_cons_zero, Act.put, List.setIfInBounds_toArray, List.set_cons_succ, List.set_cons_zero]
      refine wpAnyV_take (i := 5) (v := .string ⟨x1.toArray⟩) 8 (kept_and (kept_below w) (kept_ownX _ _ _ _)) rfl (by kernel_rfl) (by kernel_rfl) (fun _ _ _ h => h) (fun _ h => h) (DoesV.reads (by rfl) fun w9 hS => by have q9 := (hS.1.cell (lt_of_cell HC1.out)).trans HC1.out; go_simp) ?_
      try simp only [List.getElem_toArray, List.getElem_cons_succ, List.getElem_cons_zero, Act.put, List.setIfInBounds_toArray, List.set_cons_succ, List.set_cons_zero]
      refine wpAnyV_take (i := 6) (v := .slice (some ⟨b, off, none⟩) t.length c) 8 (kept_and (kept_below w) (kept_ownX _ _ _ _)) rfl (by kernel_rfl) (by kernel_rfl) (fun _ _ _ h => h) (fun _ h => h) (DoesV.reads (by rfl) fun w9 hS => by go_simp) ?_
      try simp only [List.getElem_toArray, List.getElem_cons_succ, List.getElem_cons_zero, Act.put, List.setIfInBounds_toArray, List.set_cons_succ, List.set_cons_zero]
      refine wpAnyV_take (i := 7) (v := .int .i64 (k : Int)) 8 (kept_and (kept_below w) (kept_ownX _ _ _ _)) rfl (by kernel_rfl) (by kernel_rfl) (fun _ _ _ h => h) (fun _ h => h) (DoesV.reads (by rfl) fun w9 hS => by go_simp) ?_
      try simp only [List.getElem_toArray, List.getElem_cons_succ, List.getElem_cons_zero, Act.put, List.setIfInBounds_toArray, List.set_cons_succ, List.set_cons_zero]
      refine wpAnyV_take (i := 8) (v := .pointer (some ⟨b, off + k * 2, none⟩)) 8 (kept_and (kept_below w) (kept_ownX _ _ _ _)) rfl (by kernel_rfl) (by kernel_rfl) (fun _ _ _ h => h) (fun _ h => h) (DoesV.reads (by rfl) fun w9 hS => by go_simp) ?_
      try simp only [List.getElem_toArray, List.getElem_cons_succ, List.getElem_cons_zero, Act.put, List.setIfInBounds_toArray, List.set_cons_succ, List.set_cons_zero]
      refine wpAnyV_take (i := 9) (v := .pointer (some ⟨b, off + k * 2 + 1, none⟩)) 8 (kept_and (kept_below w) (kept_ownX _ _ _ _)) rfl (by kernel_rfl) (by kernel_rfl) (fun _ _ _ h => h) (fun _ h => h) (DoesV.reads (by rfl) fun w9 hS => by go_simp) ?_
      try simp only [List.getElem_toArray, List.getElem_cons_succ, List.getElem_cons_zero, Act.put, List.setIfInBounds_toArray, List.set_cons_succ, List.set_cons_zero]
      refine wpAnyV_take (i := 10) (v := .slice A1 x2.length c1) 8 (kept_and (kept_below w) (kept_ownX _ _ _ _)) rfl (by kernel_rfl) (by kernel_rfl) (fun _ _ _ h => h) (fun _ h => h) (DoesV.reads (by rfl) fun w9 hS => by have q9 := (hS.1.cell (lt_of_cell HD1.out)).trans HD1.out; go_simp) ?_
      try simp only [List.getElem_toArray, List.getElem_cons_succ, List.getElem_cons_zero, Act.put, List.setIfInBounds_toArray, List.set_cons_succ, List.set_cons_zero]
      refine wpAnyV_only (i := 11) rfl (by kernel_rfl) rfl (fun u hS => wp_of_call (by go_simp) (HCP.out u hS.1) fun e u' ⟨g1, cap1, he, hlc1, hcm1, hrd1, hty1, hwg1, hgw1, hb1⟩ => ⟨.slice (some ⟨g1, 0, none⟩) x2.length cap1, he, (fun y => (Below w.heap.size w y ∧ OwnX rowW y w.heap.size (w.heap.size ≤ ·) u3 (t.take k)) ∧ NineV y (u.heap.size ≤ ·) (.slice (some ⟨g1, 0, none⟩) x2.length cap1) x2), ⟨⟨below_chain hS.1 hb1, hS.2.below hb1⟩, ⟨g1, cap1, rfl, hwg1, hgw1, hlc1, hcm1, hrd1⟩⟩, (kept_and (kept_and (kept_below w) (kept_ownX _ _ _ _)) (kept_nine _ _ _)), fun _ y h => h.1, ?_⟩)
      try simp only [List.getElem_toArray, List.getElem_cons_succ, List.getElem_cons_zero, Act.put, List.setIfInBounds_toArray, List.set_cons_succ, List.set_cons_zero]
      have hown := fun q e => (hS.2.lt q e).2
      have hwu := hS.1.size
      refine wpAnyV_pure (i := 12) (v := .agg #[.string ⟨x1.toArray⟩, .slice (some ⟨g1, 0, none⟩) x2.length cap1]) (kept_and (kept_and (kept_below w) (kept_ownX _ _ _ _)) (kept_nine _ _ _)) rfl (by kernel_rfl) (by kernel_rfl) (fun _ _ _ h => h) (DoesV.reads (by rfl) fun w9 hS => by go_simp) ?_
      try simp only [List.getElem_toArray, List.getElem_cons_succ, List.getElem_cons_zero, Act.put, List.setIfInBounds_toArray, List.set_cons_succ, List.set_cons_zero]
      refine wpAnyV_only (i := 13) rfl (by kernel_rfl) rfl (fun y hy => wp_buildRow _ rfl (x1, x2) (some ⟨g1, 0, none⟩) cap1 rfl fun g8 y' hk hb hg => ⟨(fun y => ((Below w.heap.size w y ∧ OwnX rowW y w.heap.size (w.heap.size ≤ ·) u3 (t.take k)) ∧ NineV y (u.heap.size ≤ ·) (.slice (some ⟨g1, 0, none⟩) x2.length cap1) x2) ∧ Cs y g8 50 (rwCells (x1, x2) (some ⟨g1, 0, none⟩) cap1).toArray), ⟨⟨⟨below_chain hy.1.1 hb, hy.1.2.below hb⟩, hy.2.below hb⟩, hk⟩, kept_and (kept_and (kept_and (kept_below w) (kept_ownX _ _ _ _)) (kept_nine _ _ _)) (kept_cs _ _ _), fun _ y h => h.1, ?_⟩)
      try simp only [List.getElem_toArray, List.getElem_cons_succ, List.getElem_cons_zero, Act.put, List.setIfInBounds_toArray, List.set_cons_succ, List.set_cons_zero]
      refine wpAnyV_only (i := 14) rfl (by kernel_rfl) rfl (fun y hy => wp_append_x1 (E := rowW) _ _ rfl w.heap.size (w.heap.size ≤ ·) u3 (t.take k) rfl hy.1.1.2 g8 1 rfl (rwCells (x1, x2) (some ⟨g1, 0, none⟩) cap1) (x1, x2) ⟨_, rfl, hy.1.2.mono fun q _ hq => ⟨Nat.le_trans hwu hq, fun e => absurd hq (Nat.not_le.2 (hown q e))⟩⟩ 50 hy.2 (by omega) hy.1.1.1.size hy.1.1.1.size fun v3 y' ho3 hg3 => ⟨(fun y => Below w.heap.size w y ∧ OwnX rowW y w.heap.size (w.heap.size ≤ ·) v3 (t.take k ++ [(x1, x2)])), ⟨hy.1.1.1.grown hg3 hy.1.1.1.size (fun q e => (hy.1.1.2.lt q e).1), ho3⟩, kept_and (kept_below w) (kept_ownX _ _ _ _), fun h => absurd (by simp) h, ?_⟩)
      try simp only [List.getElem_toArray, List.getElem_cons_succ, List.getElem_cons_zero, Act.put, List.setIfInBounds_toArray, List.set_cons_succ, List.set_cons_zero]
      refine wpAnyV_pure (i := 15) (v := v3) (kept_and (kept_below w) (kept_ownX _ _ _ _)) rfl (by kernel_rfl) (by kernel_rfl) (fun _ _ _ h => h) (DoesV.reads (by rfl) fun w9 hS => by go_simp) ?_
      try simp only [List.getElem_toArray, List.getElem_cons_succ, List.getElem_cons_zero, Act.put, List.setIfInBounds_toArray, List.set_cons_succ, List.set_cons_zero]
      refine wpAnyV_done (by kernel_rfl) (fun y1 hu => ?_) _
      have HU := Lib.hid hu
      clear hu
      go_wp2_with fail
      go_roundw
      case rel => exact ⟨k + 1, by go_num, hlt, by rw [HN.out]; exact HU.out.2, HU.out.1⟩
      case measure => simp [intOf]; omega
    · go_wp2_with fail
      go_ret
      have ho := HO.out
      rw [List.take_of_length_le (by omega)] at ho
      exact ⟨_, rfl, ho, HB.out⟩

set_option maxHeartbeats 2000000 in
theorem left7_any (l : List Rw) (B A : Option Addr) (cb c : Nat) (F G : Nat → Prop) (w : World) (hl : l.length ≤ 1000000) (rb : RdX rowW w F B l) (ra : RdX rowE w G A l) :
    Calls Try.prog 32 #[.slice B l.length cb, .slice A l.length c] w fun e w' => e = .returned (.bool true) ∧ Below w.heap.size w w' := by
  have hl' : (l.length : Int) ≤ 9223372036854775807 := by omega
  have HP := Lib.hid rb
  have HQ := Lib.hid ra
  clear ra rb
  go_enter Try.func32, Try.ntmps32
  go_wp2
  go_loopw [5] (fun j wr => ∃ k : Nat, j = .int .i64 k ∧ k ≤ l.length ∧ Below w.heap.size w wr) (fun j _ => l.length - (RowKit.intOf j).toNat)
  case atStart => exact ⟨0, rfl, Nat.zero_le _, Below.refl _ _⟩
  case round =>
    obtain ⟨k, rfl, hI, hB⟩ := hrel
    by_cases hk : k < l.length
    · obtain ⟨b, off, g1, c1, rfl, hc1, hd1, hr1, hr2, hr3⟩ := roww_at (HP.out.below hB) k hk
      obtain ⟨b', off', A2, c2, rfl, hc2, hd2, hr4, -⟩ := row_at (HQ.out.below hB) k hk
      have hleft : ∀ n, Calls Try.prog 20 #[.slice (some ⟨g1, 0, none⟩) l[k].2.length c1, .slice A2 l[k].2.length c2] (wr.drewN n) fun e w' => e = .returned (.bool true) ∧ wr.drewN n = w' := fun n => Left_any l[k].2 A2 c2 g1 c1 _ hr1 hr2 hr3 hr4.rd
      generalize l[k] = x at *
      obtain ⟨x1, x2⟩ := x
      dsimp only at *
      clear hr1 hr2 hr3 hr4
      have hke : (x1 == x1) = true := by simp
      have hke' : (x1 != x1) = false := by simp
      go_wp2_with fail
      go_quiet (exact Calls.quiet_of_same ((hleft _).mono fun _ _ h => ⟨h.1, h.2.symm⟩))
      go_wp2_with fail
      go_roundw
      case rel => exact ⟨k + 1, by go_num, hk, below_drewN hB _⟩
      case measure => simp [RowKit.intOf]; omega
    · go_wp2_with fail
      go_ret
      exact ⟨rfl, hB⟩

end Go.Proofs.Ytiemphfikfigdaa
