/- SWEPT -/
import Derived.Laws.OwnMore
import Derived.Lib.LazyBuf
import Derived.Test.YtfgbpinfplllgaaGreatDoorZDiskK
import Derived.Test.YtfgbpinfplllgaaGreatDoorZJourPK
import Derived.Test.YtfgbpinfplllgaaGreatDoorZNumK
import Derived.Test.YtfgbpinfplllgaaGreatDoorZSealK
import Derived.Test.YtfgbpinfplllgaaGreatDoorZWordsK
set_option linter.unusedVariables false
set_option linter.unusedSimpArgs false
open List (getElem_toArray getElem_cons_succ getElem_cons_zero setIfInBounds_toArray set_cons_succ set_cons_zero)
open Go.Lib (hid)
namespace Go.Proofs.YtfgbpinfplllgaaGreatDoor
open Go.RowKit Go.Shelf
set_option maxRecDepth 100000
theorem Blocks_v {w : World} {d : Nat} {s : DS} {F : Nat → Prop} (h : DiskV w d s F) : Calls Tryz.prog 102 #[.pointer (some ⟨d, 0, none⟩)] w fun e w' => e = .returned (.int .i64 (s.blocks : Int)) ∧ w = w' := by
  obtain ⟨p, rfl, h2, h3⟩ := h
  exact Blocks_disk h2
theorem DiskV.lo {w : World} {d : Nat} {s : DS} {F : Nat → Prop} (h : DiskV w d s F) : 64 ≤ s.blocks ∧ s.blocks ≤ 16384 := by
  obtain ⟨p, rfl, h2, h3⟩ := h
  exact ⟨h2.lo, h2.hi⟩
theorem refusedJ_v {w : World} {d : Nat} {s : DS} {F : Nat → Prop} (h : DiskV w d s F) : Calls Tryz.prog 61 #[.pointer (some ⟨d, 0, none⟩)] w fun e w' => e = .returned (.int .i64 (if s.dark then 9 else 0)) ∧ w = w' := by
  have hb := Blocks_v h
  have hd := Dark_v h
  have h0 := h.lo.1
  clear h
  generalize s.blocks = n at *
  generalize s.dark = dk at *
  have h1 : ((n : Int) == 0) = false := by simp; omega
  clear h0
  cases dk
  all_goals
    go_enter Tryz.func61, Tryz.ntmps61
    go_wp2_with fail
    refine hb.mono ?_
    clear hb
    rintro e _ ⟨rfl, rfl⟩
    go_wp2_with fail
    refine hd.mono ?_
    clear hd
    rintro e _ ⟨rfl, rfl⟩
    go_wp2
    go_ret
    exact ⟨rfl, rfl⟩
theorem half_v {w : World} {d H : Nat} {s : DS} {F : Nat → Prop} (h : DiskV w d s F) (hH : s.blocks = 2 * H) : Calls Tryz.prog 64 #[.pointer (some ⟨d, 0, none⟩)] w fun e w' => e = .returned (.int .i64 (H : Int)) ∧ w = w' := by
  have hb := Blocks_v h
  have hd : Int.tdiv (s.blocks : Int) 2 = (H : Int) := by
    rw [hH, Int.tdiv_eq_ediv_of_nonneg (by omega)]
    omega
  have h0 : H ≤ 8192 := by have := h.lo.2; omega
  clear h
  generalize s.blocks = n at *
  clear hH
  go_enter Tryz.func64, Tryz.ntmps64
  go_wp2_with fail
  refine hb.mono ?_
  clear hb
  rintro e _ ⟨rfl, rfl⟩
  go_wp2
  go_ret
  exact ⟨by rw [← hd]; rfl, rfl⟩
theorem count_any (A : Option Addr) (n c : Nat) (w : World) (hn : n ≤ maxLen) : Calls Tryz.prog 105 #[.slice A n c] w fun e w' => e = .returned (.int .i64 (max ((n + 41) / 42) 1 : Nat)) ∧ w = w' := by
  have e0 : max (0 : Int) ((n : Int) - 1) = ((n - 1 : Nat) : Int) := by omega
  have e1 : Int.tdiv ((n - 1 : Nat) : Int) 42 = (((n - 1) / 42 : Nat) : Int) := by
    rw [Int.tdiv_eq_ediv_of_nonneg (by omega)]
    omega
  have e2 : (1 : Int) + (((n - 1) / 42 : Nat) : Int) = ((max ((n + 41) / 42) 1 : Nat) : Int) := by omega
  have hm : n ≤ 9223372036854775807 := by unfold maxLen at hn; exact hn
  have h2 : (n - 1) / 42 ≤ 9223372036854775806 := by omega
  clear hn
  generalize hq : (n - 1) / 42 = q at *
  generalize hm1 : n - 1 = m at *
  go_enter Tryz.func105, Tryz.ntmps105
  go_wp2
  go_ret
  refine ⟨?_, rfl⟩
  rw [← e2, ← e1, ← e0]
  rfl
theorem isNoneJ_some (jb d : Nat) (w : World) (h : w.cell? ⟨jb, 0, none⟩ = some (.pointer (some ⟨d, 0, none⟩))) : Calls Tryz.prog 76 #[.pointer (some ⟨jb, 0, none⟩)] w fun e w' => e = .returned (.bool false) ∧ w = w' := by
  go_enter Tryz.func76, Tryz.ntmps76
  go_wp2
  go_ret
  exact ⟨rfl, rfl⟩
def BsRet (l : List UInt8) (w : World) (e : Ending) (w' : World) : Prop := ∃ v, e = .returned v ∧ BsV w' (w.heap.size ≤ ·) v l ∧ Below w.heap.size w w'
theorem Clone_any (l : List UInt8) (A : Option Addr) (c : Nat) (w : World) (hl : l.length ≤ 140737488355328) (hr : Rd w A l) (hA : A = none → l = [] ∧ c = 0) :
    Calls Tryz.prog 112 #[.slice A l.length c] w fun e w' => BsRet l w e w' := by
  rcases A with _ | ⟨b, off, sp⟩
  · obtain ⟨rfl, rfl⟩ := hA rfl
    have hq := run_eql_slice_nil (P := Tryz.prog) w 60 5 none 0 0 Tryz.underlying60
    simp only [Option.isNone_none] at hq
    go_enter Tryz.func112, Tryz.ntmps112
    go_wp2
    go_ret
    exact ⟨_, rfl, BsV.nil _ _, Below.refl _ _⟩
  · have HR := hid hr
    have hq := run_eql_slice_nil (P := Tryz.prog) w 60 5 (some ⟨b, off, sp⟩) l.length c Tryz.underlying60
    simp only [Option.isNone_some] at hq
    clear hr hA
    go_enter Tryz.func112, Tryz.ntmps112
    go_wp2_with (first | (at_builtin; refine append_rd rfl (.tmp 5) (.tmp 6) rfl w.heap.size (.slice (some ⟨w.heap.size, 0, none⟩) 0 0) 0 [] rfl (World.ownsRow_lit w #[] 0 (Nat.le_refl _) (Nat.zero_le _) rfl) (some ⟨b, off, sp⟩) l l.length c rfl rfl (HR.out.below ((Below.refl _ _).alloc (Nat.le_refl _) _)) (fun h => by cases h) (by omega) (by simp) ?_; intro v' w' hown hg; go_frame; have HO := hid hown; have HG := hid hg; clear hown hg))
    go_ret
    have ho := HO.out
    rw [Nat.zero_add, List.nil_append] at ho
    exact ⟨_, rfl, BsV.own ho, ((Below.refl _ _).alloc (Nat.le_refl _) _).grown HG.out (by simp) (fun k e => by cases e; exact Nat.le_refl _)⟩
theorem slice_cut (b o len cap l h : Nat) (hl : l ≤ h) (hh : h ≤ cap) : ∃ A', (∀ W, (Instr.slice 60 (.slice (some ⟨b, o, none⟩) len cap) (some (.int .i64 (l : Int))) (some (.int .i64 (h : Int))) none).run Tryz.prog W = .ok (.slice A' (h - l) (cap - l)) W) ∧ (l < cap → A' = some ⟨b, o + l, none⟩) ∧ A' ≠ none := by
  have ht' : Tryz.prog.underlying 60 = some (.slice (Tryz.prog.elem 60)) := by simp [Program.elem, Tryz.underlying60]
  have he : Tryz.prog.elem 60 = 5 := by simp [Program.elem, Tryz.underlying60]
  have hrun : ∀ W, (Instr.slice 60 (.slice (some ⟨b, o, none⟩) len cap) (some (.int .i64 (l : Int))) (some (.int .i64 (h : Int))) none).run Tryz.prog W = .ok (sliced (some ⟨b, o, none⟩) l h cap 1) W := fun W => by
    rw [run_slice_lh W 60 _ _ _ ht' .i64 .i64 _ _ (by omega) (by omega) (by omega), he, Tryz.sizeOf5]
    rfl
  by_cases hne : cap = l
  · obtain rfl : h = l := by omega
    subst hne
    refine ⟨some ⟨b, o, none⟩, fun W => ?_, fun h => absurd h (Nat.lt_irrefl _), by simp⟩
    rw [hrun]
    simp [sliced]
  · refine ⟨some ⟨b, o + l, none⟩, fun W => ?_, fun _ => rfl, by simp⟩
    rw [hrun]
    by_cases h0 : l = 0
    · subst h0
      simp [sliced, Addr.add, hne]
    · simp [sliced, Addr.add, hne, h0]
theorem isPlace_yes (A : Option Addr) (n c i : Nat) (w : World) (hn : n ≤ maxLen) (hi : i ≤ n) : Calls Tryz.prog 190 #[.slice A n c, .int .i64 (i : Int)] w fun e w' => e = .returned (.bool true) ∧ w = w' := by
  have := isPlace_any A n c i w hn
  rwa [show placeB n i = true by simp [placeB]; omega] at this
def zeroE (l : List UInt8) (i n : Nat) : Int := if (l.drop i).take n = List.replicate n 0 then 0 else 5
theorem zero_yes {l : List UInt8} {i n : Nat} (hi : i + n ≤ l.length) (h : ∀ j, j < n → l[i + j]? = some 0) : zeroE l i n = 0 := by
  unfold zeroE
  rw [if_pos]
  refine List.ext_getElem? fun j => ?_
  rw [List.getElem?_take, List.getElem?_drop, List.getElem?_replicate]
  split
  · rename_i hj
    exact h j hj
  · rfl
theorem zero_no {l : List UInt8} {i n j : Nat} (hi : i + n ≤ l.length) (hj : j < n) (h : l[i + j]'(by omega) ≠ 0) : zeroE l i n = 5 := by
  unfold zeroE
  rw [if_neg]
  intro e
  have := congrArg (fun x => x[j]?) e
  simp only [List.getElem?_take, if_pos hj, List.getElem?_drop, List.getElem?_replicate, List.getElem?_eq_getElem (show i + j < l.length by omega), Option.some.injEq] at this
  exact h this
set_option maxHeartbeats 1000000 in
theorem ZeroJ_any (l : List UInt8) (b off c i n : Nat) (w : World) (hl : l.length ≤ maxLen) (hr : ∀ j (h : j < l.length), w.cell? ⟨b, off + j, none⟩ = some (.int .u8 (l[j].toNat : Int))) (hi : i + n ≤ l.length) (hc : l.length ≤ c) :
    Calls Tryz.prog 198 #[.slice (some ⟨b, off, none⟩) l.length c, .int .i64 (i : Int), .int .i64 (n : Int)] w fun e w' => e = .returned (.int .i64 (zeroE l i n)) ∧ w = w' := by
  have hplace := isPlace_yes (some ⟨b, off, none⟩) l.length c i w hl (by omega)
  obtain ⟨A', hsl, hA', -⟩ := slice_cut b off l.length c i (i + n) (by omega) (by omega)
  rw [show i + n - i = n by omega] at hsl
  have hcast : ((i + n : Nat) : Int) = (i : Int) + (n : Int) := by omega
  rw [hcast] at hsl
  have HA := hid hA'
  have HC := hid hc
  have hm : l.length ≤ 9223372036854775807 := by unfold maxLen at hl; exact hl
  have h1 : (i : Int) + (n : Int) ≤ l.length := by omega
  have h0 : decide ((n : Int) < 0) = false := by simp
  have h2 : decide ((l.length : Int) - (i : Int) < (n : Int)) = false := by simp; omega
  have h3 : (n : Int) ≤ (l.length : Int) - (i : Int) := by omega
  have HR := hid hr
  have HI := hid hi
  clear hl hr hi hc hA' hcast
  go_enter Tryz.func198, Tryz.ntmps198
  go_wp2_with fail
  refine hplace.mono ?_
  clear hplace
  rintro e _ ⟨rfl, rfl⟩
  go_wp2
  go_loopw [30] (fun j wr => ∃ k : Nat, k ≤ n ∧ j = .int .i64 k ∧ wr = w ∧ ∀ q, q < k → l[i + q]? = some 0) (fun j _ => n - (RowKit.intOf j).toNat)
  case atStart => exact ⟨0, Nat.zero_le _, rfl, rfl, fun q hq => by omega⟩
  case round =>
    obtain ⟨k, hkn, rfl, rfl, hz⟩ := hrel
    by_cases hk : k < n
    · have hk' : (k : Int) < (n : Int) := by omega
      obtain rfl := HA.out (by have := HI.out; have := HC.out; omega)
      have hcell := HR.out (i + k) (by have := HI.out; omega)
      rw [show off + (i + k) = off + i + k by omega] at hcell
      have hno := hid (fun h => zero_no HI.out hk h)
      have hget : l[i + k]? = some (l[i + k]'(by have := HI.out; omega)) := List.getElem?_eq_getElem _
      have HK := hid hk
      generalize l[i + k]'(by have := HI.out; omega) = x at *
      have HZ := hid hz
      have HG := hid hget
      clear hz hget hk
      by_cases hx : x = 0
      · subst hx
        have hcell : wr.cell? ⟨b, off + i + k, none⟩ = some (.int .u8 0) := hcell
        go_wp2
        go_roundw
        case rel => exact ⟨k + 1, by have := HK.out; omega, rfl, (by first | rfl | trivial), fun q hq => by
          by_cases e : q = k
          · subst e; exact HG.out
          · exact HZ.out q (by omega)⟩
        case measure => have := HK.out; simp [RowKit.intOf]; omega
      · have hf := hid (hno.out hx)
        have hne : ((x.toNat : Int) == 0) = false := by
          rw [beq_eq_false_iff_ne]
          intro e
          exact hx (UInt8.toNat_inj.1 (by simpa using e))
        have hne' : ((x.toNat : Int) != 0) = true := by rw [bne, hne]; rfl
        clear hno hx
        go_wp2
        go_ret
        exact ⟨by rw [hf.out]; first | done | rfl, rfl⟩
    · have hv := hid (zero_yes HI.out fun q hq => hz q (by omega))
      have hk' : (n : Int) ≤ (k : Int) := by omega
      clear hz
      go_wp2
      go_ret
      exact ⟨by rw [hv.out]; first | done | rfl, rfl⟩
end Go.Proofs.YtfgbpinfplllgaaGreatDoor
namespace Go.Proofs.YtfgbpinfplllgaaGreatDoor
open Go.RowKit Go.Shelf
set_option maxRecDepth 100000
theorem readV_len {w : World} {d : Nat} {s : DS} {F : Nat → Prop} (h : DiskV w d s F) (n : Int) : (readV s n).length = 64 := by
  obtain ⟨p, rfl, h2, h3⟩ := h
  unfold readV
  split
  · rename_i hc
    have hin : 0 ≤ n ∧ n < (s.blocks : Int) := by simpa [inB] using hc.2
    have h1 : n < 16384 := by have := h2.hi; omega
    unfold readN
    cases hy : s.young n with
    | none => exact (tell_len h2.laid n hin.1 h1).1
    | some l => exact (tell_len h2.young n hin.1 h1).2 l hy
  · exact zb_len
def LeafRet (x : Blk) (w : World) (e : Ending) (w' : World) : Prop := Below w.heap.size w w' ∧
  match leafOf x with
  | none => e = .returned (.tuple #[.agg #[.int .u32 0, .bool false, .slice none 0 0], .bool false])
  | some (m, l, b) => ∃ g, e = .returned (.tuple #[.agg #[.int .u32 m, .bool l, .slice (some ⟨g, 2, none⟩) b.length 42], .bool true]) ∧ Rd w' (some ⟨g, 2, none⟩) b ∧ b.length ≤ 42 ∧ w.heap.size ≤ g
theorem LeafRet.emp {x : Blk} {w w' : World} (h : leafOf x = none) (hb : Below w.heap.size w w') : LeafRet x w (.returned (.tuple #[.agg #[.int .u32 0, .bool false, .slice none 0 0], .bool false])) w' := by
  unfold LeafRet
  rw [h]
  exact ⟨hb, rfl⟩
theorem two_of {l : List UInt8} (h : 2 ≤ l.length) : ∃ y0 y1 r, l = y0 :: y1 :: r := by
  rcases l with _ | ⟨a, _ | ⟨b, r⟩⟩
  · simp at h
  · simp at h
  · exact ⟨a, b, r, rfl⟩
theorem Cs.set3 {w : World} {g : Nat} {t : TypeId} {a b c : Value} (h : Cs w g t #[a, b, c]) (x y z : Value) : Cs (((w.setCell ⟨g, 0, none⟩ x).setCell ⟨g, 1, none⟩ y).setCell ⟨g, 2, none⟩ z) g t #[x, y, z] := ((h.set 0 x).set 1 y).set 2 z
theorem below_set3 {w w' : World} {g : Nat} (h : Below w.heap.size w w') (hg : w.heap.size ≤ g) (x y z : Value) : Below w.heap.size w (((w'.setCell ⟨g, 0, none⟩ x).setCell ⟨g, 1, none⟩ y).setCell ⟨g, 2, none⟩ z) := ((h.setCell (p := ⟨g, 0, none⟩) hg x).setCell (p := ⟨g, 1, none⟩) hg y).setCell (p := ⟨g, 2, none⟩) hg z
theorem leaf_end {w : World} {g : Nat} {a b c v : Value} {tmps : Array Value} (hc : Cs w g 265 #[a, b, c]) (hp : tmps.getD 4 undef = .pointer (some ⟨g, 0, none⟩)) (hv : tmps.getD 5 undef = v) : (results Tryz.f178 tmps).run Tryz.prog w = .ok (.tuple #[.agg #[a, b, c], v]) w := by
  rw [results_agg_tmp (p := 4) (u := 5) (ty := 265) rfl tmps w g 0 [a, b, c] hp (At.whole hc) _ Tryz.underlying265 rfl (by kernel_rfl), hv]
theorem bodyLeaf_no {c0 c1 : UInt8} {r : List UInt8} (h : 1 < c0.toNat ∨ 42 < c1.toNat ∨ (c0.toNat ≠ 1 ∧ c1.toNat < 42) ∨ ∃ c ∈ r.drop c1.toNat, c ≠ 0) : bodyLeaf (c0 :: c1 :: r) = none := by
  rw [bodyLeaf_cons, if_neg]
  rintro ⟨h1, h2, h3, h4⟩
  rcases h with h | h | h | ⟨c, hc, h⟩
  · omega
  · omega
  · omega
  · exact h (h3 c hc)
theorem leaf_of_body {x : Blk} (h : getE x = 0) : leafOf x = (bodyLeaf (bodyOf x)).map fun p => (tag x 0, p.1, p.2) := by unfold leafOf; rw [if_pos h]
theorem zeroE_drop {c0 c1 : UInt8} {r : List UInt8} (hr : r.length = 42) (h1 : c1.toNat ≤ 42) : (zeroE (c0 :: c1 :: r) (2 + c1.toNat) (42 - c1.toNat) = 0 ∧ ∀ c ∈ r.drop c1.toNat, c = 0) ∨ (zeroE (c0 :: c1 :: r) (2 + c1.toNat) (42 - c1.toNat) = 5 ∧ ∃ c ∈ r.drop c1.toNat, c ≠ 0) := by
  have e : (c0 :: c1 :: r).drop (2 + c1.toNat) = r.drop c1.toNat := by
    rw [show 2 + c1.toNat = c1.toNat + 1 + 1 by omega, List.drop_succ_cons, List.drop_succ_cons]
  have el : (r.drop c1.toNat).length = 42 - c1.toNat := by rw [List.length_drop, hr]
  unfold zeroE
  rw [e, List.take_of_length_le (by rw [el]; exact Nat.le_refl _)]
  split
  · rename_i h
    exact .inl ⟨rfl, fun c hc => by rw [h] at hc; exact List.eq_of_mem_replicate hc⟩
  · rename_i h
    refine .inr ⟨rfl, Classical.byContradiction fun hn => h ?_⟩
    refine List.eq_replicate_iff.2 ⟨el, fun c hc => Classical.byContradiction fun hne => hn ⟨c, hc, hne⟩⟩
theorem rd_set3 {w : World} {g b f : Nat} {l : List UInt8} {nq : Nat} (h : Rd w (some ⟨b, f, none⟩) l) (hg : g ≠ b) (x y z : Value) : Rd ((((w.drewN nq).setCell ⟨g, 0, none⟩ x).setCell ⟨g, 1, none⟩ y).setCell ⟨g, 2, none⟩ z) (some ⟨b, f, none⟩) l := by
  have t1 := turn_set (w.drewN nq) g 0 x
  have t2 := turn_set ((w.drewN nq).setCell ⟨g, 0, none⟩ x) g 1 y
  have t3 := turn_set (((w.drewN nq).setCell ⟨g, 0, none⟩ x).setCell ⟨g, 1, none⟩ y) g 2 z
  have h0 : Rd (w.drewN nq) (some ⟨b, f, none⟩) l := h
  have hn : ∀ a, some (⟨b, f, none⟩ : Addr) = some a → ¬ a.block = g := fun a ha e => by cases ha; exact hg e.symm
  exact ((h0.turn t1 hn).turn t2 hn).turn t3 hn
theorem leaf_some {W : World} {g m1 B : Nat} {tg : Int} {b : List UInt8} {l l' : Bool} (hb : b.length = m1) (hl : l' = l) (hm : m1 ≤ 42) (hr : Rd W (some ⟨g, 2, none⟩) b) (hB : B ≤ g) :
    ∃ g', Ending.returned (.tuple #[.agg #[.int .u32 tg, .bool l, .slice (some ⟨g, 2, none⟩) m1 42], .bool true]) = .returned (.tuple #[.agg #[.int .u32 tg, .bool l', .slice (some ⟨g', 2, none⟩) b.length 42], .bool true]) ∧ Rd W (some ⟨g', 2, none⟩) b ∧ b.length ≤ 42 ∧ B ≤ g' := by
  subst hb
  subst hl
  exact ⟨g, rfl, hr, hm, hB⟩
set_option maxHeartbeats 2000000 in
theorem leafAt_x {w : World} {d : Nat} {s : DS} {F : Nat → Prop} (h : DiskV w d s F) (n : Int) (x : Blk) (hxe : readV s n = x) :
    Calls Tryz.prog 178 #[.pointer (some ⟨d, 0, none⟩), .int .i64 n] w fun e w' => LeafRet x w e w' := by
  have hx := readV_len h n
  rw [hxe] at hx
  have hread := fun W (hD : DiskV W d s F) => Read_v hD n
  rw [hxe] at hread
  clear hxe
  have HD := hid h
  clear h
  go_enter Tryz.func178, Tryz.ntmps178
  go_wp2_with fail
  have K4 := hid (Cs.new w 265 #[.int .u32 0, .bool false, .slice none 0 0])
  have B4 := hid ((Below.refl w.heap.size w).alloc (Nat.le_refl _) (.cells #[.int .u32 0, .bool false, .slice none 0 0] 265))
  generalize w.alloc (.cells #[.int .u32 0, .bool false, .slice none 0 0] 265) = w1 at *
  refine (hread _ (HD.out.below B4.out)).mono ?_
  clear hread
  rintro e w2 ⟨rfl, hb⟩
  have HX := hid hx
  have K4b := hid (K4.out.below hb K4.out.lt)
  have B5 := hid (below_chain B4.out hb)
  clear hx hb K4 B4 HD
  go_wp2_with (first
    | (refine wpList_alloc_blk rfl rfl ?_; intro g6 u3 hk hb hg; go_frame; have KA := hid hk; have BA := hid hb; have GA := hid hg; clear hk hb hg)
    | (refine wpList_fill_blk rfl (.tmp 6) _ rfl g6 rfl x rfl HX.out KA.out ?_; intro x3 hk hr; go_frame; have KF := hid hk; have BF := hid (keep_own BA.out hr GA.out); clear hk hr)
    | (refine wpList_load_blk rfl (.tmp 6) rfl g6 0 rfl x HX.out (At.whole KF.out) ?_; go_frame))
  have K4c := hid (K4b.out.below BF.out K4b.out.lt)
  have B6 := hid (below_chain B5.out BF.out)
  clear K4b B5 KA BA GA KF BF
  have HX3 := hid B6.out.size
  refine (SGet_any x HX.out _).mono ?_
  rintro e w4 ⟨hb, hget⟩
  have K4d := hid (K4c.out.below hb K4c.out.lt)
  have B7 := hid (below_chain B6.out hb)
  have F0 := hid (K4d.out.frozen 0)
  clear hb K4c B6
  have f0 := F0.out
  have f1 := K4d.out.frozen 1
  have f2 := K4d.out.frozen 2
  have c0 := K4d.out.cell 0 rfl
  have c1 := K4d.out.cell 1 rfl
  have c2 := K4d.out.cell 2 rfl
  have no : ∀ (nq : Nat) (a : Act), leafOf x = none → a.defers = [] → a.tmps.getD 4 undef = .pointer (some ⟨w.heap.size, 0, none⟩) → a.tmps.getD 5 undef = .bool false →
      bodyPost Tryz.prog Tryz.f178 (fun e w' => LeafRet x w e w') .ret a ((((w4.drewN nq).setCell ⟨w.heap.size, 0, none⟩ (.int .u32 0)).setCell ⟨w.heap.size, 1, none⟩ (.bool false)).setCell ⟨w.heap.size, 2, none⟩ (.slice none 0 0)) := fun nq a hn hd hp hv =>
    bodyPost_ret (leaf_end ((cs_drewN K4d.out nq).set3 _ _ _) hp hv) hd (LeafRet.emp hn (below_set3 (below_drewN B7.out nq) (Nat.le_refl _) _ _ _))
  have NO := hid no
  clear no
  rcases hget with ⟨hge, rfl⟩ | ⟨hge, g, rfl, hoc⟩
  · have HN := hid (leaf_bad hge)
    have hne : (getE x == 0) = false := by simpa using hge
    have hne' : (getE x != 0) = true := by rw [bne, hne]; rfl
    generalize getE x = ge at *
    clear hge
    go_wp2
    exact NO.out 0 _ HN.out rfl rfl rfl
  · have hlen := bodyOf_len x HX.out
    have hlf := leaf_of_body hge
    obtain ⟨y0, y1, r, hbody⟩ := two_of (show 2 ≤ (bodyOf x).length by rw [hlen]; decide)
    rw [hbody] at hoc hlen hlf
    have hr : r.length = 42 := by simpa using hlen
    have hz := fun h => zeroE_drop (c0 := y0) (c1 := y1) hr h
    have hbn := @bodyLeaf_no y0 y1 r
    have hby := bodyLeaf_cons y0 y1 r
    obtain ⟨hbase, cur, hcs, htk⟩ := hoc
    have hcell : ∀ j (h : j < (y0 :: y1 :: r).length), w4.cell? ⟨g, 0 + j, none⟩ = some (.int .u8 ((y0 :: y1 :: r)[j].toNat : Int)) := fun j hj => by
      refine hcs.cell (0 + j) ?_
      have e1 := congrArg (fun l : List Value => l[j]?) htk
      simp only [List.getElem?_take, if_pos hj, cellsOf, List.getElem?_map, List.getElem?_eq_getElem hj, Option.map_some] at e1
      rw [Nat.zero_add, ← Array.getElem?_toList]
      exact e1
    have hzc := fun (nq k : Nat) (hk : k ≤ 42) => ZeroJ_any (y0 :: y1 :: r) g 0 44 (2 + k) (42 - k) (w4.drewN nq) (by rw [hlen]; decide) (fun j hj => hcell j hj) (by rw [hlen]; omega) (by rw [hlen]; exact Nat.le_refl _)
    rw [hlen] at hzc
    have b0 : w4.cell? ⟨g, 0, none⟩ = some (.int .u8 (y0.toNat : Int)) := hcell 0 (by rw [hlen]; decide)
    have b1 : w4.cell? ⟨g, 1, none⟩ = some (.int .u8 (y1.toNat : Int)) := hcell 1 (by rw [hlen]; decide)
    have HR := hid (show ∀ k, k ≤ 42 → Rd w4 (some ⟨g, 2, none⟩) (r.take k) from fun k hk => .inr ⟨g, 2, rfl, fun j hj => by
      have hj' : j < 42 := by rw [List.length_take] at hj; omega
      have := hcell (2 + j) (by rw [hlen]; omega)
      rw [Nat.zero_add] at this
      rw [this, List.getElem_take]
      congr 3
      simp [show 2 + j = j + 1 + 1 by omega]⟩)
    have HG := hid (K4d.out.ne hcs (by decide))
    have HBG := hid (Nat.le_trans HX3.out hbase)
    have HL := hid hlf
    have HBN := hid @hbn
    have HBY := hid hby
    have HZ := hid hz
    have HZC := hid hzc
    have HRL := hid hr
    clear hlf hbn hby hz hzc hr hlen hcell htk hcs hbase hbody hge
    have u0 := y0.toNat_lt
    have u1 := y1.toNat_lt
    generalize tag x 0 = tg at *
    generalize hm0 : y0.toNat = m0 at *
    generalize hm1 : y1.toNat = m1 at *
    by_cases h0 : 1 < m0
    · have h0' : (1 : Int) < (m0 : Int) := by omega
      have HN := hid (show leafOf x = none by rw [HL.out, HBN.out (.inl h0)]; rfl)
      clear h0
      go_wp2
      exact NO.out 0 _ HN.out rfl rfl rfl
    have h0' : decide ((1 : Int) < (m0 : Int)) = false := by simp; omega
    by_cases h1 : 42 < m1
    · have h1' : (42 : Int) < (m1 : Int) := by omega
      have HN := hid (show leafOf x = none by rw [HL.out, HBN.out (.inr (.inl h1))]; rfl)
      clear h0 h1
      go_wp2
      exact NO.out 0 _ HN.out rfl rfl rfl
    have h1' : decide ((42 : Int) < (m1 : Int)) = false := by simp; omega
    by_cases h2 : m0 ≠ 1 ∧ m1 < 42
    · have HN := hid (show leafOf x = none by rw [HL.out, HBN.out (.inr (.inr (.inl h2)))]; rfl)
      have e2 : ((m0 : Int) == 1) = false := by have := h2.1; simp; omega
      have e3 : (m1 : Int) < 42 := by omega
      clear h0 h1 h2
      go_wp2
      go_quiet (fail)
      go_wp2
      exact NO.out _ _ HN.out rfl rfl rfl
    have HM1 := hid (show m1 ≤ 42 by omega)
    have hm1' : (m1 : Int) ≤ 42 := by omega
    have hzc := fun nq => HZC.out nq m1 HM1.out
    rw [show ((2 + m1 : Nat) : Int) = 2 + (m1 : Int) by omega, show ((42 - m1 : Nat) : Int) = 42 - (m1 : Int) by omega] at hzc
    obtain ⟨A', hsl, hA', -⟩ := slice_cut g 0 44 44 2 (2 + m1) (by omega) (by omega)
    obtain rfl := hA' (by decide)
    rw [show ((2 : Nat) : Int) = 2 from rfl, show ((2 + m1 : Nat) : Int) = 2 + (m1 : Int) by omega, show 2 + m1 - 2 = m1 by omega, show 44 - 2 = 42 from rfl, Nat.zero_add] at hsl
    have HS := hid hsl
    have HK := hid (show (m0 = 1 ∧ ((m0 : Int) == 1) = true) ∨ (m0 ≠ 1 ∧ m1 = 42 ∧ ((m0 : Int) == 1) = false) from by
      by_cases e : m0 = 1
      · exact .inl ⟨e, by simp [e]⟩
      · exact .inr ⟨e, by omega, by simp; omega⟩)
    clear hA' h0 h1 h2 hsl
    rcases HZ.out HM1.out with ⟨hz0, hall⟩ | ⟨hz5, hbad⟩
    · rw [hz0] at hzc
      have HN := hid (show leafOf x = some (tg, decide (m0 = 1), r.take m1) by
        rw [HL.out, HBY.out, if_pos ⟨by have := h0'; simp at this; omega, HM1.out, hall, by rcases HK.out with ⟨h, _⟩ | ⟨_, h, _⟩; exact .inl h; exact .inr h⟩]; rfl)
      clear hz0 hall
      rcases HK.out with ⟨e0, ek⟩ | ⟨e0, e1, ek⟩
      · clear HK
        have HE := hid e0
        clear e0
        go_wp2
        go_quiet (fail)
        go_wp2_with fail
        refine (hzc _).mono ?_
        clear hzc
        rintro e _ ⟨rfl, rfl⟩
        have hs1 := HS.out
        go_wp2_with fail
        refine bodyPost_ret (leaf_end ((cs_drewN K4d.out nq).set3 _ _ _) rfl rfl) rfl ⟨below_set3 (below_drewN B7.out nq) (Nat.le_refl _) _ _ _, ?_⟩
        rw [HN.out]
        exact leaf_some (by rw [List.length_take, HRL.out]; have := HM1.out; omega) (by rw [HE.out]; rfl) HM1.out (rd_set3 (HR.out _ HM1.out) HG.out _ _ _) HBG.out
      · clear HK
        have e42 : ¬ (m1 : Int) < 42 := by omega
        have e43 : decide ((m1 : Int) < 42) = false := by simp; omega
        have HE := hid e0
        clear e42 e1 e0
        go_wp2
        go_quiet (fail)
        go_wp2_with fail
        refine (hzc _).mono ?_
        clear hzc
        rintro e _ ⟨rfl, rfl⟩
        have hs1 := HS.out
        go_wp2_with fail
        refine bodyPost_ret (leaf_end ((cs_drewN K4d.out nq).set3 _ _ _) rfl rfl) rfl ⟨below_set3 (below_drewN B7.out nq) (Nat.le_refl _) _ _ _, ?_⟩
        rw [HN.out]
        exact leaf_some (by rw [List.length_take, HRL.out]; have := HM1.out; omega) (by rw [decide_eq_false HE.out]) HM1.out (rd_set3 (HR.out _ HM1.out) HG.out _ _ _) HBG.out
    · clear HS
      have HN := hid (show leafOf x = none by rw [HL.out, HBN.out (.inr (.inr (.inr hbad)))]; rfl)
      rw [hz5] at hzc
      clear hz5 hbad
      rcases HK.out with ⟨e0, ek⟩ | ⟨e0, e1, ek⟩
      · clear HK
        go_wp2
        go_quiet (fail)
        go_wp2_with fail
        refine (hzc _).mono ?_
        clear hzc
        rintro e _ ⟨rfl, rfl⟩
        go_wp2_with fail
        exact NO.out _ _ HN.out rfl rfl rfl
      · clear HK
        have e42 : ¬ (m1 : Int) < 42 := by omega
        have e43 : decide ((m1 : Int) < 42) = false := by simp; omega
        clear e42 e1 e0
        go_wp2
        go_quiet (fail)
        go_wp2_with fail
        refine (hzc _).mono ?_
        clear hzc
        rintro e _ ⟨rfl, rfl⟩
        go_wp2_with fail
        exact NO.out _ _ HN.out rfl rfl rfl
theorem leafAt_v {w : World} {d : Nat} {s : DS} {F : Nat → Prop} (h : DiskV w d s F) (n : Int) :
    Calls Tryz.prog 178 #[.pointer (some ⟨d, 0, none⟩), .int .i64 n] w fun e w' => LeafRet (readV s n) w e w' := leafAt_x h n _ rfl
end Go.Proofs.YtfgbpinfplllgaaGreatDoor
namespace Go.Proofs.YtfgbpinfplllgaaGreatDoor
open Go.RowKit Go.Shelf
set_option maxRecDepth 100000
def lvsV (s : DS) (base : Int) (n : Nat) : List (Option Lf) := rmap base n fun p => leafOf (readV s p)
theorem lvsV_len (s : DS) (base : Int) (n : Nat) : (lvsV s base n).length = n := rmap_len _ _ _
theorem lvsV_get (s : DS) (base : Int) (n k : Nat) (h : k < n) : (lvsV s base n)[k]? = some (leafOf (readV s (base + (k : Int)))) := by
  unfold lvsV rmap
  rw [List.getElem?_map, List.getElem?_range h]
  rfl
def LowS (s : DS) : Prop := ∀ p m l b, leafOf (readV s p) = some (m, l, b) → 0 < m ∧ m ≤ 2147483648
def WI (ls : List (Option Lf)) (k : Nat) (acc : List UInt8) (first : Int) : Prop :=
  acc.length ≤ 42 * k ∧ ((k = 0 ∧ acc = [] ∧ first = 0) ∨
    (1 ≤ k ∧ first = headN ls ∧ 0 < first ∧ first + k ≤ 2147483649 ∧ readB (headN ls) true ls = (readB (first + k) false (ls.drop k)).map fun p => (acc ++ p.1, p.2 + k)))
theorem WI.start (ls : List (Option Lf)) : WI ls 0 [] 0 := ⟨Nat.le_refl _, .inl ⟨rfl, rfl, rfl⟩⟩
theorem drop_of_get {α : Type} {ls : List α} {k : Nat} {x : α} (h : ls[k]? = some x) : ls.drop k = x :: ls.drop (k + 1) := by
  obtain ⟨hk, e⟩ := List.getElem?_eq_some_iff.1 h
  rw [List.drop_eq_getElem_cons hk, e]
theorem WI.empty {ls : List (Option Lf)} {k : Nat} {acc : List UInt8} {first : Int} (h : WI ls k acc first) (hx : ls[k]? = some none) : readB (headN ls) true ls = none := by
  rcases h.2 with ⟨rfl, _, _⟩ | ⟨_, _, _, _, e⟩
  · have := drop_of_get hx
    rw [List.drop_zero] at this
    rw [this]
    exact readB_none _ _ _
  · rw [e, drop_of_get hx, readB_none]
    rfl
theorem WI.over {ls : List (Option Lf)} {k : Nat} {acc : List UInt8} {first : Int} (h : WI ls k acc first) (hx : ls.length ≤ k) : readB (headN ls) true ls = none := by
  rcases h.2 with ⟨rfl, _, _⟩ | ⟨_, _, _, _, e⟩
  · have : ls = [] := List.eq_nil_of_length_eq_zero (by omega)
    rw [this]
    exact readB_nil _ _
  · rw [e, List.drop_eq_nil_of_le hx, readB_nil]
    rfl
theorem head_of {ls : List (Option Lf)} {m : Int} {l : Bool} {b : List UInt8} (hx : ls[0]? = some (some (m, l, b))) : ls = some (m, l, b) :: ls.drop 1 ∧ headN ls = m := by
  have := drop_of_get hx
  rw [List.drop_zero] at this
  refine ⟨this, ?_⟩
  rw [this]
  rfl
theorem WI.last0 {ls : List (Option Lf)} {m : Int} {b : List UInt8} (hx : ls[0]? = some (some (m, true, b))) : readB (headN ls) true ls = some (b, 1) ∧ headN ls = m := by
  obtain ⟨h1, h2⟩ := head_of hx
  refine ⟨?_, h2⟩
  rw [h2, h1, readB_some, if_pos ⟨rfl, .inr rfl⟩, if_pos rfl]
theorem WI.next0 {ls : List (Option Lf)} {m : Int} {b : List UInt8} (hx : ls[0]? = some (some (m, false, b))) (hm : 0 < m ∧ m ≤ 2147483648) (hb : b.length ≤ 42) : WI ls 1 b m := by
  obtain ⟨h1, h2⟩ := head_of hx
  refine ⟨by omega, .inr ⟨Nat.le_refl _, h2.symm, hm.1, by omega, ?_⟩⟩
  rw [h2]
  conv => lhs; rw [h1, readB_some, if_pos ⟨rfl, .inr rfl⟩, if_neg (by decide)]
  rfl
theorem WI.bad {ls : List (Option Lf)} {k : Nat} {acc : List UInt8} {first m : Int} {l : Bool} {b : List UInt8} (h : WI ls k acc first) (hk : 1 ≤ k) (hx : ls[k]? = some (some (m, l, b))) (hb : m ≠ first + k ∨ b = []) : readB (headN ls) true ls = none := by
  rcases h.2 with ⟨rfl, _, _⟩ | ⟨_, _, _, _, e⟩
  · omega
  · rw [e, drop_of_get hx, readB_some, if_neg]
    · rfl
    · rintro ⟨h1, h2⟩
      rcases hb with hb | hb
      · exact hb h1
      · rcases h2 with h2 | h2
        · exact h2 hb
        · cases h2
theorem WI.last {ls : List (Option Lf)} {k : Nat} {acc : List UInt8} {first : Int} {b : List UInt8} (h : WI ls k acc first) (hk : 1 ≤ k) (hx : ls[k]? = some (some (first + k, true, b))) (hb : b ≠ []) : readB (headN ls) true ls = some (acc ++ b, k + 1) ∧ headN ls = first := by
  rcases h.2 with ⟨rfl, _, _⟩ | ⟨_, h2, _, _, e⟩
  · omega
  · refine ⟨?_, h2.symm⟩
    rw [e, drop_of_get hx, readB_some, if_pos ⟨rfl, .inl hb⟩, if_pos rfl]
    simp [Nat.add_comm]
theorem WI.next {ls : List (Option Lf)} {k : Nat} {acc : List UInt8} {first : Int} {b : List UInt8} (h : WI ls k acc first) (hk : 1 ≤ k) (hx : ls[k]? = some (some (first + k, false, b))) (hb : b ≠ []) (hm : first + k ≤ 2147483648) (hl : b.length ≤ 42) : WI ls (k + 1) (acc ++ b) first := by
  rcases h.2 with ⟨rfl, _, _⟩ | ⟨_, h2, h3, _, e⟩
  · omega
  · refine ⟨by rw [List.length_append]; have := h.1; omega, .inr ⟨by omega, h2, h3, by omega, ?_⟩⟩
    rw [e, drop_of_get hx, readB_some, if_pos ⟨rfl, .inl hb⟩, if_neg (by decide), show first + (k : Int) + 1 = first + ((k + 1 : Nat) : Int) by omega, Option.map_map]
    congr 1
    funext p
    simp only [Function.comp, List.append_assoc, Prod.mk.injEq, true_and]
    omega
def WholeRet (ls : List (Option Lf)) (w : World) (e : Ending) (w' : World) : Prop := Below w.heap.size w w' ∧
  match readB (headN ls) true ls with
  | none => e = .returned (.tuple #[.agg #[.slice none 0 0, .int .u32 0, .int .i64 0], .bool false])
  | some (b, c) => ∃ v, e = .returned (.tuple #[.agg #[v, .int .u32 (headN ls), .int .i64 (c : Int)], .bool true]) ∧ BsV w' (w.heap.size ≤ ·) v b ∧ b.length ≤ 42 * c ∧ 0 < headN ls ∧ headN ls + c ≤ 2147483649
theorem WholeRet.emp {ls : List (Option Lf)} {w w' : World} (h : readB (headN ls) true ls = none) (hb : Below w.heap.size w w') : WholeRet ls w (.returned (.tuple #[.agg #[.slice none 0 0, .int .u32 0, .int .i64 0], .bool false])) w' := by
  unfold WholeRet
  rw [h]
  exact ⟨hb, rfl⟩
theorem WholeRet.has {ls : List (Option Lf)} {w w' : World} {v : Value} {b : List UInt8} {c : Nat} {m k : Int} (h : readB (headN ls) true ls = some (b, c)) (hm : headN ls = m) (hk : k = (c : Int)) (hb : BsV w' (w.heap.size ≤ ·) v b) (hl : b.length ≤ 42 * c) (h0 : 0 < m) (h1 : m + c ≤ 2147483649) (hB : Below w.heap.size w w') :
    WholeRet ls w (.returned (.tuple #[.agg #[v, .int .u32 m, .int .i64 k], .bool true])) w' := by
  unfold WholeRet
  rw [h]
  subst hm
  subst hk
  exact ⟨hB, v, rfl, hb, hl, h0, h1⟩
theorem own_one {W : World} {base n size : Nat} {e : TypeId} {v : Value} {xs : List Value} (h : W.ownsRow base e size v n xs) : v.oneCell' = true := by
  rcases h.2 with ⟨rfl, _⟩ | ⟨g, cap, cur, rfl, _⟩ <;> rfl
theorem one3 {a b c : Value} (ha : a.oneCell' = true) (hb : b.oneCell' = true) (hc : c.oneCell' = true) : ∀ v ∈ [a, b, c], v.oneCell' = true := by
  intro v hv
  simp only [List.mem_cons, List.not_mem_nil, or_false] at hv
  rcases hv with rfl | rfl | rfl <;> assumption
theorem own_conv {W : World} {base n m size : Nat} {e : TypeId} {v : Value} {xs : List Value} (h : W.ownsRow base e size v n xs) (hn : n = m) : W.ownsRow base e size v m xs := by
  subst hn
  exact h
theorem own_bs {W : World} {base n : Nat} {v : Value} {l : List UInt8} (h : W.ownsRow base 5 1 v n (cellsOf l)) (hn : n = l.length) : BsV W (base ≤ ·) v l := by
  subst hn
  exact BsV.own h
theorem whole_end {w : World} {g : Nat} {a b c v : Value} {tmps : Array Value} (hc : Cs w g 230 #[a, b, c]) (hp : tmps.getD 6 undef = .pointer (some ⟨g, 0, none⟩)) (hv : tmps.getD 7 undef = v) : (results Tryz.f154 tmps).run Tryz.prog w = .ok (.tuple #[.agg #[a, b, c], v]) w := by
  rw [results_agg_tmp (p := 6) (u := 7) (ty := 230) rfl tmps w g 0 [a, b, c] hp (At.whole hc) _ Tryz.underlying230 rfl (by kernel_rfl), hv]
theorem zeroBatch (w : World) : (zeroValue 230).run Tryz.prog w = .ok (.agg [.slice none 0 0, .int .u32 0, .int .i64 0].toArray) w := by kernel_rfl
theorem zeroLeaf (w : World) : (zeroValue 265).run Tryz.prog w = .ok (.agg [.int .u32 0, .bool false, .slice none 0 0].toArray) w := by kernel_rfl
theorem infoLeaf : (Tryz.prog.info? 265).map (·.size) = some 3 := by kernel_rfl
theorem infoBatch : (Tryz.prog.info? 230).map (·.size) = some 3 := by kernel_rfl
structure WS (w : World) (ls : List (Option Lf)) (g6 g8 k : Nat) (acc : List UInt8) (first : Int) (v : Value) (wr : World) : Prop where
  plain : WI ls k acc first
  res : Cs wr g6 230 #[.slice none 0 0, .int .u32 0, .int .i64 0]
  var : Cs wr g8 230 #[v, .int .u32 first, .int .i64 (k : Int)]
  own : wr.ownsRow w.heap.size 5 1 v acc.length (cellsOf acc)
  below : Below w.heap.size w wr
set_option maxHeartbeats 4000000 in
theorem wholeAt_v {w : World} {d : Nat} {s : DS} {F : Nat → Prop} (h : DiskV w d s F) (hlow : LowS s) (at' en : Nat) (hle : at' ≤ en) (hen : en ≤ 16384) :
    Calls Tryz.prog 154 #[.pointer (some ⟨d, 0, none⟩), .int .i64 (at' : Int), .int .i64 (en : Int)] w fun e w' => WholeRet (lvsV s at' (en - at')) w e w' := by
  have HD := hid h
  have HL := hid hlow
  have HE := hid hle
  have hget := lvsV_get s at' (en - at')
  have hlen := lvsV_len s at' (en - at')
  generalize lvsV s at' (en - at') = ls at *
  have HG := hid hget
  have HN := hid hlen
  clear h hlow hget hlen hle
  go_enter Tryz.func154, Tryz.ntmps154
  go_wp2_with (first
    | ((with_reducible show wpList _ _ _ _ _ w); refine wpList_allocS rfl 230 rfl _ zeroBatch ?_; intro g6 u6 hk hb hg; go_frame; have K6 := hid hk; have B6 := hid hb; have G6 := hid hg; clear hk hb hg)
    | ((with_reducible show wpList _ _ _ _ _ u6); refine wpList_allocS rfl 230 rfl _ zeroBatch ?_; intro g8 u8 hk hb hg; go_frame; have K8 := hid hk; have B8 := hid hb; have G8 := hid hg; clear hk hb hg))
  have hws : WS w ls g6 g8 0 [] 0 (.slice none 0 0) u8 := ⟨WI.start ls, K6.out.below B8.out K6.out.lt, K8.out, World.ownsRow_nil _ _ _ _, below_chain B6.out B8.out⟩
  have HWS := hid hws
  have HB8 := hid (show w.heap.size ≤ g8 from Nat.le_trans B6.out.size G8.out)
  have H68 := hid (show g6 ≠ g8 by have := K6.out.lt; have := G8.out; omega)
  clear hws K6 K8 B6 B8 G8
  go_loopw [9] (fun i wr => ∃ (k : Nat) (acc : List UInt8) (first : Int) (v : Value), i = .int .i64 ((at' : Int) + (k : Int)) ∧ at' + k ≤ en ∧ WS w ls g6 g8 k acc first v wr) (fun i _ => en - (intOf i).toNat)
  case atStart => exact ⟨0, [], 0, _, by simp, by have := HE.out; omega, HWS.out⟩
  case round =>
    obtain ⟨k, acc, first, v, rfl, hk, hws⟩ := hrel
    have H := hid hws
    clear hws HWS
    by_cases hlt : at' + k < en
    · have hlt' : (at' : Int) + (k : Int) < (en : Int) := by omega
      have hx := HG.out k (by omega)
      have hleaf := leafAt_v (HD.out.below H.out.below) ((at' : Int) + (k : Int))
      have hlo := HL.out ((at' : Int) + (k : Int))
      generalize readV s ((at' : Int) + (k : Int)) = x at *
      have HX := hid hx
      have HLO := hid hlo
      have HK := hid hlt
      clear hx hlo hlt hk
      go_wp2_with fail
      refine hleaf.mono ?_
      clear hleaf
      rintro e w2 ⟨hb, hret⟩
      have HR := hid (H.out.res.below hb H.out.res.lt)
      have HV := hid (H.out.var.below hb H.out.var.lt)
      have HO := hid (own_below H.out.own hb)
      have HB := hid (below_chain H.out.below hb)
      have HP := hid H.out.plain
      have H8 := hid H.out.var.lt
      clear hb H
      rcases hlf : leafOf x with _ | ⟨m, lst, bs⟩
      · rw [hlf] at HX hret
        obtain rfl := hret
        have HN := hid (HP.out.empty HX.out)
        clear hlf HLO HX HP
        go_wp2_with (first
          | ((with_reducible show wpList _ _ _ _ _ w2); refine wpList_allocS rfl 265 rfl _ zeroLeaf ?_; intro g10 u10 hk hb hg; go_frame; have K10 := hid hk; have B10 := hid hb; have G10 := hid hg; clear hk hb hg)
          | ((with_reducible show wpList _ _ _ _ _ u10); refine wpList_storeS rfl 265 _ _ rfl g10 rfl [.int .u32 0, .bool false, .slice none 0 0] _ rfl K10.out rfl (by simp [Value.oneCell']) infoLeaf ?_; intro x10 hk ht; go_frame; have KL := hid hk; have T10 := hid ht; clear hk ht; have B11 := hid (below_turn B10.out T10.out B10.out.size G10.out))
          | ((with_reducible show wpList _ _ _ _ _ x10); refine wpList_storeS rfl 230 _ _ rfl g6 rfl [.slice none 0 0, .int .u32 0, .int .i64 0] _ rfl (HR.out.below B11.out HR.out.lt) rfl (by simp [Value.oneCell']) infoBatch ?_; intro x15 hk ht; go_frame; have K15 := hid hk; have T15 := hid ht; clear hk ht))
        exact bodyPost_ret (whole_end K15.out rfl rfl) rfl (WholeRet.emp HN.out (below_turn (below_chain HB.out B11.out) T15.out (below_chain HB.out B11.out).size G6.out))
      · rw [hlf] at HX hret
        obtain ⟨gb, rfl, hrd, hb42, hgb⟩ := hret
        have HGB := hid (show gb ≠ g8 by have := H8.out; omega)
        have HM := hid (HLO.out m lst bs hlf)
        have RB := hid hrd
        have HBL := hid hb42
        have m0 : 0 ≤ m := by have := HM.out; omega
        have m1 : m ≤ 2147483648 := HM.out.2
        clear hlf HLO hrd hb42
        have HACC := hid (show acc.length + bs.length ≤ 140737488355328 by have := HP.out.1; have := HBL.out; have := HK.out; omega)
        by_cases hk0 : k = 0
        · subst hk0
          have HP0 := hid HP.out
          obtain ⟨rfl, rfl⟩ : acc = [] ∧ first = 0 := by
            rcases HP.out.2 with ⟨_, h1, h2⟩ | ⟨h1, _⟩
            · exact ⟨h1, h2⟩
            · omega
          have heq : (((at' : Int) + ((0 : Nat) : Int)) == (at' : Int)) = true := by simp
          rcases lst with _ | _
          · have HW := hid (WI.next0 HX.out HM.out HBL.out)
            go_wp2_with (first
          | ((with_reducible show wpList _ _ _ _ _ w2); refine wpList_allocS rfl 265 rfl _ zeroLeaf ?_; intro g10 u10 hk hb hg; go_frame; have K10 := hid hk; have B10 := hid hb; have G10 := hid hg; clear hk hb hg)
          | ((with_reducible show wpList _ _ _ _ _ u10); refine wpList_storeS rfl 265 _ _ rfl g10 rfl [.int .u32 m, .bool false, .slice (some ⟨gb, 2, none⟩) bs.length 42] _ rfl K10.out rfl (by simp [Value.oneCell']) infoLeaf ?_; intro x10 hk ht; go_frame; have KL := hid hk; have T10 := hid ht; clear hk ht; have B11 := hid (below_turn B10.out T10.out B10.out.size G10.out); have HR1 := hid (HR.out.below B11.out HR.out.lt); have HV1 := hid (HV.out.below B11.out HV.out.lt); have HO1 := hid (own_below HO.out B11.out); have RB1 := hid (RB.out.below B11.out); have c80 := HV1.out.cell 0 rfl; have c81 := HV1.out.cell 1 rfl; have c82 := HV1.out.cell 2 rfl; have l0 := KL.out.cell 0 rfl; have l1 := KL.out.cell 1 rfl; have l2 := KL.out.cell 2 rfl; have BA := hid (below_chain HB.out B11.out); have N8L := hid (show g10 ≠ g8 by have := HV.out.lt; have := G10.out; omega); have N6L := hid (show g6 ≠ g10 by have := HR.out.lt; have := G10.out; omega); clear HR HV HO RB HB)
          | ((with_reducible show wpList _ _ _ _ _ x10); refine wpList_store1 rfl 44 _ _ rfl g8 1 rfl (.int .u32 m) rfl rfl (by kernel_rfl) 230 _ HV1.out (by simp) ?_; intro x11 hk ht; go_frame; have HV2 := hid hk; have T11 := hid ht; clear hk ht; have HR2 := hid (HR1.out.other T11.out H68.out); have KL2 := hid (KL.out.other T11.out N8L.out); have HO2 := hid (own_other HO1.out HV1.out T11.out (by decide)); have RB2 := hid (RB1.out.turn T11.out (fun a ha e => by cases ha; exact HGB.out e)); have BA2 := hid (below_turn BA.out T11.out BA.out.size HB8.out); have c80 := HV2.out.cell 0 rfl; have c81 := HV2.out.cell 1 rfl; have c82 := HV2.out.cell 2 rfl; have l0 := KL2.out.cell 0 rfl; have l1 := KL2.out.cell 1 rfl; have l2 := KL2.out.cell 2 rfl; clear HR1 HV1 KL HO1 RB1 BA)
          | (at_builtin; (with_reducible show wpList _ _ _ _ _ x11); refine append_rd rfl _ _ rfl w.heap.size _ _ _ rfl HO2.out (some ⟨gb, 2, none⟩) bs bs.length 42 rfl rfl RB2.out (fun h => by cases h) HACC.out BA2.out.size ?_; intro v2 u12 hown hg; go_frame; have HO3 := hid hown; have HV3 := hid (HV2.out.own hg HO2.out (by decide)); have HR3 := hid (HR2.out.own hg HO2.out (by decide)); have KL3 := hid (KL2.out.own hg HO2.out (by decide)); have BA3 := hid (below_own BA2.out hg HO2.out (Nat.le_refl _) BA2.out.size); clear hown hg HO2 HV2 HR2 KL2 RB2 BA2)
          | ((with_reducible show wpList _ _ _ _ _ u12); refine wpList_store1 rfl 60 _ _ rfl g8 0 rfl v2 rfl (own_one HO3.out) (by kernel_rfl) 230 _ HV3.out (by simp) ?_; intro x12 hk ht; go_frame; have HV4 := hid hk; have T12 := hid ht; clear hk ht; have HR4 := hid (HR3.out.other T12.out H68.out); have KL4 := hid (KL3.out.other T12.out N8L.out); have HO4 := hid (own_other HO3.out HV3.out T12.out (by decide)); have BA4 := hid (below_turn BA3.out T12.out BA3.out.size HB8.out); have c82 := HV4.out.cell 2 rfl; clear HR3 HV3 KL3 HO3 BA3)
          | ((with_reducible show wpList _ _ _ _ _ x12); refine wpList_store1 rfl 3 _ _ rfl g8 2 rfl _ rfl rfl (by kernel_rfl) 230 _ HV4.out (by simp) ?_; intro x13 hk ht; go_frame; have HV5 := hid hk; have T13 := hid ht; clear hk ht; have HR5 := hid (HR4.out.other T13.out H68.out); have KL5 := hid (KL4.out.other T13.out N8L.out); have HO5 := hid (own_other HO4.out HV4.out T13.out (by decide)); have BA5 := hid (below_turn BA4.out T13.out BA4.out.size HB8.out); have l1 := KL5.out.cell 1 rfl; clear HR4 HV4 KL4 HO4 BA4))
            go_roundw
            case rel => exact ⟨0 + 1, [] ++ bs, m, v2, by go_num, by have := HK.out; omega, ⟨by simpa using HW.out, HR5.out, by first | exact HV5.out | (have := HV5.out; simpa using this), own_conv HO5.out (by simp), BA5.out⟩⟩
            case measure => simp [intOf]; have := HK.out; omega
          · have HW1 := hid (WI.last0 HX.out)
            go_wp2_with (first
          | ((with_reducible show wpList _ _ _ _ _ w2); refine wpList_allocS rfl 265 rfl _ zeroLeaf ?_; intro g10 u10 hk hb hg; go_frame; have K10 := hid hk; have B10 := hid hb; have G10 := hid hg; clear hk hb hg)
          | ((with_reducible show wpList _ _ _ _ _ u10); refine wpList_storeS rfl 265 _ _ rfl g10 rfl [.int .u32 m, .bool true, .slice (some ⟨gb, 2, none⟩) bs.length 42] _ rfl K10.out rfl (by simp [Value.oneCell']) infoLeaf ?_; intro x10 hk ht; go_frame; have KL := hid hk; have T10 := hid ht; clear hk ht; have B11 := hid (below_turn B10.out T10.out B10.out.size G10.out); have HR1 := hid (HR.out.below B11.out HR.out.lt); have HV1 := hid (HV.out.below B11.out HV.out.lt); have HO1 := hid (own_below HO.out B11.out); have RB1 := hid (RB.out.below B11.out); have c80 := HV1.out.cell 0 rfl; have c81 := HV1.out.cell 1 rfl; have c82 := HV1.out.cell 2 rfl; have l0 := KL.out.cell 0 rfl; have l1 := KL.out.cell 1 rfl; have l2 := KL.out.cell 2 rfl; have BA := hid (below_chain HB.out B11.out); have N8L := hid (show g10 ≠ g8 by have := HV.out.lt; have := G10.out; omega); have N6L := hid (show g6 ≠ g10 by have := HR.out.lt; have := G10.out; omega); clear HR HV HO RB HB)
          | ((with_reducible show wpList _ _ _ _ _ x10); refine wpList_store1 rfl 44 _ _ rfl g8 1 rfl (.int .u32 m) rfl rfl (by kernel_rfl) 230 _ HV1.out (by simp) ?_; intro x11 hk ht; go_frame; have HV2 := hid hk; have T11 := hid ht; clear hk ht; have HR2 := hid (HR1.out.other T11.out H68.out); have KL2 := hid (KL.out.other T11.out N8L.out); have HO2 := hid (own_other HO1.out HV1.out T11.out (by decide)); have RB2 := hid (RB1.out.turn T11.out (fun a ha e => by cases ha; exact HGB.out e)); have BA2 := hid (below_turn BA.out T11.out BA.out.size HB8.out); have c80 := HV2.out.cell 0 rfl; have c81 := HV2.out.cell 1 rfl; have c82 := HV2.out.cell 2 rfl; have l0 := KL2.out.cell 0 rfl; have l1 := KL2.out.cell 1 rfl; have l2 := KL2.out.cell 2 rfl; clear HR1 HV1 KL HO1 RB1 BA)
          | (at_builtin; (with_reducible show wpList _ _ _ _ _ x11); refine append_rd rfl _ _ rfl w.heap.size _ _ _ rfl HO2.out (some ⟨gb, 2, none⟩) bs bs.length 42 rfl rfl RB2.out (fun h => by cases h) HACC.out BA2.out.size ?_; intro v2 u12 hown hg; go_frame; have HO3 := hid hown; have HV3 := hid (HV2.out.own hg HO2.out (by decide)); have HR3 := hid (HR2.out.own hg HO2.out (by decide)); have KL3 := hid (KL2.out.own hg HO2.out (by decide)); have BA3 := hid (below_own BA2.out hg HO2.out (Nat.le_refl _) BA2.out.size); clear hown hg HO2 HV2 HR2 KL2 RB2 BA2)
          | ((with_reducible show wpList _ _ _ _ _ u12); refine wpList_store1 rfl 60 _ _ rfl g8 0 rfl v2 rfl (own_one HO3.out) (by kernel_rfl) 230 _ HV3.out (by simp) ?_; intro x12 hk ht; go_frame; have HV4 := hid hk; have T12 := hid ht; clear hk ht; have HR4 := hid (HR3.out.other T12.out H68.out); have KL4 := hid (KL3.out.other T12.out N8L.out); have HO4 := hid (own_other HO3.out HV3.out T12.out (by decide)); have BA4 := hid (below_turn BA3.out T12.out BA3.out.size HB8.out); have c82 := HV4.out.cell 2 rfl; clear HR3 HV3 KL3 HO3 BA3)
          | ((with_reducible show wpList _ _ _ _ _ x12); refine wpList_store1 rfl 3 _ _ rfl g8 2 rfl _ rfl rfl (by kernel_rfl) 230 _ HV4.out (by simp) ?_; intro x13 hk ht; go_frame; have HV5 := hid hk; have T13 := hid ht; clear hk ht; have HR5 := hid (HR4.out.other T13.out H68.out); have KL5 := hid (KL4.out.other T13.out N8L.out); have HO5 := hid (own_other HO4.out HV4.out T13.out (by decide)); have BA5 := hid (below_turn BA4.out T13.out BA4.out.size HB8.out); have l1 := KL5.out.cell 1 rfl; clear HR4 HV4 KL4 HO4 BA4)
          | ((with_reducible show wpList _ _ _ _ _ x13); refine wpList_loadS rfl 230 _ rfl g8 rfl [v2, _, _] HV5.out _ Tryz.underlying230 rfl infoBatch ?_; go_frame)
          | ((with_reducible show wpList _ _ _ _ _ x13); refine wpList_storeS rfl 230 _ _ rfl g6 rfl [v2, _, _] _ rfl HR5.out rfl (one3 (own_one HO5.out) rfl rfl) infoBatch ?_; intro x15 hk ht; go_frame; have K15 := hid hk; have T15 := hid ht; clear hk ht))
            have hfin := own_other HO5.out HR5.out T15.out (by decide)
            refine bodyPost_ret (whole_end K15.out rfl rfl) rfl (WholeRet.has (by first | exact HW1.out.1 | simpa using HW1.out.1) HW1.out.2 (by simp) (own_bs hfin (by simp)) ?_ ?_ ?_ (below_turn BA5.out T15.out BA5.out.size G6.out))
            · have := HP0.out.1; have := HBL.out; simp; omega
            · exact HM.out.1
            · have := HM.out.2; omega
        · have HF := hid (show 0 < first ∧ first + (k : Int) ≤ 2147483649 from by
            rcases HP.out.2 with ⟨h1, _⟩ | ⟨_, _, h3, h4, _⟩
            · exact absurd h1 hk0
            · exact ⟨h3, h4⟩)
          have HK1 := hid (show 1 ≤ k by omega)
          have HP0 := HP
          have heq : (((at' : Int) + (k : Int)) == (at' : Int)) = false := by rw [beq_eq_false_iff_ne]; omega
          have f0 : 0 ≤ first := by have := HF.out; omega
          have f1 : first + (k : Int) ≤ 2147483649 := HF.out.2
          have k1 : (k : Int) ≤ 2147483649 := by omega
          by_cases hm : m = first + (k : Int)
          · rcases bs with _ | ⟨y, bs⟩
            · have HBAD := hid (HP.out.bad HK1.out HX.out (.inr rfl))
              have hne : (m == first + (k : Int)) = true := by simp [hm]
              have hne' : (m != first + (k : Int)) = false := by simp [hm]
              have HMM := hid hm
              clear hm
              go_wp2_with (first
          | ((with_reducible show wpList _ _ _ _ _ w2); refine wpList_allocS rfl 265 rfl _ zeroLeaf ?_; intro g10 u10 hk hb hg; go_frame; have K10 := hid hk; have B10 := hid hb; have G10 := hid hg; clear hk hb hg)
          | ((with_reducible show wpList _ _ _ _ _ u10); refine wpList_storeS rfl 265 _ _ rfl g10 rfl [.int .u32 m, .bool lst, .slice (some ⟨gb, 2, none⟩) ([] : List UInt8).length 42] _ rfl K10.out rfl (by simp [Value.oneCell']) infoLeaf ?_; intro x10 hk ht; go_frame; have KL := hid hk; have T10 := hid ht; clear hk ht; have B11 := hid (below_turn B10.out T10.out B10.out.size G10.out); have HR1 := hid (HR.out.below B11.out HR.out.lt); have HV1 := hid (HV.out.below B11.out HV.out.lt); have c81 := HV1.out.cell 1 rfl; have c82 := HV1.out.cell 2 rfl; have l0 := KL.out.cell 0 rfl; have l2 := KL.out.cell 2 rfl; have BA := hid (below_chain HB.out B11.out); clear HR HV HO RB HB)
          | ((with_reducible show wpList _ _ _ _ _ x10); refine wpList_storeS rfl 230 _ _ rfl g6 rfl [.slice none 0 0, .int .u32 0, .int .i64 0] _ rfl HR1.out rfl (by simp [Value.oneCell']) infoBatch ?_; intro x15 hk ht; go_frame; have K15 := hid hk; have T15 := hid ht; clear hk ht))
              exact bodyPost_ret (whole_end K15.out rfl rfl) rfl (WholeRet.emp HBAD.out (below_turn BA.out T15.out BA.out.size G6.out))
            · have hbn : (((y :: bs).length : Int) == 0) = false := by simp; omega
              have hne : (m == first + (k : Int)) = true := by simp [hm]
              have hne' : (m != first + (k : Int)) = false := by simp [hm]
              have HB0 := hid (show y :: bs ≠ [] by simp)
              generalize y :: bs = bs at *
              rw [hm] at HX
              have HMM := hid hm
              have hm2 := HM.out.2
              have HM2 := hid (show first + (k : Int) ≤ 2147483648 by omega)
              clear hm hm2
              rcases lst with _ | _
              · have HW := hid (HP.out.next HK1.out HX.out HB0.out HM2.out HBL.out)
                go_wp2_with (first
          | ((with_reducible show wpList _ _ _ _ _ w2); refine wpList_allocS rfl 265 rfl _ zeroLeaf ?_; intro g10 u10 hk hb hg; go_frame; have K10 := hid hk; have B10 := hid hb; have G10 := hid hg; clear hk hb hg)
          | ((with_reducible show wpList _ _ _ _ _ u10); refine wpList_storeS rfl 265 _ _ rfl g10 rfl [.int .u32 m, .bool false, .slice (some ⟨gb, 2, none⟩) bs.length 42] _ rfl K10.out rfl (by simp [Value.oneCell']) infoLeaf ?_; intro x10 hk ht; go_frame; have KL := hid hk; have T10 := hid ht; clear hk ht; have B11 := hid (below_turn B10.out T10.out B10.out.size G10.out); have HR1 := hid (HR.out.below B11.out HR.out.lt); have HV1 := hid (HV.out.below B11.out HV.out.lt); have HO1 := hid (own_below HO.out B11.out); have RB1 := hid (RB.out.below B11.out); have c80 := HV1.out.cell 0 rfl; have c81 := HV1.out.cell 1 rfl; have c82 := HV1.out.cell 2 rfl; have l0 := KL.out.cell 0 rfl; have l1 := KL.out.cell 1 rfl; have l2 := KL.out.cell 2 rfl; have BA := hid (below_chain HB.out B11.out); have N8L := hid (show g10 ≠ g8 by have := HV.out.lt; have := G10.out; omega); have N6L := hid (show g6 ≠ g10 by have := HR.out.lt; have := G10.out; omega); clear HR HV HO RB HB)
          | (at_builtin; (with_reducible show wpList _ _ _ _ _ x10); refine append_rd rfl _ _ rfl w.heap.size _ _ _ rfl HO1.out (some ⟨gb, 2, none⟩) bs bs.length 42 rfl rfl RB1.out (fun h => by cases h) HACC.out BA.out.size ?_; intro v2 u12 hown hg; go_frame; have HO3 := hid hown; have HV3 := hid (HV1.out.own hg HO1.out (by decide)); have HR3 := hid (HR1.out.own hg HO1.out (by decide)); have KL3 := hid (KL.out.own hg HO1.out (by decide)); have BA3 := hid (below_own BA.out hg HO1.out (Nat.le_refl _) BA.out.size); clear hown hg HO1 HV1 HR1 KL RB1 BA)
          | ((with_reducible show wpList _ _ _ _ _ u12); refine wpList_store1 rfl 60 _ _ rfl g8 0 rfl v2 rfl (own_one HO3.out) (by kernel_rfl) 230 _ HV3.out (by simp) ?_; intro x12 hk ht; go_frame; have HV4 := hid hk; have T12 := hid ht; clear hk ht; have HR4 := hid (HR3.out.other T12.out H68.out); have KL4 := hid (KL3.out.other T12.out N8L.out); have HO4 := hid (own_other HO3.out HV3.out T12.out (by decide)); have BA4 := hid (below_turn BA3.out T12.out BA3.out.size HB8.out); have c82 := HV4.out.cell 2 rfl; clear HR3 HV3 KL3 HO3 BA3)
          | ((with_reducible show wpList _ _ _ _ _ x12); refine wpList_store1 rfl 3 _ _ rfl g8 2 rfl _ rfl rfl (by kernel_rfl) 230 _ HV4.out (by simp) ?_; intro x13 hk ht; go_frame; have HV5 := hid hk; have T13 := hid ht; clear hk ht; have HR5 := hid (HR4.out.other T13.out H68.out); have KL5 := hid (KL4.out.other T13.out N8L.out); have HO5 := hid (own_other HO4.out HV4.out T13.out (by decide)); have BA5 := hid (below_turn BA4.out T13.out BA4.out.size HB8.out); have l1 := KL5.out.cell 1 rfl; clear HR4 HV4 KL4 HO4 BA4))
                go_roundw
                case rel => exact ⟨k + 1, acc ++ bs, first, v2, by go_num, by have := HK.out; omega, ⟨HW.out, HR5.out, by first | exact HV5.out | (have := HV5.out; simpa using this), own_conv HO5.out (by simp), BA5.out⟩⟩
                case measure => simp [intOf]; have := HK.out; omega
              · have HW1 := hid (HP.out.last HK1.out HX.out HB0.out)
                go_wp2_with (first
          | ((with_reducible show wpList _ _ _ _ _ w2); refine wpList_allocS rfl 265 rfl _ zeroLeaf ?_; intro g10 u10 hk hb hg; go_frame; have K10 := hid hk; have B10 := hid hb; have G10 := hid hg; clear hk hb hg)
          | ((with_reducible show wpList _ _ _ _ _ u10); refine wpList_storeS rfl 265 _ _ rfl g10 rfl [.int .u32 m, .bool true, .slice (some ⟨gb, 2, none⟩) bs.length 42] _ rfl K10.out rfl (by simp [Value.oneCell']) infoLeaf ?_; intro x10 hk ht; go_frame; have KL := hid hk; have T10 := hid ht; clear hk ht; have B11 := hid (below_turn B10.out T10.out B10.out.size G10.out); have HR1 := hid (HR.out.below B11.out HR.out.lt); have HV1 := hid (HV.out.below B11.out HV.out.lt); have HO1 := hid (own_below HO.out B11.out); have RB1 := hid (RB.out.below B11.out); have c80 := HV1.out.cell 0 rfl; have c81 := HV1.out.cell 1 rfl; have c82 := HV1.out.cell 2 rfl; have l0 := KL.out.cell 0 rfl; have l1 := KL.out.cell 1 rfl; have l2 := KL.out.cell 2 rfl; have BA := hid (below_chain HB.out B11.out); have N8L := hid (show g10 ≠ g8 by have := HV.out.lt; have := G10.out; omega); have N6L := hid (show g6 ≠ g10 by have := HR.out.lt; have := G10.out; omega); clear HR HV HO RB HB)
          | (at_builtin; (with_reducible show wpList _ _ _ _ _ x10); refine append_rd rfl _ _ rfl w.heap.size _ _ _ rfl HO1.out (some ⟨gb, 2, none⟩) bs bs.length 42 rfl rfl RB1.out (fun h => by cases h) HACC.out BA.out.size ?_; intro v2 u12 hown hg; go_frame; have HO3 := hid hown; have HV3 := hid (HV1.out.own hg HO1.out (by decide)); have HR3 := hid (HR1.out.own hg HO1.out (by decide)); have KL3 := hid (KL.out.own hg HO1.out (by decide)); have BA3 := hid (below_own BA.out hg HO1.out (Nat.le_refl _) BA.out.size); clear hown hg HO1 HV1 HR1 KL RB1 BA)
          | ((with_reducible show wpList _ _ _ _ _ u12); refine wpList_store1 rfl 60 _ _ rfl g8 0 rfl v2 rfl (own_one HO3.out) (by kernel_rfl) 230 _ HV3.out (by simp) ?_; intro x12 hk ht; go_frame; have HV4 := hid hk; have T12 := hid ht; clear hk ht; have HR4 := hid (HR3.out.other T12.out H68.out); have KL4 := hid (KL3.out.other T12.out N8L.out); have HO4 := hid (own_other HO3.out HV3.out T12.out (by decide)); have BA4 := hid (below_turn BA3.out T12.out BA3.out.size HB8.out); have c82 := HV4.out.cell 2 rfl; clear HR3 HV3 KL3 HO3 BA3)
          | ((with_reducible show wpList _ _ _ _ _ x12); refine wpList_store1 rfl 3 _ _ rfl g8 2 rfl _ rfl rfl (by kernel_rfl) 230 _ HV4.out (by simp) ?_; intro x13 hk ht; go_frame; have HV5 := hid hk; have T13 := hid ht; clear hk ht; have HR5 := hid (HR4.out.other T13.out H68.out); have KL5 := hid (KL4.out.other T13.out N8L.out); have HO5 := hid (own_other HO4.out HV4.out T13.out (by decide)); have BA5 := hid (below_turn BA4.out T13.out BA4.out.size HB8.out); have l1 := KL5.out.cell 1 rfl; clear HR4 HV4 KL4 HO4 BA4)
          | ((with_reducible show wpList _ _ _ _ _ x13); refine wpList_loadS rfl 230 _ rfl g8 rfl [v2, _, _] HV5.out _ Tryz.underlying230 rfl infoBatch ?_; go_frame)
          | ((with_reducible show wpList _ _ _ _ _ x13); refine wpList_storeS rfl 230 _ _ rfl g6 rfl [v2, _, _] _ rfl HR5.out rfl (one3 (own_one HO5.out) rfl rfl) infoBatch ?_; intro x15 hk ht; go_frame; have K15 := hid hk; have T15 := hid ht; clear hk ht))
                have hfin := own_other HO5.out HR5.out T15.out (by decide)
                refine bodyPost_ret (whole_end K15.out rfl rfl) rfl (WholeRet.has (by first | exact HW1.out.1 | simpa using HW1.out.1) HW1.out.2 (by simp) (own_bs hfin (by simp)) ?_ ?_ ?_ (below_turn BA5.out T15.out BA5.out.size G6.out))
                · have := HP0.out.1; have := HBL.out; simp; omega
                · exact HF.out.1
                · have := HM2.out; omega
          · have HBAD := hid (HP.out.bad HK1.out HX.out (.inl hm))
            have hne : (m == first + (k : Int)) = false := by rw [beq_eq_false_iff_ne]; exact hm
            have hne' : (m != first + (k : Int)) = true := by rw [bne, hne]; rfl
            clear hm
            go_wp2_with (first
          | ((with_reducible show wpList _ _ _ _ _ w2); refine wpList_allocS rfl 265 rfl _ zeroLeaf ?_; intro g10 u10 hk hb hg; go_frame; have K10 := hid hk; have B10 := hid hb; have G10 := hid hg; clear hk hb hg)
          | ((with_reducible show wpList _ _ _ _ _ u10); refine wpList_storeS rfl 265 _ _ rfl g10 rfl [.int .u32 m, .bool lst, .slice (some ⟨gb, 2, none⟩) bs.length 42] _ rfl K10.out rfl (by simp [Value.oneCell']) infoLeaf ?_; intro x10 hk ht; go_frame; have KL := hid hk; have T10 := hid ht; clear hk ht; have B11 := hid (below_turn B10.out T10.out B10.out.size G10.out); have HR1 := hid (HR.out.below B11.out HR.out.lt); have HV1 := hid (HV.out.below B11.out HV.out.lt); have c81 := HV1.out.cell 1 rfl; have c82 := HV1.out.cell 2 rfl; have l0 := KL.out.cell 0 rfl; have l2 := KL.out.cell 2 rfl; have BA := hid (below_chain HB.out B11.out); clear HR HV HO RB HB)
          | ((with_reducible show wpList _ _ _ _ _ x10); refine wpList_storeS rfl 230 _ _ rfl g6 rfl [.slice none 0 0, .int .u32 0, .int .i64 0] _ rfl HR1.out rfl (by simp [Value.oneCell']) infoBatch ?_; intro x15 hk ht; go_frame; have K15 := hid hk; have T15 := hid ht; clear hk ht))
            exact bodyPost_ret (whole_end K15.out rfl rfl) rfl (WholeRet.emp HBAD.out (below_turn BA.out T15.out BA.out.size G6.out))
    · have HN2 := hid (H.out.plain.over (by rw [HN.out]; omega))
      have hge : (en : Int) ≤ (at' : Int) + (k : Int) := by omega
      clear hlt hk
      go_wp2_with (first
        | ((with_reducible show wpList _ _ _ _ _ wr); refine wpList_storeS rfl 230 _ _ rfl g6 rfl [.slice none 0 0, .int .u32 0, .int .i64 0] _ rfl H.out.res rfl (by simp [Value.oneCell']) infoBatch ?_; intro x15 hk ht; go_frame; have K15 := hid hk; have T15 := hid ht; clear hk ht))
      exact bodyPost_ret (whole_end K15.out rfl rfl) rfl (WholeRet.emp HN2.out (below_turn H.out.below T15.out H.out.below.size G6.out))
end Go.Proofs.YtfgbpinfplllgaaGreatDoor
namespace Go.Proofs.YtfgbpinfplllgaaGreatDoor
open Go.RowKit Go.Shelf
set_option maxRecDepth 100000
def SI (ls : List (Option Lf)) (k : Nat) (e : Int) (acc : List (List UInt8)) (f : Int) : Prop :=
  k ≤ ls.length ∧ acc.length ≤ k ∧ 0 ≤ e ∧ e ≤ 2147483648 ∧ f = (if acc = [] then 0 else headN ls) ∧ (0 ≤ f ∧ f ≤ 2147483648) ∧ (acc = [] → k = 0) ∧ (acc ≠ [] → 0 < headN ls) ∧
    ∃ fuel, ls.length - k < fuel ∧ halfN ls = (acc ++ (counts fuel e (ls.drop k)).1, k + (counts fuel e (ls.drop k)).2.1, (counts fuel e (ls.drop k)).2.2)
theorem SI.start (ls : List (Option Lf)) : SI ls 0 0 [] 0 := ⟨Nat.zero_le _, Nat.le_refl _, by decide, by decide, rfl, by decide, fun _ => rfl, fun h => absurd rfl h, ls.length + 1, by omega, by simp [halfN]⟩
theorem SI.stop {ls : List (Option Lf)} {k : Nat} {e f : Int} {acc : List (List UInt8)} (h : SI ls k e acc f) (hs : readB (headN (ls.drop k)) true (ls.drop k) = none ∨ headN (ls.drop k) ≤ e) : (halfN ls).1 = acc ∧ (halfN ls).2.1 = k ∧ beginN ls = f := by
  obtain ⟨_, _, _, _, h5, _, _, _, fuel, _, e1⟩ := h
  have e2 : counts fuel e (ls.drop k) = ([], 0, e) := by
    rcases hs with hs | hs
    · exact counts_none _ _ _ hs
    · exact counts_low _ _ _ hs
  rw [e2] at e1
  refine ⟨by rw [e1]; simp, by rw [e1]; simp, ?_⟩
  unfold beginN
  rw [e1, h5]
  simp
theorem SI.next {ls : List (Option Lf)} {k c : Nat} {e f : Int} {acc : List (List UInt8)} {b : List UInt8} (h : SI ls k e acc f) (hr : readB (headN (ls.drop k)) true (ls.drop k) = some (b, c)) (he : ¬ headN (ls.drop k) ≤ e) (hm : headN (ls.drop k) + c ≤ 2147483649) :
    SI ls (k + c) (headN (ls.drop k) + c - 1) (acc ++ [b]) (if f = 0 then headN (ls.drop k) else f) ∧ 1 ≤ c ∧ k + c ≤ ls.length := by
  obtain ⟨h1, h2, h3, h4, h5, hb, h6, h7, fuel, hf, e1⟩ := h
  obtain ⟨c1, c2, _⟩ := readB_prefix _ _ _ _ _ hr
  rw [List.length_drop] at c2
  have hpos : 0 < headN (ls.drop k) := by omega
  refine ⟨⟨by omega, by rw [List.length_append]; simp; omega, by omega, by omega, ?_, by split <;> omega, fun h => by simp at h, fun _ => ?_, ?_⟩, c1, by omega⟩
  · rw [if_neg (show ¬ acc ++ [b] = [] by simp)]
    by_cases ha : acc = []
    · have hk := h6 ha
      subst hk
      rw [h5, if_pos ha, if_pos rfl, List.drop_zero]
    · have := h7 ha
      rw [h5, if_neg ha, if_neg (by omega)]
  · by_cases ha : acc = []
    · have hk := h6 ha
      subst hk
      rwa [List.drop_zero] at hpos
    · exact h7 ha
  · obtain ⟨fuel, rfl⟩ : ∃ q, fuel = q + 1 := ⟨fuel - 1, by omega⟩
    refine ⟨fuel, by omega, ?_⟩
    rw [e1, counts_some _ _ _ _ _ he hr, List.drop_drop]
    simp [Nat.add_assoc]
theorem lvsV_drop (s : DS) (base : Int) (n k : Nat) (h : k ≤ n) : (lvsV s base n).drop k = lvsV s (base + (k : Int)) (n - k) := rmap_drop _ _ _ _ h
theorem stand_end {w : World} {g : Nat} {a b c : Value} {tmps : Array Value} (hc : Cs w g 121 #[a, b, c]) (hp : tmps.getD 4 undef = .pointer (some ⟨g, 0, none⟩)) : (results Tryz.f125 tmps).run Tryz.prog w = .ok (.agg #[a, b, c]) w :=
  results_agg (p := 4) (ty := 121) rfl tmps w g 0 [a, b, c] hp (At.whole hc) _ Tryz.underlying121 rfl (by kernel_rfl)
theorem zeroRow (w : World) : (zeroValue 121).run Tryz.prog w = .ok (.agg [.slice none 0 0, .int .i64 0, .int .u32 0].toArray) w := by kernel_rfl
theorem infoRow : (Tryz.prog.info? 121).map (·.size) = some 3 := by kernel_rfl
def StandRet (ls : List (Option Lf)) (w : World) (e : Ending) (w' : World) : Prop :=
  ∃ v, e = .returned (.agg #[v, .int .i64 ((halfN ls).2.1 : Int), .int .u32 (beginN ls)]) ∧ OwnR w' w.heap.size (w.heap.size ≤ ·) v (halfN ls).1 ∧ Below w.heap.size w w' ∧ (halfN ls).1.length ≤ (halfN ls).2.1 ∧ (halfN ls).2.1 ≤ ls.length ∧ 0 ≤ beginN ls ∧ beginN ls ≤ 2147483648
def FF (w : World) (g4 g5 : Nat) (k : Nat) : Prop := w.heap.size ≤ k ∧ k ≠ g4 ∧ k ≠ g5
def but (F : Nat → Prop) (g : Nat) (k : Nat) : Prop := F k ∧ k ≠ g
structure SS (w : World) (F : Nat → Prop) (g4 g5 k : Nat) (acc : List (List UInt8)) (f : Int) (v : Value) (u : World) : Prop where
  res : Cs u g4 121 #[.slice none 0 0, .int .i64 0, .int .u32 0]
  var : Cs u g5 121 #[v, .int .i64 (k : Int), .int .u32 f]
  own : OwnR u w.heap.size F v acc
  below : Below w.heap.size w u
theorem SS.grow {w u u' : World} {F : Nat → Prop} {g4 g5 k : Nat} {acc : List (List UInt8)} {f : Int} {v : Value} (h : SS w F g4 g5 k acc f v u) (hb : Below u.heap.size u u') : SS w F g4 g5 k acc f v u' :=
  ⟨h.res.below hb h.res.lt, h.var.below hb h.var.lt, h.own.below hb, below_chain h.below hb⟩
theorem SS.kept (w : World) (F : Nat → Prop) (g4 g5 k : Nat) (acc : List (List UInt8)) (f : Int) (v : Value) : Kept (SS w F g4 g5 k acc f v) := fun u u' h hb => h.grow hb
theorem SS.mono {w u : World} {F G : Nat → Prop} {g4 g5 k : Nat} {acc : List (List UInt8)} {f : Int} {v : Value} (h : SS w F g4 g5 k acc f v u) (hF : ∀ k, k < u.heap.size → F k → G k) : SS w G g4 g5 k acc f v u :=
  ⟨h.res, h.var, h.own.mono hF, h.below⟩
theorem SS.but {w u : World} {F : Nat → Prop} {g4 g5 k : Nat} {acc : List (List UInt8)} {f : Int} {v : Value} (h : SS w F g4 g5 k acc f v u) {g : Nat} (hg : u.heap.size ≤ g) : SS w (but F g) g4 g5 k acc f v u := h.mono fun k hk hF => ⟨hF, by omega⟩
theorem SS.out {w u : World} {F : Nat → Prop} {g g4 g5 k : Nat} {acc : List (List UInt8)} {f : Int} {v : Value} (h : SS w (Go.Proofs.YtfgbpinfplllgaaGreatDoor.but F g) g4 g5 k acc f v u) : SS w F g4 g5 k acc f v u := h.mono fun k _ hF => hF.1
theorem SS.fill {w u u' : World} {F : Nat → Prop} {g g4 g5 k : Nat} {acc : List (List UInt8)} {f : Int} {v : Value} (h : SS w (Go.Proofs.YtfgbpinfplllgaaGreatDoor.but F g) g4 g5 k acc f v u) (ht : Turn u u' (· = g)) (h4 : g ≠ g4) (h5 : g ≠ g5) (hw : w.heap.size ≤ g) : SS w (Go.Proofs.YtfgbpinfplllgaaGreatDoor.but F g) g4 g5 k acc f v u' :=
  ⟨h.res.other ht (Ne.symm h4), h.var.other ht (Ne.symm h5), h.own.turn ht fun k hk e => hk.2 e, below_turn h.below ht h.below.size hw⟩
theorem SS.fresh {w u : World} {F : Nat → Prop} {g4 g5 k : Nat} {acc : List (List UInt8)} {f : Int} {v : Value} (h : SS w F g4 g5 k acc f v u) {q : Nat} (hq : u.heap.size ≤ q) : FF w g4 g5 q ∧ v.ownBlock ≠ some q :=
  ⟨⟨Nat.le_trans h.below.size hq, by have := h.res.lt; omega, by have := h.var.lt; omega⟩, fun e => by have := (h.own.lt q e).2; omega⟩
theorem readB_top : ∀ (ls : List (Option Lf)) (n : Int) (fst : Bool) (b : List UInt8) (c : Nat), readB n fst ls = some (b, c) → ∀ N, Small N ls → n + c - 1 < N
  | [], n, fst, b, c, h, N, hs => by rw [readB_nil] at h; cases h
  | none :: ls, n, fst, b, c, h, N, hs => by rw [readB_none] at h; cases h
  | some (m, last, d) :: ls, n, fst, b, c, h, N, hs => by
    rw [readB_some] at h
    split at h
    · rename_i hc
      split at h
      · cases h
        have := hs m last d List.mem_cons_self
        omega
      · cases hr : readB (n + 1) false ls with
        | none => rw [hr] at h; cases h
        | some p =>
          obtain ⟨pb, pc⟩ := p
          rw [hr] at h
          simp only [Option.map_some, Option.some.injEq, Prod.mk.injEq] at h
          obtain ⟨rfl, rfl⟩ := h
          have := readB_top ls (n + 1) false pb pc hr N hs.tail
          omega
    · cases h
theorem low_bds {s : DS} {base : Int} {n : Nat} {L : List (Option Lf)} {b : List UInt8} {c : Nat} (hl : LowS s) (hL : L = lvsV s base n) (hr : readB (headN L) true L = some (b, c)) : 0 < headN L ∧ headN L + c ≤ 2147483649 := by
  have hin : ∀ m l y, some (m, l, y) ∈ L → 0 < m ∧ m ≤ 2147483648 := fun m l y hm => by
    rw [hL] at hm
    simp only [lvsV, rmap, List.mem_map] at hm
    obtain ⟨i, _, he⟩ := hm
    exact hl _ m l y he
  have h2 := readB_top L _ _ _ _ hr 2147483649 fun m l y hm => by have := hin m l y hm; omega
  refine ⟨?_, by omega⟩
  rcases L with _ | ⟨_ | ⟨m, l, y⟩, L⟩
  · rw [readB_nil] at hr; cases hr
  · rw [readB_none] at hr; cases hr
  · exact (hin m l y List.mem_cons_self).1
theorem kept_bs (F : Nat → Prop) (x : Value) (b : List UInt8) : Kept fun u => BsV u F x b := fun u u' h hb => h.below hb
theorem WholeRet.is_none {ls : List (Option Lf)} {w w' : World} {e : Ending} (h : WholeRet ls w e w') (hn : readB (headN ls) true ls = none) : e = .returned (.tuple #[.agg #[.slice none 0 0, .int .u32 0, .int .i64 0], .bool false]) ∧ Below w.heap.size w w' := by
  unfold WholeRet at h
  rw [hn] at h
  exact ⟨h.2, h.1⟩
theorem WholeRet.is_some {ls : List (Option Lf)} {w w' : World} {e : Ending} {b : List UInt8} {c : Nat} {m : Int} (h : WholeRet ls w e w') (hn : readB (headN ls) true ls = some (b, c)) (hm : headN ls = m) : ∃ x, e = .returned (.tuple #[.agg #[x, .int .u32 m, .int .i64 (c : Int)], .bool true]) ∧ BsV w' (w.heap.size ≤ ·) x b ∧ Below w.heap.size w w' := by
  subst hm
  unfold WholeRet at h
  rw [hn] at h
  obtain ⟨hb, x, he, h1, _, h3, h4⟩ := h
  exact ⟨x, he, h1, hb⟩
theorem two_paths {X F : Value → Nat → World → Prop} {G : Prop} (h1 : (∀ v g w, F v g w → X v g w) → G) (hE : ∀ v g w, F v g w → X v g w) : G := h1 hE
theorem Cs.ownR {w w' : World} {g base : Nat} {t : TypeId} {cs : Array Value} {F : Nat → Prop} {v : Value} {ls : List (List UInt8)} (h : Cs w g t cs) (hg : w.grownBy w' v.ownBlock) (ho : OwnR w base F v ls) (ht : t ≠ 60) : Cs w' g t cs := by
  obtain ⟨⟨vs, h1, _⟩, _⟩ := ho
  exact h.own hg h1 ht
theorem below_ownR {B base : Nat} {w w1 w' : World} {F : Nat → Prop} {v : Value} {ls : List (List UInt8)} (hb : Below B w w1) (hg : w1.grownBy w' v.ownBlock) (ho : OwnR w1 base F v ls) (hB : B ≤ base) (hs : B ≤ w1.heap.size) : Below B w w' := by
  obtain ⟨⟨vs, h1, _⟩, _⟩ := ho
  exact below_own hb hg h1 hB hs
def usedOf (w : World) (g : Nat) : Nat := match w.cell? ⟨g, 1, none⟩ with | some (.int _ n) => n.toNat | _ => 0
theorem usedOf_is {w : World} {g k : Nat} {t : TypeId} {a b : Value} (h : Cs w g t #[a, .int .i64 (k : Int), b]) : usedOf w g = k := by
  unfold usedOf
  rw [h.cell 1 rfl]
  simp
theorem SS.ret {w u u' : World} {g4 g5 k : Nat} {acc : List (List UInt8)} {f e : Int} {v : Value} {ls : List (Option Lf)} (h : SS w (FF w g4 g5) g4 g5 k acc f v u) (hs : (halfN ls).1 = acc ∧ (halfN ls).2.1 = k ∧ beginN ls = f) (hi : SI ls k e acc f)
    (hk : Cs u' g4 121 #[v, .int .i64 (k : Int), .int .u32 f]) (ht : Turn u u' (· = g4)) (hg : w.heap.size ≤ g4) : StandRet ls w (.returned (.agg #[v, .int .i64 (k : Int), .int .u32 f])) u' := by
  obtain ⟨s1, s2, s3⟩ := hs
  have hh := hi.2.2.2.2.2.2
  refine ⟨v, by rw [s2, s3], ?_, below_turn h.below ht h.below.size hg, by rw [s1, s2]; exact hi.2.1, by rw [s2]; exact hi.1, begin_nonneg ls, ?_⟩
  · rw [s1]
    exact (h.own.turn ht fun k hk e => hk.2.1 e).mono fun k _ hk => hk.1
  · rw [s3]; exact hi.2.2.2.2.2.1.2
set_option maxHeartbeats 4000000 in
theorem standing_v {w : World} {d Hf : Nat} {s : DS} {F : Nat → Prop} (h : DiskV w d s F) (hlow : LowS s) (hH : s.blocks = 2 * Hf) (fr : Nat) (hfr : fr + Hf ≤ s.blocks) :
    Calls Tryz.prog 125 #[.pointer (some ⟨d, 0, none⟩), .int .i64 (fr : Int)] w fun e w' => StandRet (lvsV s fr Hf) w e w' := by
  have HD := hid h
  have HL := hid hlow
  have hblk := h.lo.2
  have HH := hid hH
  have hlen := lvsV_len s fr Hf
  have hdrop := fun k hk => lvsV_drop s fr Hf k hk
  have HFR := hid (show fr + Hf ≤ 16384 by omega)
  have hfr' : (fr : Int) + (Hf : Int) ≤ 16384 := by omega
  generalize lvsV s fr Hf = ls at *
  have HN := hid hlen
  have HDR := hid hdrop
  have hmix : Tryz.prog.follows .mixedOrders = true := by kernel_rfl
  clear h hlow hlen hdrop hfr hH hblk
  go_enter Tryz.func125, Tryz.ntmps125
  go_wp2_with (first
      | ((with_reducible show wpList _ _ _ _ _ w); refine wpList_allocS rfl 121 rfl _ zeroRow ?_; intro g4 u4 hk hb hg; go_frame; have K4 := hid hk; have B4 := hid hb; have G4 := hid hg; clear hk hb hg)
      | ((with_reducible show wpList _ _ _ _ _ u4); refine wpList_allocS rfl 121 rfl _ zeroRow ?_; intro g5 u5 hk hb hg; go_frame; have K5 := hid hk; have B5 := hid hb; have G5 := hid hg; clear hk hb hg))
  have HS0 := hid (show SS w (FF w g4 g5) g4 g5 0 [] 0 (.slice none 0 0) u5 from ⟨K4.out.below B5.out K4.out.lt, K5.out, OwnR.nil _ _ _, below_chain B4.out B5.out⟩)
  have HB5 := hid (show w.heap.size ≤ g5 from Nat.le_trans B4.out.size G5.out)
  have H45 := hid (show g4 ≠ g5 by have := K4.out.lt; have := G5.out; omega)
  clear K4 K5 B4 B5 G5
  go_loopw [6] (fun i wr => ∃ (k : Nat) (e : Int) (acc : List (List UInt8)) (f : Int) (v : Value), i = .int .u32 e ∧ SI ls k e acc f ∧ SS w (FF w g4 g5) g4 g5 k acc f v wr) (fun _ wr => Hf - usedOf wr g5)
  case atStart => exact ⟨0, 0, [], 0, _, rfl, SI.start ls, HS0.out⟩
  case round =>
    obtain ⟨k, e, acc, f, v, rfl, hsi, hss⟩ := hrel
    have HSI := hid hsi
    have HSS := hid hss
    clear hsi hss HS0
    have hkl : k ≤ Hf := by have := HSI.out.1; have := HN.out; omega
    have e0 : 0 ≤ e := HSI.out.2.2.1
    have e1 : e ≤ 2147483648 := HSI.out.2.2.2.1
    have c51 := HSS.out.var.cell 1 rfl
    have hwhole := fun u (hu : SS w (FF w g4 g5) g4 g5 k acc f v u) => wholeAt_v (HD.out.below hu.below) HL.out (fr + k) (fr + Hf) (by omega) HFR.out
    have hhalf := fun u (hu : SS w (FF w g4 g5) g4 g5 k acc f v u) => half_v (HD.out.below hu.below) HH.out
    have edrop : lvsV s ((fr + k : Nat) : Int) (fr + Hf - (fr + k)) = ls.drop k := by rw [HDR.out k hkl, show (fr : Int) + (k : Int) = ((fr + k : Nat) : Int) by omega, show fr + Hf - (fr + k) = Hf - k by omega]
    simp only [edrop] at hwhole
    rw [show ((fr + k : Nat) : Int) = (fr : Int) + (k : Int) by omega, show ((fr + Hf : Nat) : Int) = (fr : Int) + (Hf : Int) by omega] at hwhole
    have hKS : Kept (SS w (FF w g4 g5) g4 g5 k acc f v) := SS.kept w _ g4 g5 k acc f v
    have HUSED := hid (usedOf_is HSS.out.var)
    clear edrop
    rcases hcase : readB (headN (ls.drop k)) true (ls.drop k) with _ | ⟨b, c⟩
    · have HST := hid (HSI.out.stop (.inl hcase))
      go_wp2_with fail
      refine wp_region_V [14] (SS w (FF w g4 g5) g4 g5 k acc f v) hmix (HSS.out.grow (Below.refl _ _).drew) ?_
      change wpAnyV _ _ _ _ _ _ _ _ _
      refine wpW (i := 0) (v := .pointer (some ⟨d, 0, none⟩)) hKS rfl (DR fun w9 hS => by go_simp) ?_
      try simp only [getElem_toArray, getElem_cons_succ, getElem_cons_zero, Act.put, setIfInBounds_toArray, set_cons_succ, set_cons_zero]
      refine wpW (i := 1) (v := .int .i64 (fr : Int)) hKS rfl (DR fun w9 hS => by go_simp) ?_
      try simp only [getElem_toArray, getElem_cons_succ, getElem_cons_zero, Act.put, setIfInBounds_toArray, set_cons_succ, set_cons_zero]
      refine wpW (i := 2) (v := .pointer (some ⟨g5, 1, none⟩)) hKS rfl (DR fun w9 hS => by go_simp) ?_
      try simp only [getElem_toArray, getElem_cons_succ, getElem_cons_zero, Act.put, setIfInBounds_toArray, set_cons_succ, set_cons_zero]
      refine wpW (i := 3) (v := .int .i64 (k : Int)) hKS rfl (DR fun w9 hS => by have c51 := hS.var.cell 1 rfl; go_simp) ?_
      try simp only [getElem_toArray, getElem_cons_succ, getElem_cons_zero, Act.put, setIfInBounds_toArray, set_cons_succ, set_cons_zero]
      refine wpW (i := 4) (v := .int .i64 ((fr : Int) + (k : Int))) hKS rfl (DR fun w9 hS => by go_simp; simp (disch := omega) only [IntWalk.i64_in, IntWalk.u32_in, IntWalk.u64_in]) ?_
      try simp only [getElem_toArray, getElem_cons_succ, getElem_cons_zero, Act.put, setIfInBounds_toArray, set_cons_succ, set_cons_zero]
      refine wpW (i := 5) (v := .int .i64 (fr : Int)) hKS rfl (DR fun w9 hS => by go_simp) ?_
      try simp only [getElem_toArray, getElem_cons_succ, getElem_cons_zero, Act.put, setIfInBounds_toArray, set_cons_succ, set_cons_zero]
      refine wpW (i := 6) (v := .pointer (some ⟨d, 0, none⟩)) hKS rfl (DR fun w9 hS => by go_simp) ?_
      try simp only [getElem_toArray, getElem_cons_succ, getElem_cons_zero, Act.put, setIfInBounds_toArray, set_cons_succ, set_cons_zero]
      refine wpW (i := 7) (v := .int .i64 (Hf : Int)) hKS rfl (DoesV.calls 64 #[.pointer (some ⟨d, 0, none⟩)] (by rfl) (fun w9 hS => by go_simp) (fun w9 hS => (hhalf w9 hS).mono fun e w' h => ⟨h.1, h.2 ▸ Below.refl _ _⟩)) ?_
      try simp only [getElem_toArray, getElem_cons_succ, getElem_cons_zero, Act.put, setIfInBounds_toArray, set_cons_succ, set_cons_zero]
      refine wpW (i := 8) (v := .int .i64 ((fr : Int) + (Hf : Int))) hKS rfl (DR fun w9 hS => by go_simp; simp (disch := omega) only [IntWalk.i64_in, IntWalk.u32_in, IntWalk.u64_in]) ?_
      try simp only [getElem_toArray, getElem_cons_succ, getElem_cons_zero, Act.put, setIfInBounds_toArray, set_cons_succ, set_cons_zero]
      refine wpW (i := 9) (v := .tuple #[.agg #[.slice none 0 0, .int .u32 0, .int .i64 0], .bool false]) hKS rfl (DoesV.calls 154 #[.pointer (some ⟨d, 0, none⟩), .int .i64 ((fr : Int) + (k : Int)), .int .i64 ((fr : Int) + (Hf : Int))] (by rfl) (fun w9 hS => by go_simp) (fun w9 hS => (hwhole w9 hS).mono fun e w' h => h.is_none hcase)) ?_
      try simp only [getElem_toArray, getElem_cons_succ, getElem_cons_zero, Act.put, setIfInBounds_toArray, set_cons_succ, set_cons_zero]
      refine wpW (i := 10) (v := .tuple #[.agg #[.slice none 0 0, .int .u32 0, .int .i64 0], .bool false]) hKS rfl (DR fun w9 hS => by go_simp) ?_
      try simp only [getElem_toArray, getElem_cons_succ, getElem_cons_zero, Act.put, setIfInBounds_toArray, set_cons_succ, set_cons_zero]
      refine wpW (i := 11) (v := .agg #[.slice none 0 0, .int .u32 0, .int .i64 0]) hKS rfl (DR fun w9 hS => by go_simp) ?_
      try simp only [getElem_toArray, getElem_cons_succ, getElem_cons_zero, Act.put, setIfInBounds_toArray, set_cons_succ, set_cons_zero]
      refine wpAnyV_pure (i := 12) (v := .bool false) hKS rfl (by kernel_rfl) (by kernel_rfl) (fun _ _ _ h => h) (DR fun w9 hS => by go_simp) ?_
      try simp only [getElem_toArray, getElem_cons_succ, getElem_cons_zero, Act.put, setIfInBounds_toArray, set_cons_succ, set_cons_zero]
      refine wpAnyV_only (i := 13) rfl (by kernel_rfl) rfl (fun u13 hS13 => wp_allocS 230 rfl _ zeroBatch fun g7 u7' hk7 hb7 hg7 => ⟨fun u => SS w (but (FF w g4 g5) g7) g4 g5 k acc f v u ∧ Cs u g7 230 #[.slice none 0 0, .int .u32 0, .int .i64 0], ⟨(hS13.but hg7).grow hb7, hk7⟩, kept_and (SS.kept _ _ _ _ _ _ _ _) (kept_cs _ _ _), fun _ u h => h.1.out, ?_⟩)
      try simp only [getElem_toArray, getElem_cons_succ, getElem_cons_zero, Act.put, setIfInBounds_toArray, set_cons_succ, set_cons_zero]
      have h74 : g7 ≠ g4 := by have := hS13.res.lt; omega
      have h75 : g7 ≠ g5 := by have := hS13.var.lt; omega
      have hw7 : w.heap.size ≤ g7 := Nat.le_trans hS13.below.size hg7
      refine wpAnyV_only (i := 14) rfl (by kernel_rfl) rfl (fun u14 hS14 => wp_storeW 230 _ _ rfl g7 rfl [.slice none 0 0, .int .u32 0, .int .i64 0] _ rfl hS14.2 rfl (by simp [Value.oneCell']) infoBatch fun u15 hk15 ht15 => ⟨fun u => SS w (but (FF w g4 g5) g7) g4 g5 k acc f v u ∧ Cs u g7 230 #[.slice none 0 0, .int .u32 0, .int .i64 0], ⟨hS14.1.fill ht15 h74 h75 hw7, hk15⟩, kept_and (SS.kept _ _ _ _ _ _ _ _) (kept_cs _ _ _), fun h => absurd (by simp) h, ?_⟩)
      try simp only [getElem_toArray, getElem_cons_succ, getElem_cons_zero, Act.put, setIfInBounds_toArray, set_cons_succ, set_cons_zero]
      refine wpAnyV_pure (i := 15) (v := .bool false) (kept_and (SS.kept _ _ _ _ _ _ _ _) (kept_cs _ _ _)) rfl (by kernel_rfl) (by kernel_rfl) (fun _ _ _ h => h) (DR fun w9 hS => by go_simp) ?_
      try simp only [getElem_toArray, getElem_cons_succ, getElem_cons_zero, Act.put, setIfInBounds_toArray, set_cons_succ, set_cons_zero]
      refine wpAnyV_done (by kernel_rfl) (fun u16 hu => ?_) _
      have HU := hid hu
      clear hu
      go_wp2_with (first
          | ((with_reducible show wpList _ _ _ _ _ u16); refine wpList_loadS rfl 121 _ rfl g5 rfl [v, _, _] HU.out.1.var _ Tryz.underlying121 rfl infoRow ?_; go_frame)
          | ((with_reducible show wpList _ _ _ _ _ u16); refine wpList_storeS rfl 121 _ _ rfl g4 rfl [v, _, _] _ rfl HU.out.1.res rfl (one3 HU.out.1.own.one rfl rfl) infoRow ?_; intro x17 hk ht; go_frame; have K17 := hid hk; have T17 := hid ht; clear hk ht))
      exact bodyPost_ret (stand_end K17.out rfl) rfl (SS.ret HU.out.1.out HST.out HSI.out K17.out T17.out G4.out)
    · obtain ⟨m, hm⟩ : ∃ m, headN (ls.drop k) = m := ⟨_, rfl⟩
      have HBD := hid (show 0 < m ∧ m + (c : Int) ≤ 2147483649 from hm ▸ low_bds HL.out (HDR.out k hkl) hcase)
      have hwhole2 := fun u hu => (hwhole u hu).mono fun e w' h => h.is_some hcase hm
      have HST := hid (fun h => HSI.out.stop (.inr (show headN (ls.drop k) ≤ e by rw [hm]; exact h)))
      have HNX := hid (fun h => hm ▸ HSI.out.next hcase (show ¬ headN (ls.drop k) ≤ e by rw [hm]; exact h) (by rw [hm]; exact HBD.out.2))
      have m0 : 0 < m := HBD.out.1
      have mc : m + (c : Int) ≤ 2147483649 := HBD.out.2
      clear hwhole hcase hm
      go_wp2_with fail
      refine wp_region_V [14] (SS w (FF w g4 g5) g4 g5 k acc f v) hmix (HSS.out.grow (Below.refl _ _).drew) ?_
      change wpAnyV _ _ _ _ _ _ _ _ _
      refine wpW (i := 0) (v := .pointer (some ⟨d, 0, none⟩)) hKS rfl (DR fun w9 hS => by go_simp) ?_
      try simp only [getElem_toArray, getElem_cons_succ, getElem_cons_zero, Act.put, setIfInBounds_toArray, set_cons_succ, set_cons_zero]
      refine wpW (i := 1) (v := .int .i64 (fr : Int)) hKS rfl (DR fun w9 hS => by go_simp) ?_
      try simp only [getElem_toArray, getElem_cons_succ, getElem_cons_zero, Act.put, setIfInBounds_toArray, set_cons_succ, set_cons_zero]
      refine wpW (i := 2) (v := .pointer (some ⟨g5, 1, none⟩)) hKS rfl (DR fun w9 hS => by go_simp) ?_
      try simp only [getElem_toArray, getElem_cons_succ, getElem_cons_zero, Act.put, setIfInBounds_toArray, set_cons_succ, set_cons_zero]
      refine wpW (i := 3) (v := .int .i64 (k : Int)) hKS rfl (DR fun w9 hS => by have c51 := hS.var.cell 1 rfl; go_simp) ?_
      try simp only [getElem_toArray, getElem_cons_succ, getElem_cons_zero, Act.put, setIfInBounds_toArray, set_cons_succ, set_cons_zero]
      refine wpW (i := 4) (v := .int .i64 ((fr : Int) + (k : Int))) hKS rfl (DR fun w9 hS => by go_simp; simp (disch := omega) only [IntWalk.i64_in, IntWalk.u32_in, IntWalk.u64_in]) ?_
      try simp only [getElem_toArray, getElem_cons_succ, getElem_cons_zero, Act.put, setIfInBounds_toArray, set_cons_succ, set_cons_zero]
      refine wpW (i := 5) (v := .int .i64 (fr : Int)) hKS rfl (DR fun w9 hS => by go_simp) ?_
      try simp only [getElem_toArray, getElem_cons_succ, getElem_cons_zero, Act.put, setIfInBounds_toArray, set_cons_succ, set_cons_zero]
      refine wpW (i := 6) (v := .pointer (some ⟨d, 0, none⟩)) hKS rfl (DR fun w9 hS => by go_simp) ?_
      try simp only [getElem_toArray, getElem_cons_succ, getElem_cons_zero, Act.put, setIfInBounds_toArray, set_cons_succ, set_cons_zero]
      refine wpW (i := 7) (v := .int .i64 (Hf : Int)) hKS rfl (DoesV.calls 64 #[.pointer (some ⟨d, 0, none⟩)] (by rfl) (fun w9 hS => by go_simp) (fun w9 hS => (hhalf w9 hS).mono fun e w' h => ⟨h.1, h.2 ▸ Below.refl _ _⟩)) ?_
      try simp only [getElem_toArray, getElem_cons_succ, getElem_cons_zero, Act.put, setIfInBounds_toArray, set_cons_succ, set_cons_zero]
      refine wpW (i := 8) (v := .int .i64 ((fr : Int) + (Hf : Int))) hKS rfl (DR fun w9 hS => by go_simp; simp (disch := omega) only [IntWalk.i64_in, IntWalk.u32_in, IntWalk.u64_in]) ?_
      try simp only [getElem_toArray, getElem_cons_succ, getElem_cons_zero, Act.put, setIfInBounds_toArray, set_cons_succ, set_cons_zero]
      apply two_paths (F := fun x g7 u => SS w (but (FF w g4 g5) g7) g4 g5 k acc f v u ∧ Cs u g7 230 #[x, .int .u32 m, .int .i64 (c : Int)] ∧ BsV u (fun q => but (FF w g4 g5) g7 q ∧ v.ownBlock ≠ some q) x b ∧ g7 ≠ g4 ∧ g7 ≠ g5 ∧ w.heap.size ≤ g7)
      case h1 =>
        intro E
        refine wpAnyV_two (i := 9) (j := 13) rfl rfl (by kernel_rfl) rfl rfl (fun u9 hS9 => wp_of_call (by go_simp) (hwhole2 u9 hS9) fun e u10 ⟨x, he, hbx, hb9⟩ => ⟨_, he, fun u => SS w (FF w g4 g5) g4 g5 k acc f v u ∧ BsV u (fun q => FF w g4 g5 q ∧ v.ownBlock ≠ some q) x b, ⟨hS9.grow hb9, hbx.mono fun q _ hq => hS9.fresh hq⟩, kept_and (SS.kept _ _ _ _ _ _ _ _) (kept_bs _ _ _), fun _ u h => h.1, ?_⟩) (fun u13 hS13 => wp_allocS 230 rfl _ zeroBatch fun g7 u7' hk7 hb7 hg7 => ⟨fun u => SS w (but (FF w g4 g5) g7) g4 g5 k acc f v u ∧ Cs u g7 230 #[.slice none 0 0, .int .u32 0, .int .i64 0], ⟨(hS13.but hg7).grow hb7, hk7⟩, kept_and (SS.kept _ _ _ _ _ _ _ _) (kept_cs _ _ _), fun _ u h => h.1.out, ?_⟩)
        · try simp only [getElem_toArray, getElem_cons_succ, getElem_cons_zero, Act.put, setIfInBounds_toArray, set_cons_succ, set_cons_zero]
          refine wpW (i := 10) (v := .tuple #[.agg #[x, .int .u32 m, .int .i64 (c : Int)], .bool true]) (kept_and (SS.kept _ _ _ _ _ _ _ _) (kept_bs _ _ _)) rfl (DR fun w9 hS => by go_simp) ?_
          try simp only [getElem_toArray, getElem_cons_succ, getElem_cons_zero, Act.put, setIfInBounds_toArray, set_cons_succ, set_cons_zero]
          refine wpW (i := 11) (v := .agg #[x, .int .u32 m, .int .i64 (c : Int)]) (kept_and (SS.kept _ _ _ _ _ _ _ _) (kept_bs _ _ _)) rfl (DR fun w9 hS => by go_simp) ?_
          try simp only [getElem_toArray, getElem_cons_succ, getElem_cons_zero, Act.put, setIfInBounds_toArray, set_cons_succ, set_cons_zero]
          refine wpAnyV_pure (i := 12) (v := .bool true) (kept_and (SS.kept _ _ _ _ _ _ _ _) (kept_bs _ _ _)) rfl (by kernel_rfl) (by kernel_rfl) (fun _ _ _ h => h) (DR fun w9 hS => by go_simp) ?_
          try simp only [getElem_toArray, getElem_cons_succ, getElem_cons_zero, Act.put, setIfInBounds_toArray, set_cons_succ, set_cons_zero]
          refine wpAnyV_only (i := 13) rfl (by kernel_rfl) rfl (fun u13 hS13' => wp_allocS 230 rfl _ zeroBatch fun g7 u7' hk7 hb7 hg7 => ⟨fun u => (SS w (but (FF w g4 g5) g7) g4 g5 k acc f v u ∧ Cs u g7 230 #[.slice none 0 0, .int .u32 0, .int .i64 0]) ∧ BsV u (fun q => but (FF w g4 g5) g7 q ∧ v.ownBlock ≠ some q) x b, ⟨⟨(hS13'.1.but hg7).grow hb7, hk7⟩, (hS13'.2.mono fun q hlt hq => ⟨⟨hq.1, by omega⟩, hq.2⟩).below hb7⟩, kept_and (kept_and (SS.kept _ _ _ _ _ _ _ _) (kept_cs _ _ _)) (kept_bs _ _ _), fun _ u h => ⟨h.1.1.out, h.2.mono fun q _ hq => ⟨hq.1.1, hq.2⟩⟩, ?_⟩)
          try simp only [getElem_toArray, getElem_cons_succ, getElem_cons_zero, Act.put, setIfInBounds_toArray, set_cons_succ, set_cons_zero]
          have hS13 := hS13'.1
          have h74 : g7 ≠ g4 := by have := hS13.res.lt; omega
          have h75 : g7 ≠ g5 := by have := hS13.var.lt; omega
          have hw7 : w.heap.size ≤ g7 := Nat.le_trans hS13.below.size hg7
          refine wpAnyV_only (i := 14) rfl (by kernel_rfl) rfl (fun u14 hS14 => wp_storeW 230 _ _ rfl g7 rfl [x, .int .u32 m, .int .i64 (c : Int)] _ rfl hS14.1.2 rfl (one3 hS14.2.one rfl rfl) infoBatch fun u15 hk15 ht15 => ⟨fun u => (SS w (but (FF w g4 g5) g7) g4 g5 k acc f v u ∧ Cs u g7 230 #[x, .int .u32 m, .int .i64 (c : Int)]) ∧ BsV u (fun q => but (FF w g4 g5) g7 q ∧ v.ownBlock ≠ some q) x b, ⟨⟨hS14.1.1.fill ht15 h74 h75 hw7, hk15⟩, hS14.2.turn ht15 fun q hq e => hq.1.2 e⟩, kept_and (kept_and (SS.kept _ _ _ _ _ _ _ _) (kept_cs _ _ _)) (kept_bs _ _ _), fun h => absurd (by simp) h, ?_⟩)
          try simp only [getElem_toArray, getElem_cons_succ, getElem_cons_zero, Act.put, setIfInBounds_toArray, set_cons_succ, set_cons_zero]
          refine wpAnyV_pure (i := 15) (v := .bool true) (kept_and (kept_and (SS.kept _ _ _ _ _ _ _ _) (kept_cs _ _ _)) (kept_bs _ _ _)) rfl (by kernel_rfl) (by kernel_rfl) (fun _ _ _ h => h) (DR fun w9 hS => by go_simp) ?_
          try simp only [getElem_toArray, getElem_cons_succ, getElem_cons_zero, Act.put, setIfInBounds_toArray, set_cons_succ, set_cons_zero]
          refine wpAnyV_done (by kernel_rfl) (fun u16 hu => ?_) _
          exact E x g7 u16 ⟨hu.1.1, hu.1.2, hu.2, h74, h75, hw7⟩
        · try simp only [getElem_toArray, getElem_cons_succ, getElem_cons_zero, Act.put, setIfInBounds_toArray, set_cons_succ, set_cons_zero]
          have h74 : g7 ≠ g4 := by have := hS13.res.lt; omega
          have h75 : g7 ≠ g5 := by have := hS13.var.lt; omega
          have hw7 : w.heap.size ≤ g7 := Nat.le_trans hS13.below.size hg7
          refine wpAnyV_only (i := 9) rfl (by kernel_rfl) rfl (fun u9 hS9 => wp_of_call (by go_simp) (hwhole2 u9 hS9.1.out) fun e u10 ⟨x, he, hbx, hb9⟩ => ⟨_, he, fun u => (SS w (but (FF w g4 g5) g7) g4 g5 k acc f v u ∧ Cs u g7 230 #[.slice none 0 0, .int .u32 0, .int .i64 0]) ∧ BsV u (fun q => but (FF w g4 g5) g7 q ∧ v.ownBlock ≠ some q) x b, ⟨⟨hS9.1.grow hb9, hS9.2.below hb9 hS9.2.lt⟩, hbx.mono fun q _ hq => ⟨⟨(hS9.1.fresh hq).1, by have := hS9.2.lt; omega⟩, (hS9.1.fresh hq).2⟩⟩, kept_and (kept_and (SS.kept _ _ _ _ _ _ _ _) (kept_cs _ _ _)) (kept_bs _ _ _), fun _ u h => h.1, ?_⟩)
          try simp only [getElem_toArray, getElem_cons_succ, getElem_cons_zero, Act.put, setIfInBounds_toArray, set_cons_succ, set_cons_zero]
          refine wpW (i := 10) (v := .tuple #[.agg #[x, .int .u32 m, .int .i64 (c : Int)], .bool true]) (kept_and (kept_and (SS.kept _ _ _ _ _ _ _ _) (kept_cs _ _ _)) (kept_bs _ _ _)) rfl (DR fun w9 hS => by go_simp) ?_
          try simp only [getElem_toArray, getElem_cons_succ, getElem_cons_zero, Act.put, setIfInBounds_toArray, set_cons_succ, set_cons_zero]
          refine wpW (i := 11) (v := .agg #[x, .int .u32 m, .int .i64 (c : Int)]) (kept_and (kept_and (SS.kept _ _ _ _ _ _ _ _) (kept_cs _ _ _)) (kept_bs _ _ _)) rfl (DR fun w9 hS => by go_simp) ?_
          try simp only [getElem_toArray, getElem_cons_succ, getElem_cons_zero, Act.put, setIfInBounds_toArray, set_cons_succ, set_cons_zero]
          refine wpAnyV_pure (i := 12) (v := .bool true) (kept_and (kept_and (SS.kept _ _ _ _ _ _ _ _) (kept_cs _ _ _)) (kept_bs _ _ _)) rfl (by kernel_rfl) (by kernel_rfl) (fun _ _ _ h => h) (DR fun w9 hS => by go_simp) ?_
          try simp only [getElem_toArray, getElem_cons_succ, getElem_cons_zero, Act.put, setIfInBounds_toArray, set_cons_succ, set_cons_zero]
          refine wpAnyV_only (i := 14) rfl (by kernel_rfl) rfl (fun u14 hS14 => wp_storeW 230 _ _ rfl g7 rfl [x, .int .u32 m, .int .i64 (c : Int)] _ rfl hS14.1.2 rfl (one3 hS14.2.one rfl rfl) infoBatch fun u15 hk15 ht15 => ⟨fun u => (SS w (but (FF w g4 g5) g7) g4 g5 k acc f v u ∧ Cs u g7 230 #[x, .int .u32 m, .int .i64 (c : Int)]) ∧ BsV u (fun q => but (FF w g4 g5) g7 q ∧ v.ownBlock ≠ some q) x b, ⟨⟨hS14.1.1.fill ht15 h74 h75 hw7, hk15⟩, hS14.2.turn ht15 fun q hq e => hq.1.2 e⟩, kept_and (kept_and (SS.kept _ _ _ _ _ _ _ _) (kept_cs _ _ _)) (kept_bs _ _ _), fun h => absurd (by simp) h, ?_⟩)
          try simp only [getElem_toArray, getElem_cons_succ, getElem_cons_zero, Act.put, setIfInBounds_toArray, set_cons_succ, set_cons_zero]
          refine wpAnyV_pure (i := 15) (v := .bool true) (kept_and (kept_and (SS.kept _ _ _ _ _ _ _ _) (kept_cs _ _ _)) (kept_bs _ _ _)) rfl (by kernel_rfl) (by kernel_rfl) (fun _ _ _ h => h) (DR fun w9 hS => by go_simp) ?_
          try simp only [getElem_toArray, getElem_cons_succ, getElem_cons_zero, Act.put, setIfInBounds_toArray, set_cons_succ, set_cons_zero]
          refine wpAnyV_done (by kernel_rfl) (fun u16 hu => ?_) _
          exact E x g7 u16 ⟨hu.1.1, hu.1.2, hu.2, h74, h75, hw7⟩
      case hE =>
        rintro x g7 u ⟨hss, hk7, ⟨xA, xc, rfl, hxr⟩, h74, h75, hw7⟩
        have hx : BsV u (fun q => but (FF w g4 g5) g7 q ∧ v.ownBlock ≠ some q) (.slice xA b.length xc) b := ⟨xA, xc, rfl, hxr⟩
        clear hxr
        have HU := hid hss
        have K7 := hid hk7
        have HX := hid hx
        have H74 := hid h74
        have H75 := hid h75
        have HW7 := hid hw7
        have l70 := hk7.cell 0 rfl
        have l71 := hk7.cell 1 rfl
        have l72 := hk7.cell 2 rfl
        have l50 := hss.var.cell 0 rfl
        have l51 := hss.var.cell 1 rfl
        have l52 := hss.var.cell 2 rfl
        clear hss hk7 hx h74 h75 hw7
        by_cases hme : m ≤ e
        · have HST2 := hid (HST.out hme)
          go_wp2_with (first
              | ((with_reducible show wpList _ _ _ _ _ u); refine wpList_loadS rfl 121 _ rfl g5 rfl [v, _, _] HU.out.var _ Tryz.underlying121 rfl infoRow ?_; go_frame)
              | ((with_reducible show wpList _ _ _ _ _ u); refine wpList_storeS rfl 121 _ _ rfl g4 rfl [v, _, _] _ rfl HU.out.res rfl (one3 HU.out.own.one rfl rfl) infoRow ?_; intro x17 hk ht; go_frame; have K17 := hid hk; have T17 := hid ht; clear hk ht))
          exact bodyPost_ret (stand_end K17.out rfl) rfl (SS.ret HU.out.out HST2.out HSI.out K17.out T17.out G4.out)
        have HN2 := hid (HNX.out (by omega))
        have hme' : e < m := by omega
        have hme2 : decide (m ≤ e) = false := by simp; omega
        clear hme
        by_cases hf : f = 0
        · have HN3 := hid (show SI ls (k + c) (m + (c : Int) - 1) (acc ++ [b]) m by have := HN2.out.1; rwa [if_pos hf] at this)
          have hfe : (f == 0) = true := by simp [hf]
          have HF := hid hf
          clear hf
          have ck : (k : Int) + (c : Int) ≤ 16384 := by have := HN2.out.2.2; have := HN.out; omega
          go_wp2_with (first
              | ((with_reducible show wpList _ _ _ _ _ u); refine wpList_store1 rfl 44 _ _ rfl g5 2 rfl (.int .u32 m) rfl rfl (by kernel_rfl) 121 _ HU.out.var (by simp) ?_; intro y17 hk ht; go_frame; have HV := hid hk; have T17 := hid ht; clear hk ht; have HR := hid (HU.out.res.other T17.out H45.out); have K7b := hid (K7.out.other T17.out H75.out); have HO := hid (HU.out.own.turn T17.out fun q hq e => hq.1.2.2 e); have HX2 := hid (HX.out.turn T17.out fun q hq e => hq.1.1.2.2 e); have BE := hid (below_turn HU.out.below T17.out HU.out.below.size HB5.out); have l70 := K7b.out.cell 0 rfl; have l50 := HV.out.cell 0 rfl)
              | (at_builtin; refine wpList_append_b1 rfl _ _ rfl w.heap.size (but (FF w g4 g5) g7) v acc rfl (HO.out.below ((Below.refl y17.heap.size y17).alloc (Nat.le_refl _) _)) y17.heap.size 1 rfl (.slice xA b.length xc) b (HX2.out.below ((Below.refl y17.heap.size y17).alloc (Nat.le_refl _) _)) ((Cs.new y17 60 #[.slice xA b.length xc]).cell 0 rfl) (by have := HSI.out.2.1; omega) (by have := BE.out.size; simp; omega) ⟨⟨by have := BE.out.size; simp; omega, by have := HR.out.lt; simp; omega, by have := HV.out.lt; simp; omega⟩, by have := K7b.out.lt; simp; omega⟩ ?_; intro v2 y18 hown hg; go_frame; have HO3 := hid hown; have HV3 := hid ((HV.out.alloc _).ownR hg (HO.out.below ((Below.refl y17.heap.size y17).alloc (Nat.le_refl _) _)) (by decide)); have HR3 := hid ((HR.out.alloc _).ownR hg (HO.out.below ((Below.refl y17.heap.size y17).alloc (Nat.le_refl _) _)) (by decide)); have K73 := hid ((K7b.out.alloc _).ownR hg (HO.out.below ((Below.refl y17.heap.size y17).alloc (Nat.le_refl _) _)) (by decide)); have BE3 := hid (below_ownR (below_chain BE.out ((Below.refl y17.heap.size y17).alloc (Nat.le_refl _) _)) hg (HO.out.below ((Below.refl y17.heap.size y17).alloc (Nat.le_refl _) _)) (Nat.le_refl _) (below_chain BE.out ((Below.refl y17.heap.size y17).alloc (Nat.le_refl _) _)).size); clear hown hg)
              | ((with_reducible show wpList _ _ _ _ _ y18); refine wpList_store1 rfl 53 _ _ rfl g5 0 rfl v2 rfl HO3.out.one (by kernel_rfl) 121 _ HV3.out (by simp) ?_; intro y19 hk ht; go_frame; have HV4 := hid hk; have T19 := hid ht; clear hk ht; have HR4 := hid (HR3.out.other T19.out H45.out); have K74 := hid (K73.out.other T19.out H75.out); have HO4 := hid (HO3.out.turn T19.out fun q hq e => hq.1.2.2 e); have BE4 := hid (below_turn BE3.out T19.out BE3.out.size HB5.out); have l51 := HV4.out.cell 1 rfl; have l72 := K74.out.cell 2 rfl)
              | ((with_reducible show wpList _ _ _ _ _ y19); refine wpList_store1 rfl 3 _ _ rfl g5 1 rfl (.int .i64 ((k : Int) + (c : Int))) rfl rfl (by kernel_rfl) 121 _ HV4.out (by simp) ?_; intro y20 hk ht; go_frame; have HV5 := hid hk; have T20 := hid ht; clear hk ht; have HR5 := hid (HR4.out.other T20.out H45.out); have K75 := hid (K74.out.other T20.out H75.out); have HO5 := hid (HO4.out.turn T20.out fun q hq e => hq.1.2.2 e); have BE5 := hid (below_turn BE4.out T20.out BE4.out.size HB5.out); have l71 := K75.out.cell 1 rfl; have l72 := K75.out.cell 2 rfl))
          have hvar : Cs y20 g5 121 #[v2, .int .i64 ((k + c : Nat) : Int), .int .u32 m] := by have := HV5.out; simpa using this
          go_roundw
          case rel => exact ⟨k + c, m + (c : Int) - 1, acc ++ [b], m, v2, (by first | rfl | go_num), (by have := HN3.out; exact this), ⟨HR5.out, hvar, HO5.out.mono fun q _ hq => hq.1, BE5.out⟩⟩
          case measure => have h1 := usedOf_is hvar; have h2 := HUSED.out; have h3 := HN2.out.2.1; have h4 := HN2.out.2.2; have h5 := HN.out; rw [h1, h2]; omega
        · have HN3 := hid (show SI ls (k + c) (m + (c : Int) - 1) (acc ++ [b]) f by have := HN2.out.1; rwa [if_neg hf] at this)
          have hfe : (f == 0) = false := by simpa using hf
          have HF := hid hf
          clear hf
          have ck : (k : Int) + (c : Int) ≤ 16384 := by have := HN2.out.2.2; have := HN.out; omega
          have HV := hid HU.out.var
          have HR := hid HU.out.res
          have K7b := K7
          have HO := hid HU.out.own
          have HX2 := HX
          have BE := hid HU.out.below
          go_wp2_with (first
              | (at_builtin; refine wpList_append_b1 rfl _ _ rfl w.heap.size (but (FF w g4 g5) g7) v acc rfl (HO.out.below ((Below.refl u.heap.size u).alloc (Nat.le_refl _) _)) u.heap.size 1 rfl (.slice xA b.length xc) b (HX2.out.below ((Below.refl u.heap.size u).alloc (Nat.le_refl _) _)) ((Cs.new u 60 #[.slice xA b.length xc]).cell 0 rfl) (by have := HSI.out.2.1; omega) (by have := BE.out.size; simp; omega) ⟨⟨by have := BE.out.size; simp; omega, by have := HR.out.lt; simp; omega, by have := HV.out.lt; simp; omega⟩, by have := K7b.out.lt; simp; omega⟩ ?_; intro v2 y18 hown hg; go_frame; have HO3 := hid hown; have HV3 := hid ((HV.out.alloc _).ownR hg (HO.out.below ((Below.refl u.heap.size u).alloc (Nat.le_refl _) _)) (by decide)); have HR3 := hid ((HR.out.alloc _).ownR hg (HO.out.below ((Below.refl u.heap.size u).alloc (Nat.le_refl _) _)) (by decide)); have K73 := hid ((K7b.out.alloc _).ownR hg (HO.out.below ((Below.refl u.heap.size u).alloc (Nat.le_refl _) _)) (by decide)); have BE3 := hid (below_ownR (below_chain BE.out ((Below.refl u.heap.size u).alloc (Nat.le_refl _) _)) hg (HO.out.below ((Below.refl u.heap.size u).alloc (Nat.le_refl _) _)) (Nat.le_refl _) (below_chain BE.out ((Below.refl u.heap.size u).alloc (Nat.le_refl _) _)).size); clear hown hg)
              | ((with_reducible show wpList _ _ _ _ _ y18); refine wpList_store1 rfl 53 _ _ rfl g5 0 rfl v2 rfl HO3.out.one (by kernel_rfl) 121 _ HV3.out (by simp) ?_; intro y19 hk ht; go_frame; have HV4 := hid hk; have T19 := hid ht; clear hk ht; have HR4 := hid (HR3.out.other T19.out H45.out); have K74 := hid (K73.out.other T19.out H75.out); have HO4 := hid (HO3.out.turn T19.out fun q hq e => hq.1.2.2 e); have BE4 := hid (below_turn BE3.out T19.out BE3.out.size HB5.out); have l51 := HV4.out.cell 1 rfl; have l72 := K74.out.cell 2 rfl)
              | ((with_reducible show wpList _ _ _ _ _ y19); refine wpList_store1 rfl 3 _ _ rfl g5 1 rfl (.int .i64 ((k : Int) + (c : Int))) rfl rfl (by kernel_rfl) 121 _ HV4.out (by simp) ?_; intro y20 hk ht; go_frame; have HV5 := hid hk; have T20 := hid ht; clear hk ht; have HR5 := hid (HR4.out.other T20.out H45.out); have K75 := hid (K74.out.other T20.out H75.out); have HO5 := hid (HO4.out.turn T20.out fun q hq e => hq.1.2.2 e); have BE5 := hid (below_turn BE4.out T20.out BE4.out.size HB5.out); have l71 := K75.out.cell 1 rfl; have l72 := K75.out.cell 2 rfl))
          have hvar : Cs y20 g5 121 #[v2, .int .i64 ((k + c : Nat) : Int), .int .u32 f] := by have := HV5.out; simpa using this
          go_roundw
          case rel => exact ⟨k + c, m + (c : Int) - 1, acc ++ [b], f, v2, (by first | rfl | go_num), (by have := HN3.out; exact this), ⟨HR5.out, hvar, HO5.out.mono fun q _ hq => hq.1, BE5.out⟩⟩
          case measure => have h1 := usedOf_is hvar; have h2 := HUSED.out; have h3 := HN2.out.2.1; have h4 := HN2.out.2.2; have h5 := HN.out; rw [h1, h2]; omega
end Go.Proofs.YtfgbpinfplllgaaGreatDoor
namespace Go.Proofs.YtfgbpinfplllgaaGreatDoor
open Go.RowKit Go.Shelf
set_option maxRecDepth 100000
def nextToV (s : DS) : Nat → Int
  | 0 => 0
  | k + 1 => max (nextToV s k) (greatest (readV s (k : Int)))
theorem nextToV_succ (s : DS) (k : Nat) : nextToV s (k + 1) = max (nextToV s k) (greatest (readV s (k : Int))) := rfl
theorem nextToV_bd (s : DS) : ∀ k, 0 ≤ nextToV s k ∧ nextToV s k < 4294967296
  | 0 => ⟨Int.le_refl _, by show (0 : Int) < _; decide⟩
  | k + 1 => by
    have h1 := nextToV_bd s k
    have h2 := greatest_bd (readV s (k : Int))
    rw [nextToV_succ]
    omega
set_option maxHeartbeats 1000000 in
theorem nextNumber_v {w : World} {d : Nat} {s : DS} {F : Nat → Prop} (h : DiskV w d s F) : Calls Tryz.prog 62 #[.pointer (some ⟨d, 0, none⟩)] w fun e w' => e = .returned (.int .u64 (nextToV s s.blocks + 1)) ∧ Below w.heap.size w w' := by
  have HD := hid h
  have hblk := Blocks_v h
  have hbd := h.lo.2
  obtain ⟨n, hn⟩ : ∃ n, s.blocks = n := ⟨_, rfl⟩
  rw [hn] at hblk hbd ⊢
  clear h
  go_enter Tryz.func62, Tryz.ntmps62
  go_wp2_with fail
  refine hblk.mono ?_
  clear hblk
  rintro e _ ⟨rfl, rfl⟩
  go_wp2_with fail
  go_loopw [3, 9] (fun m c wr => ∃ k : Nat, k ≤ n ∧ c = .int .i64 k ∧ m = .int .u32 (nextToV s k) ∧ Below w.heap.size w wr) (fun _ c _ => n - (intOf c).toNat)
  case atStart => exact ⟨0, Nat.zero_le _, rfl, rfl, Below.refl _ _⟩
  case round =>
    obtain ⟨k, hk, rfl, rfl, hB⟩ := hrel
    have HB := hid hB
    have hm := nextToV_bd s k
    obtain ⟨m0, m1⟩ := hm
    by_cases hlt : k < n
    · have hlt' : (k : Int) < (n : Int) := by omega
      have hread := Read_v (HD.out.below hB) (k : Int)
      have hlen := readV_len HD.out (k : Int)
      have hsucc := nextToV_succ s k
      have hgr := fun W => Greatest_any (readV s (k : Int)) hlen W
      have hmx := Int.max_def (nextToV s k) (greatest (readV s (k : Int)))
      have hgb := greatest_bd (readV s (k : Int))
      generalize greatest (readV s (k : Int)) = gr at *
      generalize readV s (k : Int) = x at *
      obtain ⟨g0, g1⟩ := hgb
      have HS := hid hsucc
      have HX := hid hlen
      have HM := hid hmx
      have HL := hid hlt
      clear hlt hk hsucc hlen hB hmx
      generalize nextToV s k = m at *
      go_wp2_with fail
      refine hread.mono ?_
      clear hread
      rintro e w2 ⟨rfl, hb⟩
      have HB2 := hid (below_chain HB.out hb)
      clear hb
      go_wp2_with (first
        | (refine wpList_alloc_blk rfl rfl ?_; intro gb x3 hk hb hg; go_frame; have KA := hid hk; have BA := hid hb; have GA := hid hg; clear hk hb hg)
        | (refine wpList_fill_blk rfl (.tmp 5) _ rfl gb rfl x rfl HX.out KA.out ?_; intro x4 hk hr; go_frame; have KF := hid hk; have BF := hid (keep_own BA.out hr GA.out); clear hk hr)
        | (refine wpList_load_blk rfl (.tmp 5) rfl gb 0 rfl x HX.out (At.whole KF.out) ?_; go_frame))
      have HB3 := hid (below_chain HB2.out BF.out)
      refine (hgr _).mono ?_
      clear hgr
      rintro e w5 ⟨rfl, hb⟩
      have HB4 := hid (below_chain HB3.out hb)
      clear hb
      go_wp2_with fail
      go_roundw
      case rel => exact ⟨k + 1, HL.out, by go_num, by rw [HS.out, HM.out], HB4.out⟩
      case measure => have := HL.out; simp [intOf]; omega
    · obtain rfl : k = n := by omega
      go_wp2_with fail
      go_ret
      exact ⟨rfl, HB.out⟩
end Go.Proofs.YtfgbpinfplllgaaGreatDoor
namespace Go.Proofs.YtfgbpinfplllgaaGreatDoor
open Go.RowKit Go.Shelf
set_option maxRecDepth 100000
structure JS where
  frm : Nat
  batches : List (List UInt8)
  used : Nat
  first : Int
  next : Int
def jcells (d : Nat) (v : Value) (j : JS) : List Value := [.pointer (some ⟨d, 0, none⟩), .int .i64 (j.frm : Int), v, .int .i64 (j.used : Int), .int .u32 j.first, .int .u64 j.next]
structure JAt (w : World) (jb d : Nat) (v : Value) (j : JS) (F : Nat → Prop) : Prop where
  cells : Cs w jb 123 (jcells d v j).toArray
  own : OwnR w 0 F v j.batches
  out : ¬ F jb
  few : j.batches.length ≤ j.used ∧ j.used ≤ 8192 ∧ j.frm ≤ 8192
  nums : 0 ≤ j.first ∧ j.first ≤ 2147483648 ∧ 0 < j.next ∧ j.next ≤ 2147483649
def openJ (s : DS) (Hf : Nat) : JS :=
  if secondN (lvsV s 0 Hf) (lvsV s (Hf : Int) Hf) then ⟨Hf, (halfN (lvsV s (Hf : Int) Hf)).1, (halfN (lvsV s (Hf : Int) Hf)).2.1, beginN (lvsV s (Hf : Int) Hf), nextToV s s.blocks + 1⟩
  else ⟨0, (halfN (lvsV s 0 Hf)).1, (halfN (lvsV s 0 Hf)).2.1, beginN (lvsV s 0 Hf), nextToV s s.blocks + 1⟩
def OpenP (d Hf : Nat) (ba : List (List UInt8)) (ua : Nat) (fa : Int) (bb : List (List UInt8)) (ub : Nat) (fb nx : Int) (w : World) (e : Ending) (w' : World) : Prop := Below w.heap.size w w' ∧
  if (if decide (fa < fb) then (⟨Hf, bb, ub, fb, nx⟩ : JS) else ⟨0, ba, ua, fa, nx⟩).first = 0 then e = .returned (.tuple #[.pointer none, .int .i64 5]) else ∃ jb v, e = .returned (.tuple #[.pointer (some ⟨jb, 0, none⟩), .int .i64 0]) ∧ w.heap.size ≤ jb ∧ JAt w' jb d v (if decide (fa < fb) then (⟨Hf, bb, ub, fb, nx⟩ : JS) else ⟨0, ba, ua, fa, nx⟩) (fun k => w.heap.size ≤ k ∧ k < w'.heap.size ∧ k ≠ jb)
def OpenRet (s : DS) (Hf d : Nat) (w : World) (e : Ending) (w' : World) : Prop := Below w.heap.size w w' ∧
  if (openJ s Hf).first = 0 then e = .returned (.tuple #[.pointer none, .int .i64 5]) else ∃ jb v, e = .returned (.tuple #[.pointer (some ⟨jb, 0, none⟩), .int .i64 0]) ∧ w.heap.size ≤ jb ∧ JAt w' jb d v (openJ s Hf) (fun k => w.heap.size ≤ k ∧ k < w'.heap.size ∧ k ≠ jb)
theorem openRet_p (s : DS) (Hf d : Nat) (w : World) : OpenRet s Hf d w = OpenP d Hf (halfN (lvsV s 0 Hf)).1 (halfN (lvsV s 0 Hf)).2.1 (beginN (lvsV s 0 Hf)) (halfN (lvsV s (Hf : Int) Hf)).1 (halfN (lvsV s (Hf : Int) Hf)).2.1 (beginN (lvsV s (Hf : Int) Hf)) (nextToV s s.blocks + 1) w := rfl
theorem nextToV_ge (s : DS) : ∀ (k i : Nat), i < k → greatest (readV s (i : Int)) ≤ nextToV s k
  | 0, i, h => by omega
  | k + 1, i, h => by
    rw [nextToV_succ]
    by_cases e : i = k
    · subst e; exact Int.le_max_right _ _
    · exact Int.le_trans (nextToV_ge s k i (by omega)) (Int.le_max_left _ _)
theorem getE_tag {x : Blk} (h : getE x = 0) : 0 < tag x 0 ∧ tag x 0 ≤ greatest x := by
  cases hf : formed x with
  | false => rw [getE_bad hf] at h; cases h
  | true =>
    have h1 := formed_of hf
    have h2 := tag_bd x 0
    omega
theorem low_of_next {s : DS} (h : nextToV s s.blocks + 1 ≤ 2147483649) : LowS s := fun p m l b hl => by
  obtain ⟨hg, rfl⟩ := leaf_num hl
  obtain ⟨h1, h2⟩ := getE_tag hg
  refine ⟨h1, ?_⟩
  by_cases hin : inB s p = true
  · have hp : 0 ≤ p ∧ p < (s.blocks : Int) := by simpa [inB] using hin
    obtain ⟨i, rfl⟩ := Int.eq_ofNat_of_zero_le hp.1
    have := nextToV_ge s s.blocks i (by omega)
    omega
  · exfalso
    have : readV s p = zb := by
      unfold readV
      rw [if_neg (by simp [hin])]
    rw [this, leaf_zb] at hl
    cases hl
theorem ownR_base {w : World} {B B' : Nat} {F : Nat → Prop} {v : Value} {ls : List (List UInt8)} (h : OwnR w B F v ls) (hb : B' ≤ B) : OwnR w B' F v ls := by
  obtain ⟨⟨vs, h1, h2⟩, h3⟩ := h
  refine ⟨⟨vs, ⟨h1.1, ?_⟩, h2⟩, h3⟩
  rcases h1.2 with h | ⟨g, cap, cur, hv, hg, r⟩
  · exact .inl h
  · exact .inr ⟨g, cap, cur, hv, Nat.le_trans hb hg, r⟩
theorem beginN_zero {ls : List (Option Lf)} : beginN ls = 0 ↔ (halfN ls).1 = [] := ⟨begin_zero, fun h => by unfold beginN; rw [if_pos h]⟩
set_option maxHeartbeats 4000000 in
theorem Open_v {w : World} {d Hf : Nat} {s : DS} {F : Nat → Prop} (h : DiskV w d s F) (hdk : s.dark = false) (hH : s.blocks = 2 * Hf) (hnx : nextToV s s.blocks + 1 ≤ 2147483649) :
    Calls Tryz.prog 87 #[.pointer (some ⟨d, 0, none⟩)] w fun e w' => OpenRet s Hf d w e w' := by
  have hlow := low_of_next hnx
  have hsa := fun W (hb : Below w.heap.size w W) => standing_v (h.below hb) hlow hH 0 (by omega)
  have hsb := fun W (hb : Below w.heap.size w W) => standing_v (h.below hb) hlow hH Hf (by omega)
  have hnn := fun W (hb : Below w.heap.size w W) => nextNumber_v (h.below hb)
  have hhf := fun W (hb : Below w.heap.size w W) => half_v (h.below hb) hH
  have hrf := refusedJ_v h
  rw [hdk] at hrf
  have hnb := (nextToV_bd s s.blocks).1
  have hH2 : Hf ≤ 8192 := by have := h.lo.2; omega
  have hla := lvsV_len s 0 Hf
  have hlb := lvsV_len s (Hf : Int) Hf
  rw [openRet_p]
  unfold StandRet at hsa hsb
  rw [show ((0 : Nat) : Int) = 0 from rfl] at hsa
  generalize hnxe : nextToV s s.blocks + 1 = nx at *
  generalize lvsV s 0 Hf = la at *
  generalize lvsV s (Hf : Int) Hf = lb at *
  generalize hba : (halfN la).1 = ba at *
  generalize hua : (halfN la).2.1 = ua at *
  generalize hfa : beginN la = fa at *
  generalize hbb : (halfN lb).1 = bb at *
  generalize hub : (halfN lb).2.1 = ub at *
  generalize hfb : beginN lb = fb at *
  rw [hla] at hsa
  rw [hlb] at hsb
  have HH2 := hid hH2
  have nx0 : 0 < nx := by omega
  have hmix : Tryz.prog.follows .mixedOrders = true := by kernel_rfl
  clear hla hlb hlow hnb hnxe h hH hdk hba hua hfa hbb hub hfb la lb
  go_enter Tryz.func87, Tryz.ntmps87
  go_wp2_with fail
  refine hrf.mono ?_
  clear hrf
  rintro e _ ⟨rfl, rfl⟩
  go_wp2_with fail
  refine (hsa _ (Below.refl _ _)).mono ?_
  clear hsa
  rintro e w1 ⟨va, rfl, hoa, hb1, hfa⟩
  have OA := hid hoa
  have B1 := hid hb1
  have FA := hid hfa
  clear hoa hb1 hfa
  go_wp2_with fail
  refine (hnn _ B1.out).mono ?_
  clear hnn
  rintro e w2 ⟨rfl, hb2⟩
  have OA2 := hid (OA.out.below hb2)
  have B2 := hid (below_chain B1.out hb2)
  clear hb2 OA B1
  go_wp2_with (first
      | ((with_reducible show wpList _ _ _ _ _ w2); refine wpList_boxS rfl 123 _ rfl [.pointer (some ⟨d, 0, none⟩), .int .i64 0, va, .int .i64 (ua : Int), .int .u32 fa, .int .u64 nx] rfl ?_; intro jb w3 hk hb hg; go_frame; have KJ := hid hk; have B3 := hid hb; have GJ := hid hg; clear hk hb hg))
  have B4 := hid (below_chain B2.out B3.out)
  have OA3 := hid (OA2.out.below B3.out)
  have HJB := hid (show w.heap.size ≤ jb from Nat.le_trans B2.out.size GJ.out)
  have OA4 := hid ((OA2.out.mono (G := fun k => w.heap.size ≤ k ∧ k ≠ jb) fun k hk h => ⟨h, by have := GJ.out; omega⟩).below B3.out)
  clear B2 B3 OA2 OA3
  refine (hhf _ B4.out).mono ?_
  rintro e _ ⟨rfl, rfl⟩
  go_wp2_with fail
  refine (hsb _ B4.out).mono ?_
  clear hsb
  rintro e w5 ⟨vb, rfl, hob, hb5, hfb⟩
  have OB := hid ((hob.mono (G := fun k => w.heap.size ≤ k ∧ k ≠ jb) fun k hk h => ⟨Nat.le_trans B4.out.size h, by have := KJ.out.lt; omega⟩))
  have B5 := hid (below_chain B4.out hb5)
  have FB := hid hfb
  have KJ5 := hid (KJ.out.below hb5 KJ.out.lt)
  have OA5 := hid (OA4.out.below hb5)
  have OBB := hid (ownR_base OB.out (Nat.zero_le _))
  have OAA := hid (ownR_base OA5.out (Nat.zero_le _))
  clear hob hb5 hfb KJ OA4 B4 OB OA5
  go_wp2_with (first
      | ((with_reducible show wpList _ _ _ _ _ w5); refine wpList_allocS rfl 121 rfl _ zeroRow ?_; intro g6 w6 hk hb hg; go_frame; have K6 := hid hk; have B6 := hid hb; have G6 := hid hg; clear hk hb hg)
      | ((with_reducible show wpList _ _ _ _ _ w6); refine wpList_storeS rfl 121 _ _ rfl g6 rfl [vb, .int .i64 (ub : Int), .int .u32 fb] _ rfl K6.out rfl (one3 OBB.out.one rfl rfl) infoRow ?_; intro w7 hk ht; go_frame; have K7 := hid hk; have T7 := hid ht; clear hk ht))
  have BB := hid (below_turn B6.out T7.out B6.out.size G6.out)
  have B7 := hid (below_chain B5.out BB.out)
  have KJ7 := hid (KJ5.out.below BB.out KJ5.out.lt)
  have OA7 := hid (OAA.out.below BB.out)
  have OB7 := hid (OBB.out.below BB.out)
  have H6J := hid (show g6 ≠ jb by have := KJ5.out.lt; have := G6.out; omega)
  clear K6 T7 B6 G6 BB B5 KJ5 OAA OBB
  have c62 := K7.out.cell 2 rfl
  have c4 := KJ7.out.cell 4 rfl
  have c5 := KJ7.out.cell 5 rfl
  by_cases hlt : fa < fb
  · have HLT := hid hlt
    go_quiet (fail)
    have l62 := (cs_drewN K7.out nq).cell 2 rfl
    have l4 := (cs_drewN KJ7.out nq).cell 4 rfl
    have hfb0 : 0 < fb := by have := FA.out.2.2.1; omega
    have HFB0 := hid hfb0
    have K8 := hid (cs_drewN K7.out nq)
    have KJ8 := hid (cs_drewN KJ7.out nq)
    have OB8 := hid (OB7.out.below (below_drewN (Below.refl _ w7) nq))
    have B8 := hid (below_drewN B7.out nq)
    generalize w7.drewN nq = y8 at *
    clear K7 KJ7 OA7 OB7 B7
    go_wp2_with fail
    refine wp_region_V [10] (fun u => ((∃ x, Cs u jb 123 #[.pointer (some ⟨d, 0, none⟩), x, va, .int .i64 (ua : Int), .int .u32 fa, .int .u64 nx]) ∧ Cs u g6 121 #[vb, .int .i64 (ub : Int), .int .u32 fb]) ∧ (OwnR u 0 (fun k => w.heap.size ≤ k ∧ k ≠ jb) vb bb ∧ Below w.heap.size w u)) hmix (⟨⟨⟨_, KJ8.out⟩, K8.out⟩, OB8.out.below (Below.refl _ _).drew, B8.out.drew⟩) ?_
    change wpAnyV _ _ _ _ _ _ _ _ _
    have hKS : Kept (fun u => ((∃ x, Cs u jb 123 #[.pointer (some ⟨d, 0, none⟩), x, va, .int .i64 (ua : Int), .int .u32 fa, .int .u64 nx]) ∧ Cs u g6 121 #[vb, .int .i64 (ub : Int), .int .u32 fb]) ∧ (OwnR u 0 (fun k => w.heap.size ≤ k ∧ k ≠ jb) vb bb ∧ Below w.heap.size w u)) := fun u u' h hb => ⟨⟨h.1.1.imp fun x hx => hx.below hb hx.lt, h.1.2.below hb h.1.2.lt⟩, h.2.1.below hb, below_chain h.2.2 hb⟩
    refine wpW (i := 0) (v := .pointer (some ⟨jb, 0, none⟩)) hKS rfl (DR fun w9 hS => by go_simp) ?_
    try simp only [getElem_toArray, getElem_cons_succ, getElem_cons_zero, Act.put, setIfInBounds_toArray, set_cons_succ, set_cons_zero]
    refine wpW (i := 1) (v := .pointer (some ⟨jb, 0, none⟩)) hKS rfl (DR fun w9 hS => by go_simp) ?_
    try simp only [getElem_toArray, getElem_cons_succ, getElem_cons_zero, Act.put, setIfInBounds_toArray, set_cons_succ, set_cons_zero]
    refine wpW (i := 2) (v := .pointer (some ⟨d, 0, none⟩)) hKS rfl (DR fun w9 hS => by go_simp) ?_
    try simp only [getElem_toArray, getElem_cons_succ, getElem_cons_zero, Act.put, setIfInBounds_toArray, set_cons_succ, set_cons_zero]
    refine wpW (i := 3) (v := .int .i64 (Hf : Int)) hKS rfl (DoesV.calls 64 #[.pointer (some ⟨d, 0, none⟩)] (by rfl) (fun w9 hS => by go_simp) (fun w9 hS => (hhf w9 hS.2.2).mono fun e w' h => ⟨h.1, h.2 ▸ Below.refl _ _⟩)) ?_
    try simp only [getElem_toArray, getElem_cons_succ, getElem_cons_zero, Act.put, setIfInBounds_toArray, set_cons_succ, set_cons_zero]
    refine wpW (i := 4) (v := .agg #[vb, .int .i64 (ub : Int), .int .u32 fb]) hKS rfl (DR fun w9 hS => exec_load_agg 121 _ rfl g6 0 rfl [vb, .int .i64 (ub : Int), .int .u32 fb] (At.whole hS.1.2) _ Tryz.underlying121 rfl infoRow) ?_
    try simp only [getElem_toArray, getElem_cons_succ, getElem_cons_zero, Act.put, setIfInBounds_toArray, set_cons_succ, set_cons_zero]
    refine wpW (i := 5) (v := .pointer (some ⟨jb, 0, none⟩)) hKS rfl (DR fun w9 hS => by obtain ⟨⟨⟨x, hx⟩, _⟩, _⟩ := hS; have cx := hx.cell 0 rfl; go_simp) ?_
    try simp only [getElem_toArray, getElem_cons_succ, getElem_cons_zero, Act.put, setIfInBounds_toArray, set_cons_succ, set_cons_zero]
    refine wpW (i := 6) (v := .pointer (some ⟨jb, 1, none⟩)) hKS rfl (DR fun w9 hS => by go_simp) ?_
    try simp only [getElem_toArray, getElem_cons_succ, getElem_cons_zero, Act.put, setIfInBounds_toArray, set_cons_succ, set_cons_zero]
    refine wpAnyV_only (i := 7) rfl (by kernel_rfl) rfl (fun u7 ⟨⟨⟨x, hx⟩, h6⟩, ho, hb⟩ => wp_store1 3 _ _ rfl jb 1 rfl (.int .i64 (Hf : Int)) rfl rfl (by kernel_rfl) 123 _ hx (by simp) fun u' hk ht => ⟨fun u => (Cs u jb 123 #[.pointer (some ⟨d, 0, none⟩), .int .i64 (Hf : Int), va, .int .i64 (ua : Int), .int .u32 fa, .int .u64 nx] ∧ Cs u g6 121 #[vb, .int .i64 (ub : Int), .int .u32 fb]) ∧ (OwnR u 0 (fun k => w.heap.size ≤ k ∧ k ≠ jb) vb bb ∧ Below w.heap.size w u), ⟨⟨hk, h6.other ht H6J.out⟩, ho.turn ht (fun k hk e => hk.2 e), below_turn hb ht hb.size HJB.out⟩, fun u u' h hb => ⟨⟨h.1.1.below hb h.1.1.lt, h.1.2.below hb h.1.2.lt⟩, h.2.1.below hb, below_chain h.2.2 hb⟩, fun _ u h => ⟨⟨⟨_, h.1.1⟩, h.1.2⟩, h.2⟩, ?_⟩)
    try simp only [getElem_toArray, getElem_cons_succ, getElem_cons_zero, Act.put, setIfInBounds_toArray, set_cons_succ, set_cons_zero]
    have hKS2 : Kept (fun u => (Cs u jb 123 #[.pointer (some ⟨d, 0, none⟩), .int .i64 (Hf : Int), va, .int .i64 (ua : Int), .int .u32 fa, .int .u64 nx] ∧ Cs u g6 121 #[vb, .int .i64 (ub : Int), .int .u32 fb]) ∧ (OwnR u 0 (fun k => w.heap.size ≤ k ∧ k ≠ jb) vb bb ∧ Below w.heap.size w u)) := fun u u' h hb => ⟨⟨h.1.1.below hb h.1.1.lt, h.1.2.below hb h.1.2.lt⟩, h.2.1.below hb, below_chain h.2.2 hb⟩
    refine wpW (i := 8) (v := .pointer (some ⟨jb, 0, none⟩)) hKS2 rfl (DR fun w9 hS => by have cx := hS.1.1.cell 0 rfl; go_simp) ?_
    try simp only [getElem_toArray, getElem_cons_succ, getElem_cons_zero, Act.put, setIfInBounds_toArray, set_cons_succ, set_cons_zero]
    refine wpW (i := 9) (v := .pointer (some ⟨jb, 2, none⟩)) hKS2 rfl (DR fun w9 hS => by go_simp) ?_
    try simp only [getElem_toArray, getElem_cons_succ, getElem_cons_zero, Act.put, setIfInBounds_toArray, set_cons_succ, set_cons_zero]
    refine wpAnyV_only (i := 10) rfl (by kernel_rfl) rfl (fun u10 hS => wp_storeS 121 _ _ rfl jb 2 rfl [vb, .int .i64 (ub : Int), .int .u32 fb] rfl 123 _ hS.1.1 (by simp) (one3 hS.2.1.one rfl rfl) infoRow fun u' hk ht => ⟨fun u => Cs u jb 123 #[.pointer (some ⟨d, 0, none⟩), .int .i64 (Hf : Int), vb, .int .i64 (ub : Int), .int .u32 fb, .int .u64 nx] ∧ (OwnR u 0 (fun k => w.heap.size ≤ k ∧ k ≠ jb) vb bb ∧ Below w.heap.size w u), ⟨by simpa [over] using hk, hS.2.1.turn ht (fun k hk e => hk.2 e), below_turn hS.2.2 ht hS.2.2.size HJB.out⟩, fun u u' h hb => ⟨h.1.below hb h.1.lt, h.2.1.below hb, below_chain h.2.2 hb⟩, fun h => absurd (by simp) h, ?_⟩)
    try simp only [getElem_toArray, getElem_cons_succ, getElem_cons_zero, Act.put, setIfInBounds_toArray, set_cons_succ, set_cons_zero]
    refine wpAnyV_done (by kernel_rfl) (fun y11 hu => ?_) _
    have HU := hid hu
    have k4 := hu.1.cell 4 rfl
    have k5 := hu.1.cell 5 rfl
    clear hu hKS hKS2
    have fne : (fb == 0) = false := by rw [beq_eq_false_iff_ne]; have := HFB0.out; omega
    have nxe : decide ((2147483649 : Int) < nx) = false := by simp; omega
    go_wp2_with fail
    go_ret2
    unfold OpenP
    refine ⟨HU.out.2.2, ?_⟩
    rw [if_pos (show decide (fa < fb) = true by simpa using HLT.out), if_neg (by have := HFB0.out; show ¬ fb = 0; omega)]
    exact ⟨jb, vb, rfl, HJB.out, HU.out.1, HU.out.2.1.mono fun k hk h => ⟨h.1, hk, h.2⟩, fun h => h.2.2 rfl, ⟨FB.out.1, by have := FB.out; have := HH2.out; show ub ≤ 8192; omega, HH2.out⟩, ⟨FB.out.2.2.1, FB.out.2.2.2, nx0, hnx⟩⟩
  · have HLT := hid hlt
    have hlt' : decide (fa < fb) = false := by simp; omega
    clear hlt
    go_quiet (fail)
    have l62 := (cs_drewN K7.out nq).cell 2 rfl
    have l4 := (cs_drewN KJ7.out nq).cell 4 rfl
    have l5 := (cs_drewN KJ7.out nq).cell 5 rfl
    have KJ8 := hid (cs_drewN KJ7.out nq)
    have OA8 := hid (OA7.out.below (below_drewN (Below.refl _ w7) nq))
    have B8 := hid (below_drewN B7.out nq)
    generalize w7.drewN nq = y8 at *
    clear K7 KJ7 OA7 OB7 B7
    have nxe : decide ((2147483649 : Int) < nx) = false := by simp; omega
    by_cases hf0 : fa = 0
    · have HF0 := hid hf0
      have fne : (fa == 0) = true := by simp [hf0]
      clear hf0
      go_wp2_with fail
      go_ret2
      unfold OpenP
      refine ⟨B8.out, ?_⟩
      rw [if_neg (show ¬ decide (fa < fb) = true by simpa using HLT.out), if_pos (show fa = 0 from HF0.out)]
      rfl
    · have HF0 := hid hf0
      have fne : (fa == 0) = false := by rw [beq_eq_false_iff_ne]; exact hf0
      clear hf0
      go_wp2_with fail
      go_ret2
      unfold OpenP
      refine ⟨B8.out, ?_⟩
      rw [if_neg (show ¬ decide (fa < fb) = true by simpa using HLT.out), if_neg (show ¬ fa = 0 from HF0.out)]
      exact ⟨jb, va, rfl, HJB.out, KJ8.out, OA8.out.mono fun k hk h => ⟨h.1, hk, h.2⟩, fun h => h.2.2 rfl, ⟨FA.out.1, by have := FA.out; have := HH2.out; show ua ≤ 8192; omega, Nat.zero_le _⟩, ⟨FA.out.2.2.1, FA.out.2.2.2, nx0, hnx⟩⟩
end Go.Proofs.YtfgbpinfplllgaaGreatDoor
