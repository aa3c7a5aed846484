/- SWEPT -/
import Derived.Test.YtfgbpinfplllgaaGreatDoorZBchDK
import Derived.Test.YtfgbpinfplllgaaGreatDoorZStColl
import Derived.Test.YtfgbpinfplllgaaGreatDoorZStSortLay
set_option linter.unusedVariables false
set_option linter.unusedSimpArgs false
open Go.Lib (hid)
namespace Go.Proofs.YtfgbpinfplllgaaGreatDoor
open Go.RowKit Go.Shelf Go.Maps Go.Sort
set_option maxRecDepth 100000
instance : Inhabited Raw := ⟨⟨[], none, 0, 0, false⟩⟩
def rawCmp (x y : Raw) : Int := cmpK x.k y.k
theorem byKey_v (x y : Raw) (w : World) : Calls Tryz.prog 129 #[.agg (cells3 x).toArray, .agg (cells3 y).toArray] w fun e w' => e = .returned (.int .i64 (rawCmp x y)) ∧ ∃ q os', w' = grow (w.drewN q) os' := by
  obtain ⟨k1, A1, n1, c1, g1⟩ := x
  obtain ⟨k2, A2, n2, c2, g2⟩ := y
  have hc := fun W => Compare_any k1 k2 W
  unfold rawCmp
  simp only [cells3, sv]
  go_enter Tryz.func129, Tryz.ntmps129
  go_wp2_with fail
  refine (hc _).mono ?_
  rintro e w1 ⟨rfl, rfl⟩
  go_wp2_with fail
  go_ret
  exact ⟨rfl, 0, _, by rw [alloc_eq_grow, alloc_eq_grow, grow_grow]; rfl⟩
theorem swoRaw : SWO (ltOf rawCmp) where
  irrefl x := by simp [ltOf, rawCmp, cmpK, lessK_irrefl]
  trans x y z h1 h2 := by
    have e : ∀ a b : Raw, ltOf rawCmp a b = lessK a.k b.k := fun a b => by
      unfold ltOf rawCmp cmpK
      cases h : lessK a.k b.k
      · cases h2 : lessK b.k a.k <;> simp
      · simp
    rw [e] at *
    exact lessK_trans h1 h2
  ntrans x y z h1 h2 := by
    have e : ∀ a b : Raw, ltOf rawCmp a b = lessK a.k b.k := fun a b => by
      unfold ltOf rawCmp cmpK
      cases h : lessK a.k b.k
      · cases h2 : lessK b.k a.k <;> simp
      · simp
    rw [e] at *
    cases h3 : lessK x.k z.k
    · rfl
    · have := lessK_le h1 h3
      rw [this] at h2
      cases h2
set_option maxHeartbeats 2000000 in
theorem insert0_v (p : Option Addr) (cap : Nat) (fv : Value) (w : World) : Calls Tryz.prog 199 #[.slice p 0 cap, .int .i64 0, .int .i64 0, fv] w fun e w' => e = .returned (.tuple #[]) ∧ w = w' := by
  go_enter Tryz.func199, Tryz.ntmps199
  go_wp2
  refine wp_loop_rounds 1 ?_
  rw [rounds_succ]
  go_wp2
  go_end0
  exact ⟨rfl, rfl⟩
set_option maxHeartbeats 2000000 in
theorem pdq0_v (p : Option Addr) (cap : Nat) (lim : Int) (fv : Value) (w : World) : Calls Tryz.prog 183 #[.slice p 0 cap, .int .i64 0, .int .i64 0, .int .i64 lim, fv] w fun e w' => e = .returned (.tuple #[]) ∧ w = w' := by
  have hi := insert0_v p cap fv w
  go_enter Tryz.func183, Tryz.ntmps183
  go_wp2
  refine wp_loop_rounds 1 ?_
  rw [rounds_succ]
  go_wp2_with fail
  refine hi.mono ?_
  rintro e w' ⟨rfl, rfl⟩
  go_wp2
  (try simp only [Exit.inBlock, Exit.then]); refine bodyPost_ret (results_none rfl _ _ _) rfl ?_
  exact ⟨rfl, rfl⟩
theorem bitsLen0_v (w : World) : Calls Tryz.prog 184 #[.int .u64 0] w fun e w' => (∃ n, e = .returned (.int .i64 n)) ∧ w = w' := by
  have h := Any.bits_Len (SlLaysF0.n15.bits (P := Tryz.prog) (ρ := Tryz.sortCh_ren) { Tryz.sortCh with }) 0 w (by omega) (by omega)
  exact Calls.mono h fun e w' ⟨h1, h2⟩ => ⟨⟨_, h1⟩, h2.symm⟩
set_option maxHeartbeats 2000000 in
theorem sort0_v (p : Option Addr) (cap : Nat) (fv : Value) (w : World) : Calls Tryz.prog 157 #[.slice p 0 cap, fv] w fun e w' => e = .returned (.tuple #[]) ∧ w = w' := by
  have hb := bitsLen0_v w
  have hp := fun lim => pdq0_v p cap lim fv w
  go_enter Tryz.func157, Tryz.ntmps157
  go_wp2_with fail
  refine hb.mono ?_
  rintro e w' ⟨⟨n, rfl⟩, rfl⟩
  go_wp2_with fail
  refine (hp n).mono ?_
  rintro e w' ⟨rfl, rfl⟩
  go_wp2
  go_end0
  exact ⟨rfl, rfl⟩
theorem flat_get : ∀ (ps : List Raw) (i c : Nat) (hi : i < ps.length), c < 3 → (ps.flatMap cells3)[i * 3 + c]? = (cells3 ps[i])[c]?
  | p :: ps, 0, c, _, hc => by
    rw [List.flatMap_cons, List.getElem?_append_left (by simp [cells3]; omega)]
    simp
  | p :: ps, i + 1, c, hi, hc => by
    rw [List.flatMap_cons, List.getElem?_append_right (by simp [cells3]; omega), show (i + 1) * 3 + c - (cells3 p).length = i * 3 + c by simp [cells3]; omega, flat_get ps i c (by simpa using hi) hc]
    simp
theorem cells3_get {p : Raw} {c : Nat} (hc : c < 3) : (cells3 p)[c]? = some (cells3 p)[c]! := by
  match c, hc with
  | 0, _ => rfl
  | 1, _ => rfl
  | 2, _ => rfl
theorem holds_of_own {w : World} {base g cap : Nat} {ps : List Raw} (h : w.ownsRow base 73 3 (.slice (some ⟨g, 0, none⟩) ps.length cap) ps.length (ps.flatMap cells3)) : HoldsK cells3 3 w g 0 ps.toArray ∧ g < w.heap.size := by
  rcases h.2 with ⟨h0, _⟩ | ⟨g', cap', cur, h0, _, hg, h1, h2, h3, h4⟩
  · cases h0
  · cases h0
    refine ⟨fun j hj => ?_, (Array.getElem?_eq_some_iff.1 hg).1⟩
    rw [size_flatK] at hj
    have hj' : j < ps.length * 3 := by simpa using hj
    rw [get_flatK _ _ _ _ hj]
    have hi : j / 3 < ps.length := by omega
    have hc : j % 3 < 3 := Nat.mod_lt _ (by decide)
    have e := flat_get ps (j / 3) (j % 3) hi hc
    rw [show j / 3 * 3 + j % 3 = j by omega, ← h4, List.getElem?_take, if_pos hj', cells3_get hc] at e
    have ea : ps.toArray[j / 3]! = ps[j / 3] := by simp [hi]
    rw [ea, Nat.zero_add]
    refine ⟨?_, ?_⟩
    · refine (show Cs w g _ cur from hg).cell j ?_
      rw [← Array.getElem?_toList]
      exact e
    · exact (show Cs w g _ cur from hg).frozen j
theorem turn_sort (w : World) (blk off m : Nat) (dk : Array Raw) (os : Array Obj) : Turn w (sortWorldK cells3 3 w blk off m dk os) (· = blk) := by
  refine ⟨rfl, rfl, rfl, size_sortWorldK_c .., fun i hi hne => ?_⟩
  unfold sortWorldK grow putRowK putRow mapBlock Sort.ahead
  simp only
  rw [Array.getElem?_append_left (by simpa using hi)]
  simp [Array.getElem?_modify, Ne.symm hne]
def SortRet (v : Value) (ps : List Raw) (w : World) (e : Ending) (w' : World) : Prop := e = .returned (.tuple #[]) ∧ ∃ qs : List Raw, qs.Perm ps ∧ qs.Pairwise (fun x y => lessK y.k x.k = false) ∧ Turn w w' (fun k => v.ownBlock = some k) ∧ (∀ g n cap, v = .slice (some ⟨g, 0, none⟩) n cap → ∀ i u, (qs.flatMap cells3)[i]? = some u → w'.cell? ⟨g, i, none⟩ = some u)
theorem ltOf_raw (a b : Raw) : ltOf rawCmp a b = lessK a.k b.k := by
  unfold ltOf rawCmp cmpK
  cases h : lessK a.k b.k
  · cases h2 : lessK b.k a.k <;> simp
  · simp
set_option maxHeartbeats 2000000 in
theorem sortCh_v {base n : Nat} (v : Value) (ps : List Raw) (w : World) (hn : n = ps.length) (hl : ps.length ≤ 1000000) (h : w.ownsRow base 73 3 v n (ps.flatMap cells3)) :
    Calls Tryz.prog 157 #[v, .func (.func 129) #[] #[]] w fun e w' => SortRet v ps w e w' := by
  subst hn
  rcases id h.2 with ⟨h0, h1⟩ | ⟨g, cap, cur, h0, -⟩
  · subst h0
    have e0 : ps = [] := List.eq_nil_of_length_eq_zero h1
    subst e0
    exact Calls.mono (sort0_v none 0 _ w) fun e w' ⟨h1, h2⟩ => ⟨h1, [], List.Perm.refl _, List.Pairwise.nil, h2 ▸ Turn.refl _ _, fun _ _ _ _ i u hu => by cases hu⟩
  · subst h0
    obtain ⟨hh, hlt⟩ := holds_of_own h
    have eg : ∀ args w, (callFunc 129 args).run Tryz.prog w = .ok (.enter 129 args) w := enters_of Tryz.func129 (by kernel_rfl) rfl
    have hcon := AnyQ.slices_SortFunc (P := Tryz.prog) (ρ := Tryz.sortCh_ren) Tryz.sortCh 3 Tryz.isAgg73 Tryz.sizeOf73 cells3 (fun _ => rfl) (fun x v hv => by simp [cells3] at hv; rcases hv with rfl | rfl | rfl <;> rfl) rawCmp swoRaw 129 #[] g 0 cap ps.toArray w eg
      (fun m os dk _ x y => byKey_v x y _) hh hlt (by simp; omega)
    have e1 : ps.toArray.size = ps.length := by simp
    rw [e1] at hcon
    refine Calls.mono hcon ?_
    rintro e w' ⟨rfl, d', n, os, hp, hs, rfl⟩
    have hsz : d'.size = ps.length := hp.1.trans (by simp)
    have hH2 := holdsK_sortWorldK_c (enc := cells3) (k := 3) (w := w) (blk := g) (off := 0) (d := ps.toArray) (dk := d') (m := n) (os := os) hh hlt (by simp [hsz])
    refine ⟨rfl, d'.toList, ?_, ?_, (turn_sort w g 0 n d' os).mono fun i _ e => by subst e; rfl, ?_⟩
    · have h3 := hp.2.2
      have x1 : d'.extract 0 ps.length = d' := by rw [← hsz]; exact Array.extract_size
      have x2 : ps.toArray.extract 0 ps.length = ps.toArray := by rw [← e1]; exact Array.extract_size
      rw [x1, x2] at h3
      simpa using h3
    · rw [List.pairwise_iff_getElem]
      intro i j hi hj hij
      have := hs i j (Nat.zero_le _) hij (by rw [← hsz]; simpa using hj)
      rw [ltOf_raw] at this
      simpa [getElem!_pos d' i (by simpa using hi), getElem!_pos d' j (by simpa using hj)] using this
    · intro g' n' cap' e i u hu
      cases e
      have hi : i < d'.toList.length * 3 := by
        have := (List.getElem?_eq_some_iff.1 hu).1
        rwa [cells3_len] at this
      have hi3 : i / 3 < d'.toList.length := by omega
      have hc := hH2.cell (i := i / 3) (c := i % 3) (by simpa using hi3) (Nat.mod_lt _ (by decide))
      have e := flat_get d'.toList (i / 3) (i % 3) hi3 (Nat.mod_lt _ (by decide))
      rw [show i / 3 * 3 + i % 3 = i by omega, hu, cells3_get (Nat.mod_lt _ (by decide))] at e
      have hq := hc.1
      rw [show 0 + i / 3 * 3 + i % 3 = i by omega] at hq
      rw [hq, e]
      simp [getElem!_pos d' (i / 3) (by simpa using hi3)]
def SortedRet (D0 : DataW Value) (w : World) (e : Ending) (w' : World) : Prop := ∃ v qs, e = .returned v ∧ AllOf3 D0 qs ∧ qs.Pairwise (fun x y => lessK y.k x.k = false) ∧ Below w.heap.size w w' ∧
  ((v = .slice none 0 0 ∧ qs = []) ∨ ∃ g cap, v = .slice (some ⟨g, 0, none⟩) qs.length cap ∧ w.heap.size ≤ g ∧ qs.length ≤ cap ∧ cap ≤ maxLen ∧ ∀ i u, (qs.flatMap cells3)[i]? = some u → w'.cell? ⟨g, i, none⟩ = some u)
theorem allOf_perm {D0 : DataW Value} {ps qs : List Raw} (h : AllOf3 D0 ps) (hp : qs.Perm ps) : AllOf3 D0 qs := by
  obtain ⟨h1, h0, h2, h3⟩ := h
  exact ⟨(hp.map _).nodup_iff.2 h1, hp.length_eq ▸ h0, fun x => ((hp.map (·.k)).mem_iff).trans (h2 x), fun p hp' => h3 p (hp.mem_iff.1 hp')⟩
set_option maxHeartbeats 1000000 in
theorem sortedFunc_v (Bm b nn : Nat) (D0 : DataW Value) (hki : KeyIn D0) (hsz : Maps.size D0 ≤ 1000000) (w : World) (hm : w.cell? ⟨Bm, 0, none⟩ = some (.map (some b))) (hown : w.ownsMap Tryz.prog 9 chgElem b nn D0) :
    Calls Tryz.prog 127 #[.func (.func 158) #[] #[.pointer (some ⟨Bm, 0, none⟩)], .func (.func 129) #[] #[]] w fun e w' => SortedRet D0 w e w' := by
  have ha := collect3_v Bm b nn D0 hki hsz w hm hown
  clear hm hown hki
  go_enter Tryz.func127, Tryz.ntmps127
  go_wp2_with fail
  refine ha.mono ?_
  rintro e w1 ⟨v, ps, rfl, h1, h2, h3⟩
  have hl : ps.length ≤ 1000000 := Nat.le_trans h1.2.1 hsz
  have hs := sortCh_v v ps w1 rfl hl h2
  have hv1 : v.oneCell' = true := own_one h2
  have H1 := hid h1
  have H2 := hid h2
  have H3 := hid h3
  clear h1 h2 h3 ha hl
  go_wp2_with fail
  refine hs.mono ?_
  rintro e w2 ⟨rfl, qs, q1, q2, q3, q4⟩
  have Q1 := hid q1
  have Q2 := hid q2
  have Q3 := hid q3
  have Q4 := hid q4
  clear q1 q2 q3 q4 hs
  go_wp2_with fail
  go_ret
  have hb : Below w.heap.size w w2 := H3.out.trans (Q3.out.below H3.out.size fun k e => (H2.out.lt k e).1)
  refine ⟨v, qs, rfl, allOf_perm H1.out Q1.out, Q2.out, hb, ?_⟩
  have hle := Q1.out.length_eq
  rcases H2.out.2 with ⟨h0, h4⟩ | ⟨g, cap, cur, h0, h4, h5, h6, h7, h8, h9⟩
  · refine .inl ⟨h0, List.eq_nil_of_length_eq_zero (by omega)⟩
  · exact .inr ⟨g, cap, by rw [h0, hle], h4, by omega, h7, fun i u hu => Q4.out g _ cap h0 i u hu⟩
end Go.Proofs.YtfgbpinfplllgaaGreatDoor
