/- TzAK: TzA TzB TzC TzD TzE TzF. -/
import Derived.Test.YtenpmbfncnepgaaDoorShelf
import Derived.Test.YtenpmbfncnepgaaDoorTreEK
import Derived.Test.YtenpmbfncnepgaaDoorWordsK
/- Memory of one's own: an element of a list anew; nodes that lie apart from one another; a tree under way. -/
namespace Go.Proofs.YtenpmbfncnepgaaDoor
open Go.RowKit Go.Shelf
set_option linter.unusedVariables false
set_option maxRecDepth 100000
set_option linter.unusedSimpArgs false

theorem grp_far {xs : List Value} {n i j f : Nat} {u : Value} (hf : f < n) (e : i ≠ j) : ((xs.set (j * n + f) u).drop (i * n)).take n = (xs.drop (i * n)).take n := by
  rw [List.drop_set]
  split
  · rfl
  · rename_i h
    have hlt : i < j := by
      rcases Nat.lt_trichotomy i j with h1 | h1 | h1
      · exact h1
      · exact absurd h1 e
      · have := Nat.mul_le_mul_right n (show j + 1 ≤ i from h1)
        rw [Nat.succ_mul] at this
        omega
    have := Nat.mul_le_mul_right n (show i + 1 ≤ j from hlt)
    rw [Nat.succ_mul] at this
    rw [List.take_set, List.set_eq_of_length_le (by rw [List.length_take]; omega)]
theorem grp_self {xs : List Value} {n j f : Nat} {u : Value} : ((xs.set (j * n + f) u).drop (j * n)).take n = ((xs.drop (j * n)).take n).set f u := by
  rw [List.drop_set, if_neg (by omega), Nat.add_sub_cancel_left, List.take_set]
section
variable {α : Type} {E : Elem α}
theorem RowX.upd {w w' : World} {F F' : Nat → Prop} {xs xs' : List Value} {ls : List α} (h : RowX E w F xs ls) {j : Nat} (hj : j < ls.length) {y : α} (hlen : xs'.length = xs.length)
    (hx : ∀ i, i < ls.length → i ≠ j → (xs'.drop (i * E.n)).take E.n = (xs.drop (i * E.n)).take E.n)
    (ho : ∀ i (hi : i < ls.length), i ≠ j → ∀ cs, E.rd w F cs ls[i] → E.rd w' F' cs ls[i]) (hy : E.rd w' F' ((xs'.drop (j * E.n)).take E.n) y) : RowX E w' F' xs' (ls.set j y) := by
  refine ⟨by rw [hlen, h.1, List.length_set], fun i hi => ?_⟩
  have hi' := hi
  rw [List.length_set] at hi'
  by_cases e : i = j
  · subst e
    rw [List.getElem_set_self]
    exact hy
  · rw [List.getElem_set_ne (Ne.symm e), hx i hi' e]
    exact ho i hi' e _ (h.2 i hi')
/-- where a list of one's own lies -/
theorem OwnX.cur {w : World} {base g n c : Nat} {F : Nat → Prop} {ls : List α} (h : OwnX E w base F (.slice (some ⟨g, 0, none⟩) n c) ls) : ∃ cur, Cs w g E.ety cur ∧ base ≤ g ∧ n = ls.length ∧ n ≤ c ∧ c ≤ maxLen ∧ cur.size = c * E.n ∧ RowX E w (fun k => F k ∧ k ≠ g) (cur.toList.take (ls.length * E.n)) ls := by
  obtain ⟨⟨xs, h1, h2⟩, h3⟩ := h
  rcases h1.2 with ⟨h, _⟩ | ⟨g', cap, cur, hv, hb, hg, hc, hm, hs, ht⟩
  · cases h
  · cases hv
    refine ⟨cur, hg, hb, rfl, hc, hm, hs, ?_⟩
    rw [ht]
    exact h2.mono fun k _ hk => ⟨hk.1, fun e => hk.2 (by rw [e]; rfl)⟩
theorem OwnX.mk' {w : World} {base g c : Nat} {F : Nat → Prop} {ls : List α} {cur : Array Value} (hg : Cs w g E.ety cur) (hb : base ≤ g) (hF : F g) (hn : ls.length ≤ c) (hc : c ≤ maxLen) (hs : cur.size = c * E.n) (h : RowX E w (fun k => F k ∧ k ≠ g) (cur.toList.take (ls.length * E.n)) ls) : OwnX E w base F (.slice (some ⟨g, 0, none⟩) ls.length c) ls :=
  ⟨⟨_, ⟨h.1, .inr ⟨g, c, cur, rfl, hb, hg, hn, hc, hs, rfl⟩⟩, h.mono fun k _ hk => ⟨hk.1, fun e => hk.2 (by injection e with e; exact e.symm)⟩⟩, fun k hk => by cases hk; exact hF⟩
theorem OwnX.shape {w : World} {base : Nat} {F : Nat → Prop} {v : Value} {ls : List α} (h : OwnX E w base F v ls) (hne : ls ≠ []) : ∃ g c, v = .slice (some ⟨g, 0, none⟩) ls.length c ∧ base ≤ g ∧ F g := by
  obtain ⟨⟨xs, h1, h2⟩, h3⟩ := h
  rcases h1.2 with ⟨_, h0⟩ | ⟨g', cap, cur, hv, hb, r⟩
  · exact absurd (List.eq_nil_of_length_eq_zero h0) hne
  · exact ⟨g', cap, hv, hb, h3 g' (by rw [hv]; rfl)⟩
/-- a cell of an element, stored -/
theorem OwnX.setc {w w' : World} {base g n c : Nat} {F F' : Nat → Prop} {ls : List α} (h : OwnX E w base F (.slice (some ⟨g, 0, none⟩) n c) ls) {cur : Array Value} (hg : Cs w g E.ety cur) {j f : Nat} (hj : j < ls.length) (hf : f < E.n) {u : Value} {y : α}
    (hk : Cs w' g E.ety (cur.setIfInBounds (j * E.n + f) u)) (hF : F' g) (ho : ∀ i (hi : i < ls.length), i ≠ j → ∀ cs, E.rd w (fun k => F k ∧ k ≠ g) cs ls[i] → E.rd w' (fun k => F' k ∧ k ≠ g) cs ls[i])
    (hy : ∀ cs, E.rd w (fun k => F k ∧ k ≠ g) cs ls[j] → E.rd w' (fun k => F' k ∧ k ≠ g) (cs.set f u) y) : OwnX E w' base F' (.slice (some ⟨g, 0, none⟩) n c) (ls.set j y) := by
  obtain ⟨cur', k1, k2, k3, k4, k5, k6, k7⟩ := h.cur
  obtain rfl : cur' = cur := by
    have := k1.symm.trans hg
    injection this with this
    injection this
  subst k3
  have hb : j * E.n + f < ls.length * E.n := by
    have := Nat.mul_le_mul_right E.n (show j + 1 ≤ ls.length from hj)
    rw [Nat.succ_mul] at this
    omega
  have := OwnX.mk' (E := E) (w := w') (base := base) (g := g) (c := c) (F := F') (ls := ls.set j y) (cur := cur'.setIfInBounds (j * E.n + f) u) hk k2 hF (by rw [List.length_set]; exact k4) k5 (by rw [Array.size_setIfInBounds]; exact k6) (by
    rw [Array.toList_setIfInBounds, List.length_set, List.take_set]
    refine k7.upd hj (by rw [List.length_set]) (fun i _ e => grp_far hf e) ho ?_
    rw [grp_self]
    exact hy _ (k7.2 j hj))
  rw [List.length_set] at this
  exact this
/-- what an element holds, turned -/
theorem OwnX.inner {w w' : World} {base : Nat} {F F' G : Nat → Prop} {v : Value} {ls : List α} (h : OwnX E w base F v ls) (ht : Turn w w' G) (hG : ∀ k, v.ownBlock = some k → ¬ G k) (hF : ∀ k, v.ownBlock = some k → F' k) {j : Nat} (hj : j < ls.length) {y : α}
    (ho : ∀ i (hi : i < ls.length), i ≠ j → ∀ cs, E.rd w (fun k => F k ∧ v.ownBlock ≠ some k) cs ls[i] → E.rd w' (fun k => F' k ∧ v.ownBlock ≠ some k) cs ls[i])
    (hy : ∀ cs, E.rd w (fun k => F k ∧ v.ownBlock ≠ some k) cs ls[j] → E.rd w' (fun k => F' k ∧ v.ownBlock ≠ some k) cs y) : OwnX E w' base F' v (ls.set j y) := by
  obtain ⟨⟨xs, h1, h2⟩, h3⟩ := h
  refine ⟨⟨xs, by rw [List.length_set]; exact ownsRow_turn' h1 ht hG, ?_⟩, hF⟩
  exact h2.upd hj rfl (fun _ _ _ => rfl) ho (hy _ (h2.2 j hj))
/-- .. of no element, but the list's memory is the same -/
theorem OwnX.kept {w w' : World} {base : Nat} {F F' G : Nat → Prop} {v : Value} {ls : List α} (h : OwnX E w base F v ls) (ht : Turn w w' G) (hG : ∀ k, v.ownBlock = some k → ¬ G k) (hF : ∀ k, v.ownBlock = some k → F' k)
    (ho : ∀ i (hi : i < ls.length), ∀ cs, E.rd w (fun k => F k ∧ v.ownBlock ≠ some k) cs ls[i] → E.rd w' (fun k => F' k ∧ v.ownBlock ≠ some k) cs ls[i]) : OwnX E w' base F' v ls := by
  obtain ⟨⟨xs, h1, h2⟩, h3⟩ := h
  exact ⟨⟨xs, ownsRow_turn' h1 ht hG, h2.1, fun i hi => ho i hi _ (h2.2 i hi)⟩, hF⟩
theorem OwnX.ls {w : World} {base : Nat} {F : Nat → Prop} {v : Value} {ls : List α} (h : OwnX E w base F v ls) : LsV E w F v ls := by
  obtain ⟨A, c, h1, h2, h3, h4, h5⟩ := h.form
  exact ⟨A, c, h1, h2, h3, h4, h5⟩
end
/-! ### nodes of one's own -/
abbrev Sup := Nat → Prop
def NdO (w : World) (N : Nat) (F : Nat → Prop) (cs : List Value) (n : Nd) : Prop := ∃ dv nv, cs = ndC n dv nv ∧ BsV w F dv n.data ∧ OwnX entE w N F nv n.names ∧ n.ino < 4294967296 ∧ n.gen < 4294967296 ∧ n.chg < 18446744073709551616
theorem NdO.at {w : World} {N : Nat} {F : Nat → Prop} {cs : List Value} {n : Nd} (h : NdO w N F cs n) : NdAt w F cs n := by
  obtain ⟨dv, nv, h1, h2, h3, h4⟩ := h
  exact ⟨dv, nv, h1, h2, h3.ls, h4⟩
theorem NdO.turn {w w' : World} {N : Nat} {F G : Nat → Prop} {cs : List Value} {n : Nd} (h : NdO w N F cs n) (ht : Turn w w' G) (hG : ∀ k, F k → ¬ G k) : NdO w' N F cs n := by
  obtain ⟨dv, nv, h1, h2, h3, h4⟩ := h
  exact ⟨dv, nv, h1, h2.turn ht hG, h3.turn ht hG, h4⟩
theorem NdO.mono {w : World} {N : Nat} {F G : Nat → Prop} {cs : List Value} {n : Nd} (h : NdO w N F cs n) (hF : ∀ k, k < w.heap.size → F k → G k) : NdO w N G cs n := by
  obtain ⟨dv, nv, h1, h2, h3, h4⟩ := h
  exact ⟨dv, nv, h1, h2.mono hF, h3.mono hF, h4⟩
def nodeO (N : Nat) : Elem (Nd × Sup) where
  ety := 34
  sty := 23
  n := 6
  bytes := 72
  rd w F cs p := NdO w N (fun k => F k ∧ p.2 k) cs p.1
  und := Tryd.underlying23
  info := ⟨_, _, rfl, rfl, rfl, rfl, rfl⟩
  pos := by decide
  byt := by decide
  len := fun h => h.at.len
  one := fun h => h.at.one
  turn := fun h ht hG => h.turn ht fun k hk => hG k hk.1
  mono := fun h hF => h.mono fun k hk h => ⟨hF k hk h.1, h.2⟩
theorem RowX.nd {w : World} {N : Nat} {F : Nat → Prop} {xs : List Value} {ls : List (Nd × Sup)} (h : RowX (nodeO N) w F xs ls) : RowX nodeE w F xs (ls.map (·.1)) :=
  ⟨by rw [List.length_map]; exact h.1, fun j hj => by
    rw [List.getElem_map]
    have := h.2 j (by simpa using hj)
    exact this.at.mono fun k _ hk => hk.1⟩
theorem RdX.nd {w : World} {N : Nat} {F : Nat → Prop} {A : Option Addr} {ls : List (Nd × Sup)} (h : RdX (nodeO N) w F A ls) : RdX nodeE w F A (ls.map (·.1)) := by
  rcases h with h | ⟨b, off, xs, e, h1, h2, h3⟩
  · left; rw [h]; rfl
  · exact .inr ⟨b, off, xs, e, h1, h2.nd, h3⟩
theorem LsV.nd {w : World} {N : Nat} {F : Nat → Prop} {v : Value} {ls : List (Nd × Sup)} (h : LsV (nodeO N) w F v ls) : LsV nodeE w F v (ls.map (·.1)) := by
  obtain ⟨A, c, h1, h2, h3, h4, h5⟩ := h
  exact ⟨A, c, by rw [List.length_map]; exact h1, h2.nd, by rw [List.length_map]; exact h3, h4, fun e => ⟨by rw [(h5 e).1]; rfl, (h5 e).2⟩⟩
/-- a tree's cells -/
def trC (nv : Value) (t : Tr) (ss : List Value) : List Value := nv :: .int .u32 (t.lastGen : Int) :: .int .u32 (t.boot : Int) :: .int .u32 (t.count : Int) :: ss
abbrev Apart (ls : List (Nd × Sup)) : Prop := ls.Pairwise fun a b => ∀ k, ¬ (a.2 k ∧ b.2 k)
/-- a tree of one's own, in a variable at B -/
structure NxO (w : World) (N B : Nat) (nv : Value) (ss : List Value) (t : Tr) (ls : List (Nd × Sup)) (S : Sup) : Prop where
  box : Cs w B 31 (trC nv t ss).toArray
  low : N ≤ B
  own : OwnX (nodeO N) w N (fun k => N ≤ k ∧ k ≠ B) nv ls
  nds : ls.map (·.1) = t.nodes
  dis : Apart ls
  ses : SesAt w S ss t.sess
  far : ∀ k, S k → N ≤ k ∧ k ≠ B ∧ nv.ownBlock ≠ some k ∧ ∀ p ∈ ls, ¬ p.2 k
  len : t.sess.length = 4 ∧ ss.length = 12
  big : t.lastGen < 4294967296 ∧ t.boot < 4294967296 ∧ t.count < 4294967296
theorem NxO.below {w w' : World} {N B : Nat} {nv : Value} {ss : List Value} {t : Tr} {ls : List (Nd × Sup)} {S : Sup} (h : NxO w N B nv ss t ls S) (hb : Below w.heap.size w w') : NxO w' N B nv ss t ls S :=
  ⟨h.box.below hb h.box.lt, h.low, h.own.below hb, h.nds, h.dis, h.ses.turn (Turn.of_below hb fun _ => False) fun _ _ h => h, h.far, h.len, h.big⟩
theorem NxO.at {w : World} {N B : Nat} {nv : Value} {ss : List Value} {t : Tr} {ls : List (Nd × Sup)} {S : Sup} (h : NxO w N B nv ss t ls S) : TrAt w (N ≤ ·) (trC nv t ss) t :=
  ⟨nv, ss, rfl, by rw [← h.nds]; exact (h.own.ls.mono fun k _ hk => hk.1).nd, h.ses.mono fun k _ hk => (h.far k hk).1, h.len.1, h.len.2, h.big⟩

end Go.Proofs.YtenpmbfncnepgaaDoor

/- The program: slices.BinarySearchFunc at nodes, at entries. -/
namespace Go.Proofs.YtenpmbfncnepgaaDoor
open Go.RowKit Go.Shelf
set_option linter.unusedVariables false
set_option maxRecDepth 100000
set_option linter.unusedSimpArgs false

theorem infoEnt : (Tryd.prog.info? 84).map (·.size) = some 2 := by kernel_rfl
theorem wpList_loadA {P : Program} {w : World} {ops : Array Oper} {rest : List Oper} {o : Oper} {a : Act} {Q : Exit → Act → World → Prop} (hw : Region.wanted o (yielded ops a.tmps) = true) (t : TypeId) (x : Operand) (ho : o.op = .load t x) (b f : Nat) (hx : a.eval x = .pointer (some ⟨b, f, none⟩)) (cs : List Value) (hc : At w b f cs) (d : TypeDesc) (hu : P.underlying t = some d)
    (hd : (match d with | .struct _ | .array _ _ => true | _ => false) = true) (hi : (P.info? t).map (·.size) = some cs.length) (h : wpList P ops Q rest (a.put o.dst (.agg cs.toArray)) w) : wpList P ops Q (o :: rest) a w :=
  BigFrame.wpList_want hw fun K hK => wp_load_agg t x ho b f hx cs hc d hu hd hi (hK _ _ h)
/-- a comparison with what is looked for -/
def CmpOf {α : Type} (E : Elem α) (g : Nat) (lb : Array Value) (tv : Value) (cf : α → Int) (w : World) : Prop := ∀ (W : World) (x : α) (cs : List Value) (G : Nat → Prop), Below w.heap.size w W → E.rd W G cs x → Calls Tryd.prog g (#[.agg cs.toArray, tv] ++ lb) W fun e w' => e = .returned (.int .i64 (cf x)) ∧ Below W.heap.size W w'
section
variable {α : Type}
def Mono (cf : α → Int) (l : List α) : Prop := ∀ i j (hj : j < l.length) (hi : i < l.length), i ≤ j → cf l[j] < 0 → cf l[i] < 0
def BsI (cf : α → Int) (l : List α) (lo hi : Nat) : Prop := lo ≤ hi ∧ hi ≤ l.length ∧ (Mono cf l → (∀ j (h : j < l.length), j < lo → cf l[j] < 0) ∧ ∀ j (h : j < l.length), hi ≤ j → 0 ≤ cf l[j])
theorem BsI.start (cf : α → Int) (l : List α) : BsI cf l 0 l.length := ⟨Nat.zero_le _, Nat.le_refl _, fun _ => ⟨fun j h h1 => by omega, fun j h h1 => by omega⟩⟩
theorem BsI.left {cf : α → Int} {l : List α} {lo hi mid : Nat} (h : BsI cf l lo hi) (h2 : mid < hi) (hm : mid < l.length) (e : cf l[mid] < 0) : BsI cf l (mid + 1) hi := ⟨h2, h.2.1, fun hM => ⟨fun j hj hlt => hM j mid hm hj (by omega) e, (h.2.2 hM).2⟩⟩
theorem BsI.right {cf : α → Int} {l : List α} {lo hi mid : Nat} (h : BsI cf l lo hi) (h1 : lo ≤ mid) (hm : mid < l.length) (e : ¬ cf l[mid] < 0) : BsI cf l lo mid := ⟨h1, Nat.le_of_lt hm, fun hM => ⟨(h.2.2 hM).1, fun j hj hlt => by
  by_cases k : cf l[j] < 0
  · exact absurd (hM mid j hj hm hlt k) e
  · omega⟩⟩
/-- what a binary search tells -/
structure Sought (cf : α → Int) (l : List α) (i : Nat) (b : Bool) : Prop where
  le : i ≤ l.length
  is : b = true ↔ ∃ h : i < l.length, cf l[i] = 0
  lo : Mono cf l → ∀ j (h : j < l.length), j < i → cf l[j] < 0
  hi : Mono cf l → ∀ j (h : j < l.length), i ≤ j → 0 ≤ cf l[j]
theorem BsI.over {cf : α → Int} {l : List α} {i : Nat} (h : BsI cf l i i) {b : Bool} (hb : b = true ↔ ∃ h : i < l.length, cf l[i] = 0) : Sought cf l i b := ⟨h.2.1, hb, fun hM => (h.2.2 hM).1, fun hM => (h.2.2 hM).2⟩
theorem BsI.yes {cf : α → Int} {l : List α} {i : Nat} (h : BsI cf l i i) (hn : i < l.length) (e : cf l[i] = 0) : Sought cf l i true := h.over ⟨fun _ => ⟨hn, e⟩, fun _ => rfl⟩
theorem BsI.no {cf : α → Int} {l : List α} {i : Nat} (h : BsI cf l i i) (hn : i < l.length) (e : cf l[i] ≠ 0) : Sought cf l i false := h.over ⟨fun h => (by cases h), fun ⟨_, h⟩ => absurd h e⟩
theorem BsI.off {cf : α → Int} {l : List α} {i : Nat} (h : BsI cf l i i) (hn : ¬ i < l.length) : Sought cf l i false := h.over ⟨fun h => (by cases h), fun ⟨h, _⟩ => absurd h hn⟩
def SoughtRet (cf : α → Int) (l : List α) (e : Ending) : Prop := ∃ (i : Nat) (b : Bool), e = .returned (.tuple #[.int .i64 (i : Int), .bool b]) ∧ Sought cf l i b
end
set_option maxHeartbeats 8000000 in
theorem BinSearch_nd (l : List Nd) (cf : Nd → Int) (tv : Value) (g : Nat) (lb : Array Value) (eg : ∀ args w, (callFunc g args).run Tryd.prog w = .ok (.enter g args) w) (A : Option Addr) (c : Nat) (F : Nat → Prop) (w : World) (hl : l.length ≤ 140737488355328) (r : RdX nodeE w F A l) (hc : CmpOf nodeE g lb tv cf w) :
    Calls Tryd.prog 59 #[.slice A l.length c, tv, .func (.func g) #[] lb] w fun e w' => SoughtRet cf l e ∧ Below w.heap.size w w' := by
  have HP := Lib.hid r
  have HC := Lib.hid hc
  have hL : (l.length : Int) ≤ 140737488355328 := by omega
  clear r hc
  go_enter Tryd.func59, Tryd.ntmps59
  go_wp2
  go_loopw [9, 10] (fun i j wr => ∃ lo hi : Nat, i = .int .i64 lo ∧ j = .int .i64 hi ∧ BsI cf l lo hi ∧ Below w.heap.size w wr) (fun i j _ => (RowKit.intOf j).toNat - (RowKit.intOf i).toNat)
  case atStart => exact ⟨0, l.length, rfl, rfl, BsI.start cf l, Below.refl _ _⟩
  case round =>
    obtain ⟨lo, hi, rfl, rfl, hI, hB⟩ := hrel
    have hhi : hi ≤ l.length := hI.2.1
    have HI := Lib.hid hI
    have HB := Lib.hid hB
    have hle : lo ≤ hi := hI.1
    clear hI
    by_cases hlt : lo < hi
    · obtain ⟨mid, hmid⟩ : ∃ mid : Nat, (lo + hi) / 2 = mid := ⟨_, rfl⟩
      have hm0 : lo ≤ mid := by omega
      have hm2 : mid < hi := by omega
      have hm3 : mid < l.length := by omega
      have hmid2 : ((lo : Int) + (hi : Int)) / 2 = (mid : Int) := by omega
      obtain ⟨b, off, cs, rfl, hrd, hat⟩ := (HP.out.below hB).get mid hm3
      have HAT := Lib.hid hat
      have HLN := Lib.hid (show cs.length = 6 from nodeE.len hrd)
      have HX := Lib.hid (fun e => HI.out.left hm2 hm3 e)
      have HY := Lib.hid (fun e => HI.out.right hm0 hm3 e)
      generalize l[mid] = x at *
      have HCX := Lib.hid (HC.out wr x cs F hB hrd)
      clear hB hat hrd
      generalize cf x = z at *
      by_cases hz : z < 0
      · have hf := Lib.hid (HX.out hz)
        clear HX HY hmid
        go_wp2_with (first
          | ((with_reducible show wpList _ _ _ _ _ wr); refine wpList_load_agg rfl 34 _ rfl b (off + mid * 6) rfl cs HAT.out _ Tryd.underlying34 rfl (by rw [HLN.out]; exact infoNode) ?_; go_frame)
          | (go_at_fn g; refine HCX.out.mono ?_; rintro e u1 ⟨rfl, hb⟩; have B1 := Lib.hid (below_chain HB.out hb); clear hb)
          | fail)
        go_roundw
        case rel => exact ⟨mid + 1, hi, by go_num, rfl, hf.out, B1.out⟩
        case measure => simp [RowKit.intOf]; omega
      · have hf := Lib.hid (HY.out hz)
        clear HX HY hmid
        go_wp2_with (first
          | ((with_reducible show wpList _ _ _ _ _ wr); refine wpList_load_agg rfl 34 _ rfl b (off + mid * 6) rfl cs HAT.out _ Tryd.underlying34 rfl (by rw [HLN.out]; exact infoNode) ?_; go_frame)
          | (go_at_fn g; refine HCX.out.mono ?_; rintro e u1 ⟨rfl, hb⟩; have B1 := Lib.hid (below_chain HB.out hb); clear hb)
          | fail)
        go_roundw
        case rel => exact ⟨lo, mid, rfl, rfl, hf.out, B1.out⟩
        case measure => simp [RowKit.intOf]; omega
    · obtain rfl : lo = hi := by omega
      by_cases hn : lo < l.length
      · obtain ⟨b, off, cs, rfl, hrd, hat⟩ := (HP.out.below hB).get lo hn
        have HAT := Lib.hid hat
        have HLN := Lib.hid (show cs.length = 6 from nodeE.len hrd)
        have hn1 : decide (lo < l.length) = true := decide_eq_true hn
        have HX := Lib.hid (fun e => HI.out.yes hn e)
        have HY := Lib.hid (fun e => HI.out.no hn e)
        generalize l[lo] = x at *
        have HCX := Lib.hid (HC.out wr x cs F hB hrd)
        clear hB hat hrd
        generalize cf x = z at *
        by_cases hz : z = 0
        · have hf := Lib.hid (HX.out hz)
          subst hz
          clear HX HY
          go_wp2_with (first
            | ((with_reducible show wpList _ _ _ _ _ wr); refine wpList_loadA (by rfl) 34 _ rfl b (off + lo * 6) rfl cs HAT.out _ Tryd.underlying34 rfl (by rw [HLN.out]; exact infoNode) ?_; go_frame)
            | (go_at_fn g; refine HCX.out.mono ?_; rintro e u1 ⟨rfl, hb⟩; have B1 := Lib.hid (below_chain HB.out hb); clear hb)
            | fail)
          go_ret2
          exact ⟨⟨lo, true, rfl, hf.out⟩, B1.out⟩
        · have hf := Lib.hid (HY.out hz)
          clear HX HY
          go_wp2_with (first
            | ((with_reducible show wpList _ _ _ _ _ wr); refine wpList_loadA (by rfl) 34 _ rfl b (off + lo * 6) rfl cs HAT.out _ Tryd.underlying34 rfl (by rw [HLN.out]; exact infoNode) ?_; go_frame)
            | (go_at_fn g; refine HCX.out.mono ?_; rintro e u1 ⟨rfl, hb⟩; have B1 := Lib.hid (below_chain HB.out hb); clear hb)
            | fail)
          go_ret2
          exact ⟨⟨lo, (z == 0), rfl, (by rw [show (z == 0) = false by simpa using hz]; exact hf.out)⟩, B1.out⟩
      · have hf := Lib.hid (HI.out.off hn)
        go_wp2_with fail
        go_ret2
        exact ⟨⟨lo, false, rfl, hf.out⟩, HB.out⟩
set_option maxHeartbeats 8000000 in
theorem BinSearch_en (l : List Ent) (cf : Ent → Int) (tv : Value) (g : Nat) (lb : Array Value) (eg : ∀ args w, (callFunc g args).run Tryd.prog w = .ok (.enter g args) w) (A : Option Addr) (c : Nat) (F : Nat → Prop) (w : World) (hl : l.length ≤ 140737488355328) (r : RdX entE w F A l) (hc : CmpOf entE g lb tv cf w) :
    Calls Tryd.prog 69 #[.slice A l.length c, tv, .func (.func g) #[] lb] w fun e w' => SoughtRet cf l e ∧ Below w.heap.size w w' := by
  have HP := Lib.hid r
  have HC := Lib.hid hc
  have hL : (l.length : Int) ≤ 140737488355328 := by omega
  clear r hc
  go_enter Tryd.func69, Tryd.ntmps69
  go_wp2
  go_loopw [9, 10] (fun i j wr => ∃ lo hi : Nat, i = .int .i64 lo ∧ j = .int .i64 hi ∧ BsI cf l lo hi ∧ Below w.heap.size w wr) (fun i j _ => (RowKit.intOf j).toNat - (RowKit.intOf i).toNat)
  case atStart => exact ⟨0, l.length, rfl, rfl, BsI.start cf l, Below.refl _ _⟩
  case round =>
    obtain ⟨lo, hi, rfl, rfl, hI, hB⟩ := hrel
    have hhi : hi ≤ l.length := hI.2.1
    have HI := Lib.hid hI
    have HB := Lib.hid hB
    have hle : lo ≤ hi := hI.1
    clear hI
    by_cases hlt : lo < hi
    · obtain ⟨mid, hmid⟩ : ∃ mid : Nat, (lo + hi) / 2 = mid := ⟨_, rfl⟩
      have hm0 : lo ≤ mid := by omega
      have hm2 : mid < hi := by omega
      have hm3 : mid < l.length := by omega
      have hmid2 : ((lo : Int) + (hi : Int)) / 2 = (mid : Int) := by omega
      obtain ⟨b, off, cs, rfl, hrd, hat⟩ := (HP.out.below hB).get mid hm3
      have HAT := Lib.hid hat
      have HLN := Lib.hid (show cs.length = 2 from entE.len hrd)
      have HX := Lib.hid (fun e => HI.out.left hm2 hm3 e)
      have HY := Lib.hid (fun e => HI.out.right hm0 hm3 e)
      generalize l[mid] = x at *
      have HCX := Lib.hid (HC.out wr x cs F hB hrd)
      clear hB hat hrd
      generalize cf x = z at *
      by_cases hz : z < 0
      · have hf := Lib.hid (HX.out hz)
        clear HX HY hmid
        go_wp2_with (first
          | ((with_reducible show wpList _ _ _ _ _ wr); refine wpList_load_agg rfl 84 _ rfl b (off + mid * 2) rfl cs HAT.out _ Tryd.underlying84 rfl (by rw [HLN.out]; exact infoEnt) ?_; go_frame)
          | (go_at_fn g; refine HCX.out.mono ?_; rintro e u1 ⟨rfl, hb⟩; have B1 := Lib.hid (below_chain HB.out hb); clear hb)
          | fail)
        go_roundw
        case rel => exact ⟨mid + 1, hi, by go_num, rfl, hf.out, B1.out⟩
        case measure => simp [RowKit.intOf]; omega
      · have hf := Lib.hid (HY.out hz)
        clear HX HY hmid
        go_wp2_with (first
          | ((with_reducible show wpList _ _ _ _ _ wr); refine wpList_load_agg rfl 84 _ rfl b (off + mid * 2) rfl cs HAT.out _ Tryd.underlying84 rfl (by rw [HLN.out]; exact infoEnt) ?_; go_frame)
          | (go_at_fn g; refine HCX.out.mono ?_; rintro e u1 ⟨rfl, hb⟩; have B1 := Lib.hid (below_chain HB.out hb); clear hb)
          | fail)
        go_roundw
        case rel => exact ⟨lo, mid, rfl, rfl, hf.out, B1.out⟩
        case measure => simp [RowKit.intOf]; omega
    · obtain rfl : lo = hi := by omega
      by_cases hn : lo < l.length
      · obtain ⟨b, off, cs, rfl, hrd, hat⟩ := (HP.out.below hB).get lo hn
        have HAT := Lib.hid hat
        have HLN := Lib.hid (show cs.length = 2 from entE.len hrd)
        have hn1 : decide (lo < l.length) = true := decide_eq_true hn
        have HX := Lib.hid (fun e => HI.out.yes hn e)
        have HY := Lib.hid (fun e => HI.out.no hn e)
        generalize l[lo] = x at *
        have HCX := Lib.hid (HC.out wr x cs F hB hrd)
        clear hB hat hrd
        generalize cf x = z at *
        by_cases hz : z = 0
        · have hf := Lib.hid (HX.out hz)
          subst hz
          clear HX HY
          go_wp2_with (first
            | ((with_reducible show wpList _ _ _ _ _ wr); refine wpList_loadA (by rfl) 84 _ rfl b (off + lo * 2) rfl cs HAT.out _ Tryd.underlying84 rfl (by rw [HLN.out]; exact infoEnt) ?_; go_frame)
            | (go_at_fn g; refine HCX.out.mono ?_; rintro e u1 ⟨rfl, hb⟩; have B1 := Lib.hid (below_chain HB.out hb); clear hb)
            | fail)
          go_ret2
          exact ⟨⟨lo, true, rfl, hf.out⟩, B1.out⟩
        · have hf := Lib.hid (HY.out hz)
          clear HX HY
          go_wp2_with (first
            | ((with_reducible show wpList _ _ _ _ _ wr); refine wpList_loadA (by rfl) 84 _ rfl b (off + lo * 2) rfl cs HAT.out _ Tryd.underlying84 rfl (by rw [HLN.out]; exact infoEnt) ?_; go_frame)
            | (go_at_fn g; refine HCX.out.mono ?_; rintro e u1 ⟨rfl, hb⟩; have B1 := Lib.hid (below_chain HB.out hb); clear hb)
            | fail)
          go_ret2
          exact ⟨⟨lo, (z == 0), rfl, (by rw [show (z == 0) = false by simpa using hz]; exact hf.out)⟩, B1.out⟩
      · have hf := Lib.hid (HI.out.off hn)
        go_wp2_with fail
        go_ret2
        exact ⟨⟨lo, false, rfl, hf.out⟩, HB.out⟩

end Go.Proofs.YtenpmbfncnepgaaDoor

/- The program: what compares, place, entry, nodeOf, nodeNamed, gap. -/
namespace Go.Proofs.YtenpmbfncnepgaaDoor
open Go.RowKit Go.Shelf
set_option linter.unusedVariables false
set_option maxRecDepth 100000
set_option linter.unusedSimpArgs false

def cmpU (a b : Nat) : Int := if a < b then -1 else if b < a then 1 else 0
theorem isNaN_v (a : Nat) (w : World) : Calls Tryd.prog 81 #[.int .u32 (a : Int)] w fun e w' => e = .returned (.bool false) ∧ w = w' := by
  go_enter Tryd.func81, Tryd.ntmps81
  go_wp2_with fail
  go_ret
  exact ⟨by first | rfl | simp, rfl⟩
theorem CompareU_v (a b : Nat) (w : World) : Calls Tryd.prog 61 #[.int .u32 (a : Int), .int .u32 (b : Int)] w fun e w' => e = .returned (.int .i64 (cmpU a b)) ∧ w = w' := by
  have HC := Lib.hid (show cmpU a b = if a < b then -1 else if b < a then 1 else 0 from rfl)
  go_enter Tryd.func61, Tryd.ntmps61
  go_wp2_with fail
  refine (isNaN_v a w).mono ?_
  rintro e w1 ⟨rfl, rfl⟩
  go_wp2_with fail
  refine (isNaN_v b w).mono ?_
  rintro e w1 ⟨rfl, rfl⟩
  by_cases h1 : a < b
  · have i1 : (a : Int) < b := by omega
    rw [if_pos h1] at HC
    clear h1
    go_wp2_with fail
    go_ret
    exact ⟨(by rw [HC.out]; first | done | rfl), rfl⟩
  · have i1 : ¬ (a : Int) < b := by omega
    rw [if_neg h1] at HC
    by_cases h2 : b < a
    · have i2 : (b : Int) < a := by omega
      rw [if_pos h2] at HC
      clear h1 h2
      go_wp2_with fail
      go_ret
      exact ⟨(by rw [HC.out]; first | done | rfl), rfl⟩
    · have i2 : ¬ (b : Int) < a := by omega
      rw [if_neg h2] at HC
      clear h1 h2
      go_wp2_with fail
      go_ret
      exact ⟨(by rw [HC.out]; first | done | rfl), rfl⟩
set_option maxHeartbeats 1000000 in
theorem place1_v (n : Nd) (cs : List Value) (G : Nat → Prop) (ino : Nat) (W : World) (h : NdAt W G cs n) :
    Calls Tryd.prog 60 #[.agg cs.toArray, .int .u32 (ino : Int)] W fun e w' => e = .returned (.int .i64 (cmpU n.ino ino)) ∧ Below W.heap.size W w' := by
  obtain ⟨dv, nv, rfl, -⟩ := h
  go_enter Tryd.func60, Tryd.ntmps60
  go_wp2_with (first
    | ((with_reducible show wpList _ _ _ _ _ W); refine wpList_boxS rfl 34 _ rfl (ndC n dv nv) rfl ?_; intro g1 w1 hk1 hb1 hg1; go_frame; have q0 : w1.cell? ⟨g1, 0, none⟩ = some (.int .u32 (n.ino : Int)) := hk1.cell 0 rfl; have B1 := Lib.hid hb1; clear hk1 hb1 hg1)
    | fail)
  refine (CompareU_v n.ino ino w1).mono ?_
  rintro e w2 ⟨rfl, rfl⟩
  go_wp2_with fail
  go_ret
  exact ⟨rfl, B1.out⟩
theorem cmpB_is : ∀ (a b : Key), Lib.compareBytes a b = if lessK a b then -1 else if lessK b a then 1 else 0
  | [], [] => by simp [Lib.compareBytes, lessK_irrefl]
  | [], y :: b => by simp [Lib.compareBytes, lessK_nil]
  | x :: a, [] => by
    have : lessK (x :: a) [] = false := lessK_asymm (by rw [lessK_nil]; simp)
    simp [Lib.compareBytes, this, lessK_nil]
  | x :: a, y :: b => by
    have ih := cmpB_is a b
    have k1 : lessK (x :: a) (y :: b) = (decide (x < y) || (decide (x = y) && lessK a b)) := by
      unfold lessK
      rw [← Bool.decide_and, ← Bool.decide_or]
      exact decide_eq_decide.2 List.cons_lt_cons_iff
    have k2 : lessK (y :: b) (x :: a) = (decide (y < x) || (decide (y = x) && lessK b a)) := by
      unfold lessK
      rw [← Bool.decide_and, ← Bool.decide_or]
      exact decide_eq_decide.2 List.cons_lt_cons_iff
    rw [k1, k2]
    unfold Lib.compareBytes
    by_cases h1 : x < y
    · simp [h1]
    · by_cases h2 : y < x
      · have h3 : ¬ x = y := fun e => by subst e; exact h1 h2
        simp [h1, h2, h3]
      · have e : x = y := UInt8.le_antisymm (UInt8.not_lt.1 h2) (UInt8.not_lt.1 h1)
        subst e
        simp [ih, UInt8.lt_irrefl]
def cmpE (nm : Key) (e : Ent) : Int := Lib.compareBytes e.1 nm
set_option maxHeartbeats 1000000 in
theorem entry1_v (x : Ent) (cs : List Value) (G : Nat → Prop) (nm : Key) (W : World) (h : entE.rd W G cs x) :
    Calls Tryd.prog 70 #[.agg cs.toArray, sv nm] W fun e w' => e = .returned (.int .i64 (cmpE nm x)) ∧ Below W.heap.size W w' := by
  obtain ⟨rfl, -⟩ := h
  have HS := Lib.hid fun (u : World) => Tryd.strings_Compare ⟨x.1.toArray⟩ ⟨nm.toArray⟩ u
  go_enter Tryd.func70, Tryd.ntmps70
  go_wp2_with (first
    | ((with_reducible show wpList _ _ _ _ _ W); refine wpList_boxS rfl 84 _ rfl [sv x.1, .int .u32 (x.2 : Int)] rfl ?_; intro g1 w1 hk1 hb1 hg1; go_frame; have q0 : w1.cell? ⟨g1, 0, none⟩ = some (sv x.1) := hk1.cell 0 rfl; have B1 := Lib.hid hb1; clear hk1 hb1 hg1)
    | fail)
  refine (HS.out w1).mono ?_
  rintro e w2 ⟨rfl, rfl⟩
  go_wp2_with fail
  go_ret
  exact ⟨rfl, B1.out⟩
/-! ### where something stands -/
theorem mono_U {l : List Nd} (hs : SortN l) (ino : Nat) : Mono (fun n : Nd => cmpU n.ino ino) l := by
  intro i j hj hi hij h
  rcases Nat.lt_or_ge i j with h1 | h1
  · have h2 := List.pairwise_iff_getElem.1 hs i j hi hj h1
    unfold cmpU at *
    dsimp only at *
    split at h
    · rw [if_pos (by omega)]; decide
    · split at h
      · cases h
      · cases h
  · obtain rfl : i = j := by omega
    exact h
theorem mono_E {l : List Ent} (hs : SortE l) (nm : Key) : Mono (cmpE nm) l := by
  intro i j hj hi hij h
  rcases Nat.lt_or_ge i j with h1 | h1
  · have h2 := List.pairwise_iff_getElem.1 hs i j hi hj h1
    unfold cmpE at *
    rw [cmpB_is] at *
    split at h
    · rename_i h3
      rw [if_pos (lessK_trans h2 h3)]; decide
    · split at h
      · cases h
      · cases h
  · obtain rfl : i = j := by omega
    exact h
theorem cmpU_neg {a b : Nat} : cmpU a b < 0 ↔ a < b := by
  unfold cmpU
  split
  · rename_i h; exact ⟨fun _ => h, fun _ => by decide⟩
  · rename_i h
    split
    · exact ⟨fun k => absurd k (by decide), fun k => absurd k h⟩
    · exact ⟨fun k => absurd k (by decide), fun k => absurd k h⟩
theorem cmpU_zero {a b : Nat} : cmpU a b = 0 ↔ a = b := by
  unfold cmpU
  split
  · rename_i h; exact ⟨fun k => absurd k (by decide), fun k => by omega⟩
  · rename_i h
    split
    · exact ⟨fun k => absurd k (by decide), fun k => by omega⟩
    · exact ⟨fun _ => by omega, fun _ => rfl⟩
theorem cmpE_neg {nm : Key} {e : Ent} : cmpE nm e < 0 ↔ lessK e.1 nm = true := by
  unfold cmpE
  rw [cmpB_is]
  split
  · rename_i h; exact ⟨fun _ => h, fun _ => by decide⟩
  · rename_i h
    split
    · exact ⟨fun k => absurd k (by decide), fun k => absurd k h⟩
    · exact ⟨fun k => absurd k (by decide), fun k => absurd k h⟩
theorem cmpE_zero {nm : Key} {e : Ent} : cmpE nm e = 0 ↔ e.1 = nm := by
  unfold cmpE
  rw [cmpB_is]
  split
  · rename_i h; exact ⟨fun k => absurd k (by decide), fun k => absurd k (lessK_ne h)⟩
  · rename_i h
    split
    · rename_i h2; exact ⟨fun k => absurd k (by decide), fun k => absurd k.symm (lessK_ne h2)⟩
    · rename_i h2; exact ⟨fun _ => lessK_total (by simpa using h) (by simpa using h2), fun _ => rfl⟩
/-- where a node stands, or would stand -/
structure Placed (l : List Nd) (ino i : Nat) (b : Bool) : Prop where
  le : i ≤ l.length
  yes : b = true → ∃ h : i < l.length, l[i].ino = ino ∧ nodeT l ino = some l[i]
  no : b = false → nodeT l ino = none
  lo : ∀ j (h : j < l.length), j < i → l[j].ino < ino
  hi : ∀ j (h : j < l.length), i ≤ j → ino ≤ l[j].ino
theorem Sought.placed {l : List Nd} {ino i : Nat} {b : Bool} (h : Sought (fun n : Nd => cmpU n.ino ino) l i b) (hs : SortN l) : Placed l ino i b := by
  have hM := mono_U hs ino
  refine ⟨h.le, fun e => ?_, fun e => ?_, fun j hj hlt => cmpU_neg.1 (h.lo hM j hj hlt), fun j hj hle => ?_⟩
  · obtain ⟨h1, h2⟩ := h.is.1 e
    have h3 := cmpU_zero.1 h2
    exact ⟨h1, h3, (nodeT_some hs).2 ⟨List.getElem_mem h1, h3⟩⟩
  · cases k : nodeT l ino with
    | none => rfl
    | some d =>
      exfalso
      obtain ⟨h1, h2⟩ := (nodeT_some hs).1 k
      obtain ⟨j, hj, rfl⟩ := List.getElem_of_mem h1
      have hge : i ≤ j := by
        by_cases c : j < i
        · have := cmpU_neg.1 (h.lo hM j hj c); omega
        · omega
      have hlt : i < l.length := by omega
      have h5 : ¬ (l[i].ino < ino) := fun c => by have := h.hi hM i hlt (Nat.le_refl _); have := cmpU_neg.2 c; omega
      have h6 : l[i].ino = ino := by
        rcases Nat.lt_or_ge i j with c | c
        · have := List.pairwise_iff_getElem.1 hs i j hlt hj c; omega
        · obtain rfl : i = j := by omega
          exact h2
      have := h.is.2 ⟨hlt, cmpU_zero.2 h6⟩
      rw [e] at this
      cases this
  · have := h.hi hM j hj hle
    by_cases c : l[j].ino < ino
    · have := cmpU_neg.2 c; omega
    · omega
/-- .. an entry -/
structure PlacedE (l : List Ent) (nm : Key) (i : Nat) (b : Bool) : Prop where
  le : i ≤ l.length
  yes : b = true → ∃ h : i < l.length, l[i].1 = nm ∧ inE l nm = some l[i].2
  no : b = false → inE l nm = none
  lo : ∀ j (h : j < l.length), j < i → lessK l[j].1 nm = true
  hi : ∀ j (h : j < l.length), i ≤ j → lessK l[j].1 nm = false
theorem Sought.placedE {l : List Ent} {nm : Key} {i : Nat} {b : Bool} (h : Sought (cmpE nm) l i b) (hs : SortE l) : PlacedE l nm i b := by
  have hM := mono_E hs nm
  refine ⟨h.le, fun e => ?_, fun e => ?_, fun j hj hlt => cmpE_neg.1 (h.lo hM j hj hlt), fun j hj hle => ?_⟩
  · obtain ⟨h1, h2⟩ := h.is.1 e
    have h3 := cmpE_zero.1 h2
    refine ⟨h1, h3, (inE_some hs).2 ?_⟩
    rw [← h3]
    exact List.getElem_mem h1
  · rw [inE_none]
    intro y hy k
    obtain ⟨j, hj, rfl⟩ := List.getElem_of_mem hy
    have hge : i ≤ j := by
      by_cases c : j < i
      · exact absurd k (lessK_ne (cmpE_neg.1 (h.lo hM j hj c)))
      · omega
    have hlt : i < l.length := by omega
    have h5 : lessK l[i].1 nm = false := by
      cases c : lessK l[i].1 nm
      · rfl
      · have := h.hi hM i hlt (Nat.le_refl _); have := cmpE_neg.2 c; omega
    have h6 : l[i].1 = nm := by
      rcases Nat.lt_or_ge i j with c | c
      · have := List.pairwise_iff_getElem.1 hs i j hlt hj c
        rw [k] at this
        rw [h5] at this
        cases this
      · obtain rfl : i = j := by omega
        exact k
    have := h.is.2 ⟨hlt, cmpE_zero.2 h6⟩
    rw [e] at this
    cases this
  · cases c : lessK l[j].1 nm
    · rfl
    · have := h.hi hM j hj hle; have := cmpE_neg.2 c; omega
def PlaceRet (l : List Nd) (ino : Nat) (e : Ending) : Prop := ∃ (i : Nat) (b : Bool), e = .returned (.tuple #[.int .i64 (i : Int), .bool b]) ∧ Placed l ino i b
def EntryRet (l : List Ent) (nm : Key) (e : Ending) : Prop := ∃ (i : Nat) (b : Bool), e = .returned (.tuple #[.int .i64 (i : Int), .bool b]) ∧ PlacedE l nm i b
set_option maxHeartbeats 1000000 in
theorem place_v (l : List Nd) (ino : Nat) (A : Option Addr) (c : Nat) (F : Nat → Prop) (w : World) (hl : l.length ≤ 140737488355328) (hs : SortN l) (r : RdX nodeE w F A l) :
    Calls Tryd.prog 35 #[.slice A l.length c, .int .u32 (ino : Int)] w fun e w' => PlaceRet l ino e ∧ Below w.heap.size w w' := by
  have HB := Lib.hid (BinSearch_nd l (fun n : Nd => cmpU n.ino ino) (.int .u32 (ino : Int)) 60 #[] (enters_of Tryd.func60 (by kernel_rfl) rfl) A c F w hl r fun W x cs G hb hx => place1_v x cs G ino W hx)
  have HS := Lib.hid hs
  clear r hs
  go_enter Tryd.func35, Tryd.ntmps35
  go_wp2_with fail
  refine HB.out.mono ?_
  rintro e w1 ⟨⟨i, b, rfl, hi⟩, hb⟩
  have HP := Lib.hid (hi.placed HS.out)
  have B := Lib.hid hb
  clear hi hb
  go_wp2_with fail
  go_ret2
  exact ⟨⟨i, b, rfl, HP.out⟩, B.out⟩
set_option maxHeartbeats 1000000 in
theorem entry_v (l : List Ent) (nm : Key) (g o : Nat) (A : Option Addr) (c : Nat) (F : Nat → Prop) (w : World) (hl : l.length ≤ 140737488355328) (hs : SortE l) (r : RdX entE w F A l) (hc : w.cell? ⟨g, o + 5, none⟩ = some (.slice A l.length c)) :
    Calls Tryd.prog 44 #[.pointer (some ⟨g, o, none⟩), sv nm] w fun e w' => EntryRet l nm e ∧ Below w.heap.size w w' := by
  have HB := Lib.hid (BinSearch_en l (cmpE nm) (sv nm) 70 #[] (enters_of Tryd.func70 (by kernel_rfl) rfl) A c F w hl r fun W x cs G hb hx => entry1_v x cs G nm W hx)
  have HS := Lib.hid hs
  clear r hs
  go_enter Tryd.func44, Tryd.ntmps44
  go_wp2_with fail
  refine HB.out.mono ?_
  rintro e w1 ⟨⟨i, b, rfl, hi⟩, hb⟩
  have HP := Lib.hid (hi.placedE HS.out)
  have B := Lib.hid hb
  clear hi hb
  go_wp2_with fail
  go_ret2
  exact ⟨⟨i, b, rfl, HP.out⟩, B.out⟩

end Go.Proofs.YtenpmbfncnepgaaDoor

/- The program: nodeOf, nodeNamed, gap. -/
namespace Go.Proofs.YtenpmbfncnepgaaDoor
open Go.RowKit Go.Shelf
set_option linter.unusedVariables false
set_option maxRecDepth 100000
set_option linter.unusedSimpArgs false

theorem At.tz {w w' : World} {b off : Nat} {cs : List Value} (h : At w b off cs) (hb : Below w.heap.size w w') : At w' b off cs := fun j v hv => (hb.cell (lt_of_cell (h j v hv))).trans (h j v hv)
/-- a pointer to a node of a list, or none -/
def NodeP (A : Option Addr) (l : List Nd) (v : Value) (r : Option Nd) : Prop := (r = none ∧ v = .pointer none) ∨ ∃ (i b off : Nat) (h : i < l.length), r = some l[i] ∧ A = some ⟨b, off, none⟩ ∧ v = .pointer (some ⟨b, off + i * 6, none⟩)
def NodePRet (A : Option Addr) (l : List Nd) (r : Option Nd) (e : Ending) : Prop := ∃ v, e = .returned v ∧ NodeP A l v r
theorem find_yes {l : List Nd} (hs : SortN l) {h : Nat × Nat} {i : Nat} (hi : i < l.length) (h1 : l[i].ino = h.1) (h2 : l[i].gen = h.2) : findT l h = some l[i] := (findT_some hs).2 ⟨List.getElem_mem hi, h1, h2⟩
theorem find_gen {l : List Nd} (hs : SortN l) {h : Nat × Nat} {i : Nat} (hi : i < l.length) (h1 : l[i].ino = h.1) (h2 : l[i].gen ≠ h.2) : findT l h = none := by
  cases e : findT l h with
  | none => rfl
  | some d =>
    obtain ⟨k1, k2, k3⟩ := (findT_some hs).1 e
    exact absurd (by rw [sort_one hs (List.getElem_mem hi) k1 (by rw [h1, k2]), k3]) h2
theorem find_no {l : List Nd} (hs : SortN l) {h : Nat × Nat} (hn : nodeT l h.1 = none) : findT l h = none := by
  cases e : findT l h with
  | none => rfl
  | some d =>
    obtain ⟨k1, k2, k3⟩ := (findT_some hs).1 e
    rw [(nodeT_some hs).2 ⟨k1, k2⟩] at hn
    cases hn
/-- what a walk wants of a node in a list -/
theorem nd_head {w : World} {F : Nat → Prop} {b off : Nat} {l : List Nd} (r : RdX nodeE w F (some ⟨b, off, none⟩) l) {i : Nat} (hi : i < l.length) : ∃ dv nv, At w b (off + i * 6) (ndC l[i] dv nv) ∧ BsV w F dv l[i].data ∧ LsV entE w F nv l[i].names ∧ l[i].ino < 4294967296 ∧ l[i].gen < 4294967296 ∧ l[i].chg < 18446744073709551616 := by
  obtain ⟨b', off', cs, e, ⟨dv, nv, rfl, h⟩, hat⟩ := r.get i hi
  cases e
  exact ⟨dv, nv, hat, h⟩
set_option maxHeartbeats 2000000 in
theorem nodeOf_v (l : List Nd) (h : Nat × Nat) (A : Option Addr) (c : Nat) (F : Nat → Prop) (w : World) (hl : l.length ≤ 140737488355328) (hs : SortN l) (r : RdX nodeE w F A l) :
    Calls Tryd.prog 12 #[.slice A l.length c, .agg (hdC h).toArray] w fun e w' => NodePRet A l (findT l h) e ∧ Below w.heap.size w w' := by
  have HR := Lib.hid r
  have HS := Lib.hid hs
  clear r hs
  go_enter Tryd.func12, Tryd.ntmps12
  go_wp2_with (first
    | ((with_reducible show wpList _ _ _ _ _ w); refine wpList_boxS rfl 39 _ rfl (hdC h) rfl ?_; intro g1 w1 hk1 hb1 hg1; go_frame; have q0 : w1.cell? ⟨g1, 0, none⟩ = some (.int .u32 (h.1 : Int)) := hk1.cell 0 rfl; have C1 := Lib.hid hk1; have B1 := Lib.hid hb1; clear hk1 hb1 hg1)
    | fail)
  refine (place_v l h.1 A c F w1 hl HS.out (HR.out.below B1.out)).mono ?_
  rintro e w2 ⟨⟨i, b, rfl, hp⟩, hb⟩
  have HP := Lib.hid hp
  have B2 := Lib.hid (below_chain B1.out hb)
  have C2 := Lib.hid (C1.out.below hb C1.out.lt)
  clear hp hb q0
  cases b
  · have HN := Lib.hid (find_no HS.out (HP.out.no rfl))
    go_wp2_with fail
    go_quiet (fail)
    go_wp2_with fail
    go_ret
    exact ⟨⟨_, rfl, .inl ⟨HN.out, rfl⟩⟩, below_drewN B2.out _⟩
  · obtain ⟨hi, he, -⟩ := HP.out.yes rfl
    have HE := Lib.hid he
    have hA : ∃ b off, A = some ⟨b, off, none⟩ := by
      obtain ⟨b, off, cs, e, -⟩ := HR.out.get i hi
      exact ⟨b, off, e⟩
    obtain ⟨b, off, rfl⟩ := hA
    obtain ⟨dv, nv, hat, -⟩ := nd_head (HR.out.below B2.out) hi
    have q1 : w2.cell? ⟨b, off + i * 6 + 1, none⟩ = some (.int .u32 (l[i].gen : Int)) := hat 1 _ rfl
    have q2 : w2.cell? ⟨g1, 1, none⟩ = some (.int .u32 (h.2 : Int)) := C2.out.cell 1 rfl
    have HF := Lib.hid (fun e => find_yes HS.out (h := h) hi HE.out e)
    have HG := Lib.hid (fun e => find_gen HS.out (h := h) hi HE.out e)
    have HI := Lib.hid (fun (k : findT l h = some l[i]) => (show NodeP (some ⟨b, off, none⟩) l (.pointer (some ⟨b, off + i * 6, none⟩)) (findT l h) from .inr ⟨i, b, off, hi, k, rfl, rfl⟩))
    generalize l[i] = x at *
    clear he hat
    by_cases hg : x.gen = h.2
    · have e1 : ((x.gen : Int) != (h.2 : Int)) = false := by simp [hg]
      have HX := Lib.hid (HI.out (HF.out hg))
      clear hg HF HG HI
      go_wp2_with fail
      go_quiet (fail)
      go_wp2_with fail
      go_ret
      exact ⟨⟨_, rfl, HX.out⟩, below_drewN B2.out _⟩
    · have e1 : ((x.gen : Int) != (h.2 : Int)) = true := by simp; omega
      have HX := Lib.hid (HG.out hg)
      clear hg HF HG HI
      go_wp2_with fail
      go_quiet (fail)
      go_wp2_with fail
      go_ret
      exact ⟨⟨_, rfl, .inl ⟨HX.out, rfl⟩⟩, below_drewN B2.out _⟩
/-- the node that has a name in a directory, if there is one -/
def namedT (l : List Nd) (d : Option Nd) (nm : Key) : Option Nd := match d with | none => none | some d => match inE d.names nm with | none => none | some x => nodeT l x
set_option maxHeartbeats 2000000 in
theorem nodeNamed_v (l : List Nd) (A : Option Addr) (c : Nat) (dv : Value) (d : Option Nd) (nm : Key) (F : Nat → Prop) (w : World) (hl : l.length ≤ 140737488355328) (hs : SortN l) (hn : ∀ d ∈ l, SortE d.names ∧ d.names.length ≤ 140737488355328) (r : RdX nodeE w F A l) (hd : NodeP A l dv d) :
    Calls Tryd.prog 19 #[.slice A l.length c, dv, sv nm] w fun e w' => NodePRet A l (namedT l d nm) e ∧ Below w.heap.size w w' := by
  have HR := Lib.hid r
  have HS := Lib.hid hs
  rcases hd with ⟨rfl, rfl⟩ | ⟨i, b, off, hi, rfl, rfl, rfl⟩
  · clear r hs hn
    go_enter Tryd.func19, Tryd.ntmps19
    go_wp2_with fail
    go_ret
    exact ⟨⟨_, rfl, .inl ⟨rfl, rfl⟩⟩, Below.refl _ _⟩
  · obtain ⟨h1, h2⟩ := hn _ (List.getElem_mem hi)
    have H1 := Lib.hid h1
    have H2 := Lib.hid h2
    obtain ⟨dv, nv, hat, -, ⟨B, cb, rfl, hrb, -⟩, -⟩ := nd_head r hi
    have HN := Lib.hid (show namedT l (some l[i]) nm = match inE l[i].names nm with | none => none | some x => nodeT l x from rfl)
    have HAT := Lib.hid hat
    have HRB := Lib.hid hrb
    generalize l[i] = x at *
    have q5 : w.cell? ⟨b, off + i * 6 + 5, none⟩ = some (.slice B x.names.length cb) := HAT.out 5 _ rfl
    clear r hs hn h1 h2 hat hrb
    go_enter Tryd.func19, Tryd.ntmps19
    go_wp2_with fail
    refine (entry_v x.names nm b (off + i * 6) B cb F w H2.out H1.out HRB.out q5).mono ?_
    rintro e w1 ⟨⟨k, y, rfl, hp⟩, hb⟩
    have B1 := Lib.hid hb
    have HP := Lib.hid hp
    clear hb hp q5
    cases y
    · rw [HP.out.no rfl] at HN
      go_wp2_with fail
      go_ret
      exact ⟨⟨_, rfl, .inl ⟨HN.out, rfl⟩⟩, B1.out⟩
    · obtain ⟨hk, -, hk2⟩ := HP.out.yes rfl
      rw [hk2] at HN
      dsimp only at HN
      obtain ⟨b2, off2, rfl, -, q6, -⟩ := ent_at (HRB.out.below B1.out) k hk
      have q5 : w1.cell? ⟨b, off + i * 6 + 5, none⟩ = some (.slice (some ⟨b2, off2, none⟩) x.names.length cb) := At.tz HAT.out B1.out 5 _ rfl
      have hk3 : k < x.names.length := hk
      generalize x.names[k] = y at *
      clear hk2 hk
      go_wp2_with fail
      refine (place_v l y.2 (some ⟨b, off, none⟩) c F w1 hl HS.out (HR.out.below B1.out)).mono ?_
      rintro e w2 ⟨⟨j, z, rfl, hp2⟩, hb⟩
      have B2 := Lib.hid (below_chain B1.out hb)
      have HP2 := Lib.hid hp2
      clear hb hp2 q5 q6
      cases z
      · rw [HP2.out.no rfl] at HN
        go_wp2_with fail
        go_ret
        exact ⟨⟨_, rfl, .inl ⟨HN.out, rfl⟩⟩, B2.out⟩
      · obtain ⟨hj, -, hj2⟩ := HP2.out.yes rfl
        rw [hj2] at HN
        have HX := Lib.hid (show NodeP (some ⟨b, off, none⟩) l (.pointer (some ⟨b, off + j * 6, none⟩)) (namedT l (some x) nm) from .inr ⟨j, b, off, hj, HN.out, rfl, rfl⟩)
        have hj3 : j < l.length := hj
        clear hj2 HN HP2
        go_wp2_with fail
        go_ret
        exact ⟨⟨_, rfl, HX.out⟩, B2.out⟩
/-! ### the least number that is not there -/
def GapI (l : List Nd) (i : Nat) : Prop := i ≤ l.length ∧ ∀ j (h : j < l.length), j < i → l[j].ino = j + 1
theorem GapI.next {l : List Nd} {i : Nat} (h : GapI l i) (hi : i < l.length) (e : l[i].ino = i + 1) : GapI l (i + 1) := ⟨hi, fun j hj hlt => by
  by_cases k : j = i
  · subst k; exact e
  · exact h.2 j hj (by omega)⟩
theorem gap_of : ∀ (l : List Nat) (k i : Nat), i ≤ l.length → (∀ j (h : j < l.length), j < i → l[j] = k + j) → (∀ h : i < l.length, l[i] ≠ k + i) → gapI k l = k + i
  | [], k, i, hi, _, _ => by
    have : i = 0 := by simpa using hi
    subst this
    rfl
  | x :: r, k, 0, _, _, h2 => by
    have := h2 (by simp)
    unfold gapI
    rw [if_neg (by simpa using this)]
    rfl
  | x :: r, k, i + 1, hi, h1, h2 => by
    have h0 := h1 0 (by simp) (by omega)
    unfold gapI
    rw [if_pos (by simpa using h0), gap_of r (k + 1) i (by simpa using hi) (fun j hj hlt => by
      have := h1 (j + 1) (by simpa using hj) (by omega)
      simp only [List.getElem_cons_succ] at this
      omega) (fun h => by
      have := h2 (by simpa using h)
      simp only [List.getElem_cons_succ] at this
      omega)]
    omega
theorem GapI.free {l : List Nd} {i : Nat} (h : GapI l i) (hn : ∀ k : i < l.length, l[i].ino ≠ i + 1) : freeI l = i + 1 := by
  unfold freeI
  rw [gap_of (inosL l) 1 i (by unfold inosL; rw [List.length_map]; exact h.1) (fun j hj hlt => by
    unfold inosL at hj ⊢
    rw [List.length_map] at hj
    rw [List.getElem_map, h.2 j hj hlt]
    omega) (fun hi => by
    unfold inosL at hi ⊢
    rw [List.length_map] at hi
    rw [List.getElem_map]
    have := hn hi
    omega)]
  omega
set_option maxHeartbeats 2000000 in
theorem gap_v (l : List Nd) (A : Option Addr) (c : Nat) (F : Nat → Prop) (w : World) (hl : l.length ≤ 1000000) (r : RdX nodeE w F A l) :
    Calls Tryd.prog 24 #[.slice A l.length c] w fun e w' => (∃ i : Nat, e = .returned (.int .i64 (i : Int)) ∧ freeI l = i + 1 ∧ i ≤ l.length ∧ ∀ j (h : j < l.length), j < i → l[j].ino = j + 1) ∧ w = w' := by
  have HR := Lib.hid r
  clear r
  go_enter Tryd.func24, Tryd.ntmps24
  go_wp2
  go_loop [3] (fun i => ∃ k : Nat, i = .int .i64 k ∧ GapI l k) (fun i => l.length - (RowKit.intOf i).toNat)
  case atStart => exact ⟨0, rfl, Nat.zero_le _, fun j h hlt => by omega⟩
  case round =>
    obtain ⟨k, rfl, hI⟩ := hrel
    by_cases hk : k < l.length
    · have hk1 : decide (k < l.length) = true := decide_eq_true hk
      obtain ⟨b, off, rfl⟩ : ∃ b off, A = some ⟨b, off, none⟩ := by
        obtain ⟨b, off, cs, e, -⟩ := HR.out.get k hk
        exact ⟨b, off, e⟩
      obtain ⟨dv, nv, hat, -⟩ := nd_head HR.out hk
      have q0 : w.cell? ⟨b, off + k * 6, none⟩ = some (.int .u32 (l[k].ino : Int)) := hat 0 _ rfl
      have HX := Lib.hid (fun e => hI.next hk e)
      have HY := Lib.hid (fun (e : l[k].ino ≠ k + 1) => hI.free fun _ => e)
      have HI := Lib.hid hI
      generalize l[k] = x at *
      clear hat hI
      have iw : IntKind.u32.wrap (k : Int) = (k : Int) := IntWalk.u32_in _ (by omega)
      by_cases he : x.ino = k + 1
      · have e1 : ((x.ino : Int) == (k : Int) + 1) = true := by simp; omega
        have hf := Lib.hid (HX.out he)
        clear he HX HY HI
        go_wp2_with fail
        go_round
        case rel => exact ⟨k + 1, by go_num, hf.out⟩
        case measure => simp [RowKit.intOf]; omega
      · have e1 : ((x.ino : Int) == (k : Int) + 1) = false := by simp; omega
        have hf := Lib.hid (HY.out he)
        clear he HX HY
        go_wp2_with fail
        go_ret
        exact ⟨⟨k, rfl, hf.out, HI.out.1, HI.out.2⟩, rfl⟩
    · have hf := Lib.hid (hI.free fun h => absurd h hk)
      have HI := Lib.hid hI
      clear hI
      go_wp2_with fail
      go_ret
      exact ⟨⟨k, rfl, hf.out, HI.out.1, HI.out.2⟩, rfl⟩

end Go.Proofs.YtenpmbfncnepgaaDoor

/- The program: a chain of functions that each tell a status. -/
namespace Go.Proofs.YtenpmbfncnepgaaDoor
open Go.RowKit Go.Shelf
set_option linter.unusedVariables false
set_option maxRecDepth 100000
set_option linter.unusedSimpArgs false

/-- a function that tells whether it is so -/
def TellV (w : World) (g : Nat) (lb : Array Value) (b : Bool) : Prop := (∀ args w, (callFunc g args).run Tryd.prog w = .ok (.enter g args) w) ∧ ∀ W, Below w.heap.size w W → Calls Tryd.prog g lb W fun e w' => e = .returned (.bool b) ∧ Below W.heap.size W w'
/-- a function that tells a status -/
def AskV (w : World) (v : Value) (s : Nat) : Prop := ∃ g lb, v = .func (.func g) #[] lb ∧ (∀ args w, (callFunc g args).run Tryd.prog w = .ok (.enter g args) w) ∧ ∀ W, Below w.heap.size w W → Calls Tryd.prog g lb W fun e w' => e = .returned (.int .u8 (s : Int)) ∧ Below W.heap.size W w'
theorem AskV.later {w w' : World} {v : Value} {s : Nat} (h : AskV w v s) (hb : Below w.heap.size w w') : AskV w' v s := by
  obtain ⟨g, lb, h1, h2, h3⟩ := h
  exact ⟨g, lb, h1, h2, fun W hW => h3 W (below_chain hb hW)⟩
theorem TellV.later {w w' : World} {g : Nat} {lb : Array Value} {b : Bool} (h : TellV w g lb b) (hb : Below w.heap.size w w') : TellV w' g lb b := ⟨h.1, fun W hW => h.2 W (below_chain hb hW)⟩
/-- what a chain of them tells: the first that is not 0 -/
def Chain (w : World) : List Value → Nat → Prop
  | [], s => s = 0
  | v :: r, s => ∃ s1, s1 < 256 ∧ AskV w v s1 ∧ (s1 = 0 → Chain w r s) ∧ (s1 ≠ 0 → s = s1)
theorem Chain.at {w : World} : ∀ {vs : List Value} {s : Nat} {k : Nat}, Chain w (vs.drop k) s → (h : k < vs.length) → ∃ s1, s1 < 256 ∧ AskV w vs[k] s1 ∧ (s1 = 0 → Chain w (vs.drop (k + 1)) s) ∧ (s1 ≠ 0 → s = s1) := by
  intro vs s k h hk
  rw [List.drop_eq_getElem_cons hk] at h
  exact h
theorem Chain.over {w : World} {vs : List Value} {s : Nat} {k : Nat} (h : Chain w (vs.drop k) s) (hk : ¬ k < vs.length) : s = 0 := by
  rw [List.drop_of_length_le (by omega)] at h
  exact h
set_option maxHeartbeats 2000000 in
theorem first_v (vs : List Value) (s : Nat) (g : Nat) (w : World) (hl : vs.length ≤ 1000) (hg : Cs w g 55 vs.toArray) (hc : Chain w vs s) :
    Calls Tryd.prog 13 #[.slice (some ⟨g, 0, none⟩) vs.length vs.length] w fun e w' => e = .returned (.int .u8 (s : Int)) ∧ Below w.heap.size w w' := by
  have HG := Lib.hid hg
  have HC := Lib.hid hc
  clear hg hc
  go_enter Tryd.func13, Tryd.ntmps13
  go_wp2
  go_loopw [8] (fun j wr => ∃ k : Nat, j = .int .i64 k ∧ Chain w (vs.drop k) s ∧ Below w.heap.size w wr) (fun j _ => vs.length - (RowKit.intOf j).toNat)
  case atStart => exact ⟨0, rfl, HC.out, Below.refl _ _⟩
  case round =>
    obtain ⟨k, rfl, hI, hB⟩ := hrel
    have HB := Lib.hid hB
    by_cases hk : k < vs.length
    · obtain ⟨s1, h256, ⟨g1, lb, hv, eg, hcall⟩, h0, h1⟩ := hI.at hk
      have HCX := Lib.hid (hcall wr hB)
      have H0 := Lib.hid h0
      have H1 := Lib.hid h1
      have q0 : wr.cell? ⟨g, k, none⟩ = some (.func (.func g1) #[] lb) := by
        rw [← hv]
        exact (HG.out.below hB HG.out.lt).cell k (by simp [List.getElem?_eq_getElem hk])
      clear hI hB h0 h1 hcall hv
      by_cases hs : s1 = 0
      · subst hs
        have hn := Lib.hid (H0.out rfl)
        clear H0 H1
        go_wp2_with (first
          | (go_at_fn g1; refine HCX.out.mono ?_; rintro e u1 ⟨rfl, hb⟩; have B1 := Lib.hid (below_chain HB.out hb); clear hb)
          | fail)
        go_roundw
        case rel => exact ⟨k + 1, by go_num, hn.out, B1.out⟩
        case measure => simp [RowKit.intOf]; omega
      · have e1 : ((s1 : Int) != 0) = true := by simp; omega
        obtain rfl : s1 = s := (H1.out hs).symm
        clear H0 H1 hs
        go_wp2_with (first
          | (go_at_fn g1; refine HCX.out.mono ?_; rintro e u1 ⟨rfl, hb⟩; have B1 := Lib.hid (below_chain HB.out hb); clear hb)
          | fail)
        go_ret
        exact ⟨rfl, B1.out⟩
    · obtain rfl : s = 0 := hI.over hk
      clear hI hB
      go_wp2_with fail
      go_ret
      exact ⟨rfl, HB.out⟩
/-- a function that tells a status, made -/
def AskRet (w : World) (K : Prop) (s : Nat) (e : Ending) (w' : World) : Prop := ∃ v, e = .returned v ∧ v.oneCell' = true ∧ (K → AskV w' v s) ∧ Below w.heap.size w w'
set_option maxHeartbeats 2000000 in
theorem unless1_v (g3 g2 : Nat) (st : Nat) (g : Nat) (lb : Array Value) (b : Bool) (W : World) (h3 : Cs W g3 48 #[.func (.func g) #[] lb]) (h2 : Cs W g2 5 #[.int .u8 (st : Int)]) (ht : TellV W g lb b) :
    Calls Tryd.prog 62 #[.pointer (some ⟨g3, 0, none⟩), .pointer (some ⟨g2, 0, none⟩)] W fun e w' => e = .returned (.int .u8 ((if b then 0 else st : Nat) : Int)) ∧ Below W.heap.size W w' := by
  have q3 : W.cell? ⟨g3, 0, none⟩ = some (.func (.func g) #[] lb) := h3.cell 0 rfl
  have HC2 := Lib.hid h2
  have eg := ht.1
  have HT := Lib.hid (ht.2 W (Below.refl _ _))
  clear h3 h2 ht
  go_enter Tryd.func62, Tryd.ntmps62
  cases b
  · go_wp2_with (first
      | (go_at_fn g; refine HT.out.mono ?_; rintro e u1 ⟨rfl, hb⟩; have q2 : u1.cell? ⟨g2, 0, none⟩ = some (.int .u8 (st : Int)) := (HC2.out.below hb HC2.out.lt).cell 0 rfl; have B1 := Lib.hid hb; clear hb)
      | fail)
    go_ret
    exact ⟨rfl, B1.out⟩
  · go_wp2_with (first
      | (go_at_fn g; refine HT.out.mono ?_; rintro e u1 ⟨rfl, hb⟩; have B1 := Lib.hid hb; clear hb)
      | fail)
    go_ret
    exact ⟨rfl, B1.out⟩
theorem below_two {w : World} (o p : Obj) : Below w.heap.size w ((w.alloc o).alloc p) := below_chain ((Below.refl _ _).alloc (Nat.le_refl _) o) ((Below.refl _ _).alloc (Nat.le_refl _) p)
def UnlessRet (w : World) (st g : Nat) (lb : Array Value) (e : Ending) (w' : World) : Prop := ∃ v, e = .returned v ∧ v.oneCell' = true ∧ (∀ b, TellV w' g lb b → AskV w' v (if b then 0 else st)) ∧ Below w.heap.size w w'
set_option maxHeartbeats 2000000 in
theorem unless_v (st : Nat) (g : Nat) (lb : Array Value) (w : World) :
    Calls Tryd.prog 36 #[.int .u8 (st : Int), .func (.func g) #[] lb] w fun e w' => UnlessRet w st g lb e w' := by
  go_enter Tryd.func36, Tryd.ntmps36
  go_wp2_with fail
  go_ret
  refine ⟨_, rfl, rfl, fun b hb => ⟨62, _, rfl, enters_of Tryd.func62 (by kernel_rfl) rfl, fun W hW => ?_⟩, below_two _ _⟩
  have c2 := (Cs.new w 5 #[.int .u8 (st : Int)]).alloc (.cells #[.func (.func g) #[] lb] 48)
  have c3 := Cs.new (w.alloc (.cells #[.int .u8 (st : Int)] 5)) 48 #[.func (.func g) #[] lb]
  have := unless1_v (w.alloc (.cells #[.int .u8 (st : Int)] 5)).heap.size w.heap.size st g lb b W (c3.below hW c3.lt) (c2.below hW c2.lt) (hb.later hW)
  simpa using this

end Go.Proofs.YtenpmbfncnepgaaDoor

/- The program: what may be asked of a tree. -/
namespace Go.Proofs.YtenpmbfncnepgaaDoor
open Go.RowKit Go.Shelf
set_option linter.unusedVariables false
set_option maxRecDepth 100000
set_option linter.unusedSimpArgs false

theorem NodeP.one {A : Option Addr} {l : List Nd} {v : Value} {r : Option Nd} (h : NodeP A l v r) : v.oneCell' = true := by
  rcases h with ⟨-, rfl⟩ | ⟨i, b, off, hi, -, -, rfl⟩ <;> rfl
/-- a value of one cell, boxed -/
theorem wp_boxV {P : Program} {w : World} {o : Oper} {a : Act} {K : Act → World → Prop} {Q : Exit → Act → World → Prop} (t : TypeId) (x : Operand) (ho : o.op = .box t x) (v : Value) (hx : a.eval x = v) (h1 : v.oneCell' = true)
    (h : K (a.put o.dst (.pointer (some ⟨w.heap.size, 0, none⟩))) (w.alloc (.cells #[v] t))) : o.wp P a w K Q := by
  unfold Oper.wp execOp
  simp only [ho, hx, Instr.box, newVar, newRow, cells_single h1, run_newObj, Sem.run_bind, Sem.run_pure, Result.andThen_ok]
  exact h
theorem wpList_boxV {P : Program} {w : World} {ops : Array Oper} {rest : List Oper} {o : Oper} {a : Act} {Q : Exit → Act → World → Prop} (hgd : o.guard = none) (t : TypeId) (x : Operand) (ho : o.op = .box t x) (v : Value) (hx : a.eval x = v) (h1 : v.oneCell' = true)
    (hK : ∀ g w', Cs w' g t #[v] → Below w.heap.size w w' → w.heap.size ≤ g → wpList P ops Q rest (a.put o.dst (.pointer (some ⟨g, 0, none⟩))) w') : wpList P ops Q (o :: rest) a w :=
  wpList_plain hgd fun _ hK' => wp_boxV t x ho v hx h1 (hK' _ _ (hK _ _ (Cs.new _ _ _) ((Below.refl _ _).alloc (Nat.le_refl _) _) (Nat.le_refl _)))
theorem ask_of {g : Nat} {lb : Array Value} {w : World} {b : Bool} (eg : ∀ args w, (callFunc g args).run Tryd.prog w = .ok (.enter g args) w) (h : ∀ W, Below w.heap.size w W → Calls Tryd.prog g lb W fun e w' => e = .returned (.bool b) ∧ Below W.heap.size W w') : TellV w g lb b := ⟨eg, h⟩
/-! ### may it be? -/
set_option maxHeartbeats 2000000 in
theorem mayBe_v (cs : List Value) (w : World) (hl : cs.length = 16) (hM : ∀ W, Below w.heap.size w W → Calls Tryd.prog 38 #[.agg cs.toArray] W fun e w' => e = .returned (.bool true) ∧ Below W.heap.size W w') :
    Calls Tryd.prog 14 #[.agg cs.toArray] w fun e w' => AskRet w True 0 e w' := by
  have HM := Lib.hid hM
  have HL := Lib.hid hl
  clear hM hl
  go_enter Tryd.func14, Tryd.ntmps14
  go_wp2_with (first
    | ((with_reducible show wpList _ _ _ _ _ w); refine wpList_boxS rfl 31 _ rfl cs rfl ?_; intro g1 w1 hk1 hb1 hg1; go_frame; have C1 := Lib.hid hk1; have B1 := Lib.hid hb1; clear hk1 hb1 hg1)
    | fail)
  refine (unless_v 8 37 #[.pointer (some ⟨g1, 0, none⟩)] w1).mono ?_
  rintro e w2 ⟨v, rfl, h1, hv, hb⟩
  have HV := Lib.hid (show AskV w2 v 0 from hv true (ask_of (enters_of Tryd.func37 (by kernel_rfl) rfl) fun W hW => by
    have HB := Lib.hid hW
    have CW := Lib.hid (C1.out.below (below_chain hb hW) C1.out.lt)
    have HMW := Lib.hid (HM.out W (below_chain (below_chain B1.out hb) hW))
    clear hW hv hb h1
    go_enter Tryd.func37, Tryd.ntmps37
    go_wp2_with (first
      | ((with_reducible show wpList _ _ _ _ _ W); refine wpList_loadS rfl 31 _ rfl g1 rfl cs CW.out _ Tryd.underlying31 rfl (by rw [HL.out]; exact infoTree) ?_; go_frame)
      | fail)
    refine HMW.out.mono ?_
    rintro e w3 ⟨rfl, hb⟩
    have B3 := Lib.hid hb
    clear hb
    go_wp2_with fail
    go_ret
    exact ⟨rfl, B3.out⟩))
  have B2 := Lib.hid (below_chain B1.out hb)
  have H1 := Lib.hid h1
  clear hv hb h1
  go_wp2_with fail
  go_ret
  exact ⟨v, rfl, H1.out, fun _ => HV.out, B2.out⟩
/-- a status, where it is not so -/
def stOf (b : Bool) (st : Nat) : Nat := if b then 0 else st
def emptyO : Option Nd → Bool
  | none => true
  | some d => d.names.isEmpty
theorem Is_sv (nm : Key) (w : World) (hT : Tabs w) : Calls Tryd.prog 42 #[sv nm] w fun e w' => e = .returned (.bool (nameL nm)) ∧ Below w.heap.size w w' := by
  have := Is_any ⟨nm.toArray⟩ w hT
  show Calls Tryd.prog 42 #[.string ⟨nm.toArray⟩] w _
  simpa [L] using this
set_option maxHeartbeats 2000000 in
theorem isThere_v (v0 : Value) (st : Nat) (A : Option Addr) (l : List Nd) (r : Option Nd) (w : World) (hp : NodeP A l v0 r) :
    Calls Tryd.prog 15 #[v0, .int .u8 (st : Int)] w fun e w' => AskRet w (True) (stOf (r.isSome) st) e w' := by
  have HP := Lib.hid hp
  have HO := Lib.hid hp.one
  clear hp
  go_enter Tryd.func15, Tryd.ntmps15
  go_wp2_with (first
    | ((with_reducible show wpList _ _ _ _ _ w); refine wpList_boxV rfl 51 _ rfl (v0) rfl HO.out ?_; intro g0 w1 hk1 hb1 hg1; go_frame; have C0_1 := Lib.hid hk1; have B1 := Lib.hid hb1; clear hk1 hb1 hg1)
    | fail)
  refine (unless_v st 39 #[.pointer (some ⟨g0, 0, none⟩)] w1).mono ?_
  rintro e wz ⟨v, rfl, h1, hv, hb⟩
  have HV := Lib.hid (show (True) → AskV wz v (stOf (r.isSome) st) by
    intro hK
    refine hv (r.isSome) (ask_of (enters_of Tryd.func39 (by kernel_rfl) rfl) ?_)
    intro W hW
    have BW := Lib.hid (below_chain B1.out (below_chain hb hW))
    have CW0 := Lib.hid (C0_1.out.below (below_chain hb hW) C0_1.out.lt)
    clear hW hv hb h1
    have q0 : W.cell? ⟨g0, 0, none⟩ = some v0 := CW0.out.cell 0 rfl
    rcases HP.out with ⟨rfl, rfl⟩ | ⟨i, b, off, hi, rfl, rfl, rfl⟩
    · clear HP HO
      go_enter Tryd.func39, Tryd.ntmps39
      go_wp2_with fail
      go_ret
      exact ⟨by first | rfl | simp [], Below.refl _ _⟩
    · clear HP HO
      go_enter Tryd.func39, Tryd.ntmps39
      go_wp2_with fail
      go_ret
      exact ⟨by first | rfl | simp [], Below.refl _ _⟩
    )
  have BZ := Lib.hid (below_chain B1.out hb)
  have H1 := Lib.hid h1
  clear hv hb h1
  go_wp2_with fail
  go_ret
  exact ⟨v, rfl, H1.out, HV.out, BZ.out⟩
set_option maxHeartbeats 2000000 in
theorem isFree_v (v0 : Value) (A : Option Addr) (l : List Nd) (r : Option Nd) (w : World) (hp : NodeP A l v0 r) :
    Calls Tryd.prog 18 #[v0] w fun e w' => AskRet w (True) (stOf (r.isNone) 3) e w' := by
  have HP := Lib.hid hp
  have HO := Lib.hid hp.one
  clear hp
  go_enter Tryd.func18, Tryd.ntmps18
  go_wp2_with (first
    | ((with_reducible show wpList _ _ _ _ _ w); refine wpList_boxV rfl 51 _ rfl (v0) rfl HO.out ?_; intro g0 w1 hk1 hb1 hg1; go_frame; have C0_1 := Lib.hid hk1; have B1 := Lib.hid hb1; clear hk1 hb1 hg1)
    | fail)
  refine (unless_v 3 43 #[.pointer (some ⟨g0, 0, none⟩)] w1).mono ?_
  rintro e wz ⟨v, rfl, h1, hv, hb⟩
  have HV := Lib.hid (show (True) → AskV wz v (stOf (r.isNone) 3) by
    intro hK
    refine hv (r.isNone) (ask_of (enters_of Tryd.func43 (by kernel_rfl) rfl) ?_)
    intro W hW
    have BW := Lib.hid (below_chain B1.out (below_chain hb hW))
    have CW0 := Lib.hid (C0_1.out.below (below_chain hb hW) C0_1.out.lt)
    clear hW hv hb h1
    have q0 : W.cell? ⟨g0, 0, none⟩ = some v0 := CW0.out.cell 0 rfl
    rcases HP.out with ⟨rfl, rfl⟩ | ⟨i, b, off, hi, rfl, rfl, rfl⟩
    · clear HP HO
      go_enter Tryd.func43, Tryd.ntmps43
      go_wp2_with fail
      go_ret
      exact ⟨by first | rfl | simp [], Below.refl _ _⟩
    · clear HP HO
      go_enter Tryd.func43, Tryd.ntmps43
      go_wp2_with fail
      go_ret
      exact ⟨by first | rfl | simp [], Below.refl _ _⟩
    )
  have BZ := Lib.hid (below_chain B1.out hb)
  have H1 := Lib.hid h1
  clear hv hb h1
  go_wp2_with fail
  go_ret
  exact ⟨v, rfl, H1.out, HV.out, BZ.out⟩
set_option maxHeartbeats 2000000 in
theorem isName_v (nm : Key) (w : World) (hT : Tabs w) :
    Calls Tryd.prog 17 #[sv nm] w fun e w' => AskRet w (True) (stOf (nameL nm) 8) e w' := by
  have HT := Lib.hid hT
  clear hT
  go_enter Tryd.func17, Tryd.ntmps17
  go_wp2_with (first
    | ((with_reducible show wpList _ _ _ _ _ w); refine wpList_boxV rfl 9 _ rfl (sv nm) rfl rfl ?_; intro g0 w1 hk1 hb1 hg1; go_frame; have C0_1 := Lib.hid hk1; have B1 := Lib.hid hb1; clear hk1 hb1 hg1)
    | fail)
  refine (unless_v 8 41 #[.pointer (some ⟨g0, 0, none⟩)] w1).mono ?_
  rintro e wz ⟨v, rfl, h1, hv, hb⟩
  have HV := Lib.hid (show (True) → AskV wz v (stOf (nameL nm) 8) by
    intro hK
    refine hv (nameL nm) (ask_of (enters_of Tryd.func41 (by kernel_rfl) rfl) ?_)
    intro W hW
    have BW := Lib.hid (below_chain B1.out (below_chain hb hW))
    have CW0 := Lib.hid (C0_1.out.below (below_chain hb hW) C0_1.out.lt)
    clear hW hv hb h1
    have q0 : W.cell? ⟨g0, 0, none⟩ = some (sv nm) := CW0.out.cell 0 rfl
    have HI := Lib.hid (Is_sv nm W (HT.out.below BW.out))
    go_enter Tryd.func41, Tryd.ntmps41
    go_wp2_with fail
    refine HI.out.mono ?_
    rintro e u1 ⟨rfl, hb⟩
    have B1 := Lib.hid hb
    clear hb
    go_wp2_with fail
    go_ret
    exact ⟨rfl, B1.out⟩
    )
  have BZ := Lib.hid (below_chain B1.out hb)
  have H1 := Lib.hid h1
  clear hv hb h1
  go_wp2_with fail
  go_ret
  exact ⟨v, rfl, H1.out, HV.out, BZ.out⟩
set_option maxHeartbeats 2000000 in
theorem hasNode_v (cs : List Value) (t : Tr) (F : Nat → Prop) (w : World) (ht : TrAt w F cs t) (hs : t.nodes.length ≤ 1000000) :
    Calls Tryd.prog 20 #[.agg cs.toArray] w fun e w' => AskRet w (True) (stOf (decide (t.nodes.length < 64)) 7) e w' := by
  have HTR := Lib.hid ht
  clear ht
  go_enter Tryd.func20, Tryd.ntmps20
  go_wp2_with (first
    | ((with_reducible show wpList _ _ _ _ _ w); refine wpList_boxS rfl 31 _ rfl (cs) rfl ?_; intro g0 w1 hk1 hb1 hg1; go_frame; have C0_1 := Lib.hid hk1; have B1 := Lib.hid hb1; clear hk1 hb1 hg1)
    | fail)
  refine (unless_v 7 45 #[.pointer (some ⟨g0, 0, none⟩)] w1).mono ?_
  rintro e wz ⟨v, rfl, h1, hv, hb⟩
  have HV := Lib.hid (show (True) → AskV wz v (stOf (decide (t.nodes.length < 64)) 7) by
    intro hK
    refine hv (decide (t.nodes.length < 64)) (ask_of (enters_of Tryd.func45 (by kernel_rfl) rfl) ?_)
    intro W hW
    have BW := Lib.hid (below_chain B1.out (below_chain hb hW))
    have CW0 := Lib.hid (C0_1.out.below (below_chain hb hW) C0_1.out.lt)
    clear hW hv hb h1
    obtain ⟨nv, ss, rfl, ⟨B, c, rfl, -⟩, -⟩ := HTR.out
    have q0 : W.cell? ⟨g0, 0, none⟩ = some (.slice B t.nodes.length c) := CW0.out.cell 0 rfl
    by_cases h : t.nodes.length < 64
    · have i1 : (t.nodes.length : Int) < 64 := by omega
      go_enter Tryd.func45, Tryd.ntmps45
      go_wp2_with fail
      go_ret
      exact ⟨by first | rfl | simp [h], Below.refl _ _⟩
    · have i1 : ¬ (t.nodes.length : Int) < 64 := by omega
      go_enter Tryd.func45, Tryd.ntmps45
      go_wp2_with fail
      go_ret
      exact ⟨by first | rfl | simp [h], Below.refl _ _⟩
    )
  have BZ := Lib.hid (below_chain B1.out hb)
  have H1 := Lib.hid h1
  clear hv hb h1
  go_wp2_with fail
  go_ret
  exact ⟨v, rfl, H1.out, HV.out, BZ.out⟩
set_option maxHeartbeats 2000000 in
theorem hasGen_v (cs : List Value) (t : Tr) (F : Nat → Prop) (w : World) (ht : TrAt w F cs t) :
    Calls Tryd.prog 22 #[.agg cs.toArray] w fun e w' => AskRet w (True) (stOf (decide (t.lastGen < 2147483648)) 7) e w' := by
  have HTR := Lib.hid ht
  clear ht
  go_enter Tryd.func22, Tryd.ntmps22
  go_wp2_with (first
    | ((with_reducible show wpList _ _ _ _ _ w); refine wpList_boxS rfl 31 _ rfl (cs) rfl ?_; intro g0 w1 hk1 hb1 hg1; go_frame; have C0_1 := Lib.hid hk1; have B1 := Lib.hid hb1; clear hk1 hb1 hg1)
    | fail)
  refine (unless_v 7 47 #[.pointer (some ⟨g0, 0, none⟩)] w1).mono ?_
  rintro e wz ⟨v, rfl, h1, hv, hb⟩
  have HV := Lib.hid (show (True) → AskV wz v (stOf (decide (t.lastGen < 2147483648)) 7) by
    intro hK
    refine hv (decide (t.lastGen < 2147483648)) (ask_of (enters_of Tryd.func47 (by kernel_rfl) rfl) ?_)
    intro W hW
    have BW := Lib.hid (below_chain B1.out (below_chain hb hW))
    have CW0 := Lib.hid (C0_1.out.below (below_chain hb hW) C0_1.out.lt)
    clear hW hv hb h1
    obtain ⟨nv, ss, rfl, -⟩ := HTR.out
    have q0 : W.cell? ⟨g0, 1, none⟩ = some (.int .u32 (t.lastGen : Int)) := CW0.out.cell 1 rfl
    by_cases h : t.lastGen < 2147483648
    · have i1 : (t.lastGen : Int) < 2147483648 := by omega
      go_enter Tryd.func47, Tryd.ntmps47
      go_wp2_with fail
      go_ret
      exact ⟨by first | rfl | simp [h], Below.refl _ _⟩
    · have i1 : ¬ (t.lastGen : Int) < 2147483648 := by omega
      go_enter Tryd.func47, Tryd.ntmps47
      go_wp2_with fail
      go_ret
      exact ⟨by first | rfl | simp [h], Below.refl _ _⟩
    )
  have BZ := Lib.hid (below_chain B1.out hb)
  have H1 := Lib.hid h1
  clear hv hb h1
  go_wp2_with fail
  go_ret
  exact ⟨v, rfl, H1.out, HV.out, BZ.out⟩
set_option maxHeartbeats 2000000 in
theorem hasCount_v (cs : List Value) (t : Tr) (F : Nat → Prop) (w : World) (ht : TrAt w F cs t) :
    Calls Tryd.prog 23 #[.agg cs.toArray] w fun e w' => AskRet w (True) (stOf (decide (t.count < 2147483648)) 7) e w' := by
  have HTR := Lib.hid ht
  clear ht
  go_enter Tryd.func23, Tryd.ntmps23
  go_wp2_with (first
    | ((with_reducible show wpList _ _ _ _ _ w); refine wpList_boxS rfl 31 _ rfl (cs) rfl ?_; intro g0 w1 hk1 hb1 hg1; go_frame; have C0_1 := Lib.hid hk1; have B1 := Lib.hid hb1; clear hk1 hb1 hg1)
    | fail)
  refine (unless_v 7 48 #[.pointer (some ⟨g0, 0, none⟩)] w1).mono ?_
  rintro e wz ⟨v, rfl, h1, hv, hb⟩
  have HV := Lib.hid (show (True) → AskV wz v (stOf (decide (t.count < 2147483648)) 7) by
    intro hK
    refine hv (decide (t.count < 2147483648)) (ask_of (enters_of Tryd.func48 (by kernel_rfl) rfl) ?_)
    intro W hW
    have BW := Lib.hid (below_chain B1.out (below_chain hb hW))
    have CW0 := Lib.hid (C0_1.out.below (below_chain hb hW) C0_1.out.lt)
    clear hW hv hb h1
    obtain ⟨nv, ss, rfl, -⟩ := HTR.out
    have q0 : W.cell? ⟨g0, 3, none⟩ = some (.int .u32 (t.count : Int)) := CW0.out.cell 3 rfl
    by_cases h : t.count < 2147483648
    · have i1 : (t.count : Int) < 2147483648 := by omega
      go_enter Tryd.func48, Tryd.ntmps48
      go_wp2_with fail
      go_ret
      exact ⟨by first | rfl | simp [h], Below.refl _ _⟩
    · have i1 : ¬ (t.count : Int) < 2147483648 := by omega
      go_enter Tryd.func48, Tryd.ntmps48
      go_wp2_with fail
      go_ret
      exact ⟨by first | rfl | simp [h], Below.refl _ _⟩
    )
  have BZ := Lib.hid (below_chain B1.out hb)
  have H1 := Lib.hid h1
  clear hv hb h1
  go_wp2_with fail
  go_ret
  exact ⟨v, rfl, H1.out, HV.out, BZ.out⟩
set_option maxHeartbeats 2000000 in
theorem isPiece_v (off n c : Nat) (A : Option Addr) (w : World) (hn : n ≤ 140737488355328) :
    Calls Tryd.prog 28 #[.int .u32 (off : Int), .slice A n c] w fun e w' => AskRet w (True) (stOf ((decide (0 < n) && decide (n ≤ 64) && decide (off + n ≤ 4096))) 8) e w' := by
  go_enter Tryd.func28, Tryd.ntmps28
  go_wp2_with (first
    | ((with_reducible show wpList _ _ _ _ _ w); refine wpList_boxV rfl 24 _ rfl (.int .u32 (off : Int)) rfl rfl ?_; intro g0 w1 hk1 hb1 hg1; go_frame; have C0_1 := Lib.hid hk1; have B1 := Lib.hid hb1; clear hk1 hb1 hg1)
    | ((with_reducible show wpList _ _ _ _ _ w1); refine wpList_boxV rfl 26 _ rfl (.slice A n c) rfl rfl ?_; intro g1 w2 hk1 hb1 hg1; go_frame; have C1_2 := Lib.hid hk1; have C0_2 := Lib.hid (C0_1.out.below hb1 C0_1.out.lt); have B2 := Lib.hid (below_chain B1.out hb1); clear hk1 hb1 hg1)
    | fail)
  refine (unless_v 8 54 #[.pointer (some ⟨g1, 0, none⟩), .pointer (some ⟨g0, 0, none⟩)] w2).mono ?_
  rintro e wz ⟨v, rfl, h1, hv, hb⟩
  have HV := Lib.hid (show (True) → AskV wz v (stOf ((decide (0 < n) && decide (n ≤ 64) && decide (off + n ≤ 4096))) 8) by
    intro hK
    refine hv ((decide (0 < n) && decide (n ≤ 64) && decide (off + n ≤ 4096))) (ask_of (enters_of Tryd.func54 (by kernel_rfl) rfl) ?_)
    intro W hW
    have BW := Lib.hid (below_chain B2.out (below_chain hb hW))
    have CW0 := Lib.hid (C0_2.out.below (below_chain hb hW) C0_2.out.lt)
    have CW1 := Lib.hid (C1_2.out.below (below_chain hb hW) C1_2.out.lt)
    clear hW hv hb h1
    have q0 : W.cell? ⟨g0, 0, none⟩ = some (.int .u32 (off : Int)) := CW0.out.cell 0 rfl
    have q1 : W.cell? ⟨g1, 0, none⟩ = some (.slice A n c) := CW1.out.cell 0 rfl
    by_cases h1 : 0 < n
    · have i1 : (0 : Int) < n := by omega
      by_cases h2 : n ≤ 64
      · have i2 : (n : Int) ≤ 64 := by omega
        have i5 : IntKind.u32.wrap (n : Int) = n := IntWalk.u32_in _ (by omega)
        have i6 : IntKind.u32.wrap (4096 - (n : Int)) = 4096 - n := IntWalk.u32_in _ (by omega)
        by_cases h3 : off + n ≤ 4096
        · have i3 : (off : Int) ≤ 4096 - n := by omega
          go_enter Tryd.func54, Tryd.ntmps54
          go_wp2_with fail
          go_ret
          exact ⟨by first | rfl | simp [h1, h2, h3], Below.refl _ _⟩
        · have i3 : ¬ (off : Int) ≤ 4096 - n := by omega
          go_enter Tryd.func54, Tryd.ntmps54
          go_wp2_with fail
          go_ret
          exact ⟨by first | rfl | simp [h1, h2, h3], Below.refl _ _⟩
      · have i2 : ¬ (n : Int) ≤ 64 := by omega
        go_enter Tryd.func54, Tryd.ntmps54
        go_wp2_with fail
        go_ret
        exact ⟨by first | rfl | simp [h1, h2], Below.refl _ _⟩
    · have i1 : ¬ (0 : Int) < n := by omega
      go_enter Tryd.func54, Tryd.ntmps54
      go_wp2_with fail
      go_ret
      exact ⟨by first | rfl | simp [h1], Below.refl _ _⟩
    )
  have BZ := Lib.hid (below_chain B2.out hb)
  have H1 := Lib.hid h1
  clear hv hb h1
  go_wp2_with fail
  go_ret
  exact ⟨v, rfl, H1.out, HV.out, BZ.out⟩
set_option maxHeartbeats 2000000 in
theorem isEmpty_v (v0 : Value) (A : Option Addr) (l : List Nd) (r : Option Nd) (F : Nat → Prop) (w : World) (hr : RdX nodeE w F A l) (hp : NodeP A l v0 r) :
    Calls Tryd.prog 55 #[v0] w fun e w' => AskRet w (True) (stOf (emptyO r) 6) e w' := by
  have HP := Lib.hid hp
  have HO := Lib.hid hp.one
  have HR := Lib.hid hr
  clear hp hr
  go_enter Tryd.func55, Tryd.ntmps55
  go_wp2_with (first
    | ((with_reducible show wpList _ _ _ _ _ w); refine wpList_boxV rfl 51 _ rfl (v0) rfl HO.out ?_; intro g0 w1 hk1 hb1 hg1; go_frame; have C0_1 := Lib.hid hk1; have B1 := Lib.hid hb1; clear hk1 hb1 hg1)
    | fail)
  refine (unless_v 6 76 #[.pointer (some ⟨g0, 0, none⟩)] w1).mono ?_
  rintro e wz ⟨v, rfl, h1, hv, hb⟩
  have HV := Lib.hid (show (True) → AskV wz v (stOf (emptyO r) 6) by
    intro hK
    refine hv (emptyO r) (ask_of (enters_of Tryd.func76 (by kernel_rfl) rfl) ?_)
    intro W hW
    have BW := Lib.hid (below_chain B1.out (below_chain hb hW))
    have CW0 := Lib.hid (C0_1.out.below (below_chain hb hW) C0_1.out.lt)
    clear hW hv hb h1
    have q0 : W.cell? ⟨g0, 0, none⟩ = some v0 := CW0.out.cell 0 rfl
    rcases HP.out with ⟨rfl, rfl⟩ | ⟨i, b, off, hi, rfl, rfl, rfl⟩
    · clear HP HO
      go_enter Tryd.func76, Tryd.ntmps76
      go_wp2_with fail
      go_ret
      exact ⟨by first | rfl | simp [], Below.refl _ _⟩
    · obtain ⟨dv, nv, hat, -, ⟨B, c, rfl, -⟩, -⟩ := nd_head (HR.out.below BW.out) hi
      have q5 : W.cell? ⟨b, off + i * 6 + 5, none⟩ = some (.slice B l[i].names.length c) := hat 5 _ rfl
      have HE := Lib.hid (show emptyO (some l[i]) = (l[i].names.length == 0) by unfold emptyO; dsimp only; cases l[i].names <;> rfl)
      clear hat
      generalize l[i] = x at *
      clear HP HO
      by_cases h : x.names.length = 0
      · have i1 : (x.names.length : Int) = 0 := by omega
        have i2 : ((x.names.length : Int) == 0) = true := by simp [i1]
        rw [HE.out]
        rw [show (x.names.length == 0) = true by simpa using h]
        clear h HE
        go_enter Tryd.func76, Tryd.ntmps76
        go_wp2_with fail
        go_ret
        exact ⟨by first | rfl | simp [], Below.refl _ _⟩
      · have i1 : ¬ (x.names.length : Int) = 0 := by omega
        have i2 : ((x.names.length : Int) == 0) = false := beq_false_of_ne i1
        rw [HE.out]
        rw [show (x.names.length == 0) = false by simpa using h]
        clear h HE
        go_enter Tryd.func76, Tryd.ntmps76
        go_wp2_with fail
        go_ret
        exact ⟨by first | rfl | simp [], Below.refl _ _⟩
    )
  have BZ := Lib.hid (below_chain B1.out hb)
  have H1 := Lib.hid h1
  clear hv hb h1
  go_wp2_with fail
  go_ret
  exact ⟨v, rfl, H1.out, HV.out, BZ.out⟩
def kindB (y dir : Bool) : Nat := if y = dir then 0 else if dir then 4 else 5
def kindS (r : Option Nd) (dir : Bool) : Nat := match r with | none => 0 | some d => if d.dir = dir then 0 else if dir then 4 else 5
set_option maxHeartbeats 2000000 in
theorem isKind1_v (g0 g1 : Nat) (v0 : Value) (dir : Bool) (A : Option Addr) (l : List Nd) (r : Option Nd) (F : Nat → Prop) (W : World) (h0 : Cs W g0 51 #[v0]) (h1 : Cs W g1 4 #[.bool dir]) (hr : RdX nodeE W F A l) (hp : NodeP A l v0 r) :
    Calls Tryd.prog 40 #[.pointer (some ⟨g0, 0, none⟩), .pointer (some ⟨g1, 0, none⟩)] W fun e w' => e = .returned (.int .u8 (kindS r dir : Int)) ∧ Below W.heap.size W w' := by
  have q0 : W.cell? ⟨g0, 0, none⟩ = some v0 := h0.cell 0 rfl
  have q1 : W.cell? ⟨g1, 0, none⟩ = some (.bool dir) := h1.cell 0 rfl
  rcases hp with ⟨rfl, rfl⟩ | ⟨i, b, off, hi, rfl, rfl, rfl⟩
  · clear hr h0 h1
    have HK := Lib.hid (show kindS none dir = 0 from rfl)
    generalize kindS none dir = kk at *
    go_enter Tryd.func40, Tryd.ntmps40
    go_wp2_with fail
    go_quiet (fail)
    go_wp2_with fail
    go_ret
    exact ⟨by rw [HK.out]; rfl, below_drewN (Below.refl _ _) _⟩
  · obtain ⟨dv, nv, hat, -⟩ := nd_head hr hi
    have q2 : W.cell? ⟨b, off + i * 6 + 2, none⟩ = some (.bool l[i].dir) := hat 2 _ rfl
    have HK := Lib.hid (show kindS (some l[i]) dir = kindB l[i].dir dir from rfl)
    clear hat hr h0 h1
    generalize kindS (some l[i]) dir = kk at *
    generalize l[i].dir = y at *
    go_enter Tryd.func40, Tryd.ntmps40
    go_wp2_with fail
    cases y <;> cases dir
    all_goals
      go_quiet (fail)
      go_wp2_with fail
      go_ret
      refine ⟨?_, below_drewN (Below.refl _ _) _⟩
      rw [HK.out]
      rfl
set_option maxHeartbeats 2000000 in
theorem isKind_v (v0 : Value) (dir : Bool) (A : Option Addr) (l : List Nd) (r : Option Nd) (F : Nat → Prop) (w : World) (hr : RdX nodeE w F A l) (hp : NodeP A l v0 r) :
    Calls Tryd.prog 16 #[v0, .bool dir] w fun e w' => AskRet w True (kindS r dir) e w' := by
  have HP := Lib.hid hp
  have HO := Lib.hid hp.one
  have HR := Lib.hid hr
  clear hp hr
  go_enter Tryd.func16, Tryd.ntmps16
  go_wp2_with (first
    | ((with_reducible show wpList _ _ _ _ _ w); refine wpList_boxV rfl 51 _ rfl (v0) rfl HO.out ?_; intro g0 w1 hk1 hb1 hg1; go_frame; have C1 := Lib.hid hk1; have B1 := Lib.hid hb1; clear hk1 hb1 hg1)
    | ((with_reducible show wpList _ _ _ _ _ w1); refine wpList_boxV rfl 4 _ rfl (.bool dir) rfl rfl ?_; intro g1 w2 hk1 hb1 hg1; go_frame; have C2 := Lib.hid hk1; have C12 := Lib.hid (C1.out.below hb1 C1.out.lt); have B2 := Lib.hid (below_chain B1.out hb1); clear hk1 hb1 hg1)
    | fail)
  go_ret
  exact ⟨_, rfl, rfl, fun _ => ⟨40, _, rfl, enters_of Tryd.func40 (by kernel_rfl) rfl, fun W hW => isKind1_v g0 g1 v0 dir A l r F W (C12.out.below hW C12.out.lt) (C2.out.below hW C2.out.lt) (HR.out.below (below_chain B2.out hW)) HP.out⟩, B2.out⟩
theorem run_eql_blk (W : World) (b o o' : Nat) (q : Bool) (hq : decide (o = o') = q) : (binOp .eql 51 (.pointer (some ⟨b, o, none⟩)) (.pointer (some ⟨b, o', none⟩))).run Tryd.prog W = .ok (.bool q) W := by
  have hu : Tryd.prog.underlying 51 = some (.pointer 34) := Tryd.underlying51
  obtain ⟨j, hj, hs⟩ : ∃ j, Tryd.prog.info? 34 = some j ∧ j.size = 6 := by
    cases e : Tryd.prog.info? 34 with
    | none => have := infoNode; rw [e] at this; cases this
    | some j => exact ⟨j, rfl, by have := infoNode; rw [e] at this; simpa using this⟩
  subst hq
  have h : ∀ d : Nat, (Op.equalIn (d + 1) 51 (.pointer (some ⟨b, o, none⟩)) (.pointer (some ⟨b, o', none⟩))).run Tryd.prog W = .ok (decide (o = o')) W := fun d => by
    simp [Op.equalIn, run_underlying hu, sizeOf, typeInfo, hj, hs, sameAddr]
    by_cases e : o = o' <;> simp [e]
  simp only [binOp]
  simp [Op.equal, Op.maxDepth, h 9999]
/-- is there room for a name? -/
def roomB (d f o : Option Nd) : Bool := decide (d.map (·.ino) = f.map (·.ino)) || o.isSome || (match d with | none => false | some d => decide (d.names.length < 32))
theorem ino_ne {l : List Nd} (hs : SortN l) {i j : Nat} (hi : i < l.length) (hj : j < l.length) (h : i ≠ j) : l[i].ino ≠ l[j].ino := by
  rcases Nat.lt_or_ge i j with c | c
  · have := List.pairwise_iff_getElem.1 hs i j hi hj c; omega
  · have := List.pairwise_iff_getElem.1 hs j i hj hi (by omega); omega
set_option maxHeartbeats 2000000 in
theorem hasEntry_v (v0 v1 v2 : Value) (A : Option Addr) (l : List Nd) (d f o : Option Nd) (F : Nat → Prop) (w : World) (hs : SortN l) (hr : RdX nodeE w F A l) (hl : ∀ n ∈ l, n.names.length ≤ 1000000) (hp0 : NodeP A l v0 d) (hp1 : NodeP A l v1 f) (hp2 : NodeP A l v2 o) :
    Calls Tryd.prog 21 #[v0, v1, v2] w fun e w' => AskRet w (d.isSome = true) (stOf (roomB d f o) 7) e w' := by
  have HP0 := Lib.hid hp0
  have HP1 := Lib.hid hp1
  have HP2 := Lib.hid hp2
  have H0 := Lib.hid hp0.one
  have H1o := Lib.hid hp1.one
  have H2 := Lib.hid hp2.one
  have HR := Lib.hid hr
  have HS := Lib.hid hs
  have HL := Lib.hid hl
  clear hp0 hp1 hp2 hr hs hl
  go_enter Tryd.func21, Tryd.ntmps21
  go_wp2_with (first
    | ((with_reducible show wpList _ _ _ _ _ w); refine wpList_boxV rfl 51 _ rfl (v0) rfl H0.out ?_; intro g0 w1 hk1 hb1 hg1; go_frame; have C0_1 := Lib.hid hk1; have B1 := Lib.hid hb1; clear hk1 hb1 hg1)
    | ((with_reducible show wpList _ _ _ _ _ w1); refine wpList_boxV rfl 51 _ rfl (v1) rfl H1o.out ?_; intro g1 w2 hk1 hb1 hg1; go_frame; have C1_2 := Lib.hid hk1; have C0_2 := Lib.hid (C0_1.out.below hb1 C0_1.out.lt); have B2 := Lib.hid (below_chain B1.out hb1); clear hk1 hb1 hg1)
    | ((with_reducible show wpList _ _ _ _ _ w2); refine wpList_boxV rfl 51 _ rfl (v2) rfl H2.out ?_; intro g2 w3 hk1 hb1 hg1; go_frame; have C2_3 := Lib.hid hk1; have C0_3 := Lib.hid (C0_2.out.below hb1 C0_2.out.lt); have C1_3 := Lib.hid (C1_2.out.below hb1 C1_2.out.lt); have B3 := Lib.hid (below_chain B2.out hb1); clear hk1 hb1 hg1)
    | fail)
  refine (unless_v 7 46 #[.pointer (some ⟨g0, 0, none⟩), .pointer (some ⟨g1, 0, none⟩), .pointer (some ⟨g2, 0, none⟩)] w3).mono ?_
  rintro e wz ⟨v, rfl, h1, hv, hb⟩
  have HV := Lib.hid (show (d.isSome = true) → AskV wz v (stOf (roomB d f o) 7) by
    intro hK
    refine hv (roomB d f o) (ask_of (enters_of Tryd.func46 (by kernel_rfl) rfl) ?_)
    intro W hW
    have BW := Lib.hid (below_chain B3.out (below_chain hb hW))
    have CW0 := Lib.hid (C0_3.out.below (below_chain hb hW) C0_3.out.lt)
    have CW1 := Lib.hid (C1_3.out.below (below_chain hb hW) C1_3.out.lt)
    have CW2 := Lib.hid (C2_3.out.below (below_chain hb hW) C2_3.out.lt)
    clear hW hv hb h1
    have q0 : W.cell? ⟨g0, 0, none⟩ = some v0 := CW0.out.cell 0 rfl
    have q1 : W.cell? ⟨g1, 0, none⟩ = some v1 := CW1.out.cell 0 rfl
    have q2 : W.cell? ⟨g2, 0, none⟩ = some v2 := CW2.out.cell 0 rfl
    rcases HP0.out with ⟨rfl, rfl⟩ | ⟨i, b, off, hi, rfl, rfl, rfl⟩
    · cases hK
    · obtain ⟨dv, nv, hat, -, ⟨B, c, rfl, -⟩, -⟩ := nd_head (HR.out.below BW.out) hi
      have q5 : W.cell? ⟨b, off + i * 6 + 5, none⟩ = some (.slice B l[i].names.length c) := hat 5 _ rfl
      have HLN := Lib.hid (HL.out _ (List.getElem_mem hi))
      have iln : (l[i].names.length : Int) ≤ 1000000 := by have := HLN.out; omega
      rcases HP1.out with ⟨rfl, rfl⟩ | ⟨j, b1, off1, hj, rfl, e, rfl⟩
      · have HB := Lib.hid (show roomB (some l[i]) none o = (o.isSome || decide (l[i].names.length < 32)) by simp [roomB])
        generalize roomB (some l[i]) none o = bb at *
        clear hat HP0 HP1
        generalize l[i] = x at *
        rcases HP2.out with ⟨rfl, rfl⟩ | ⟨k, b2, off2, hk, rfl, e2, rfl⟩
        · clear HP2
          by_cases h : x.names.length < 32
          · have i1 : (x.names.length : Int) < 32 := by omega
            obtain rfl : bb = true := by rw [HB.out]; simp [h]
            clear h
            go_enter Tryd.func46, Tryd.ntmps46
            go_wp2_with fail
            go_ret
            exact ⟨by first | rfl | simp, Below.refl _ _⟩
          · have i1 : ¬ (x.names.length : Int) < 32 := by omega
            obtain rfl : bb = false := by rw [HB.out]; simp [h]
            clear h
            go_enter Tryd.func46, Tryd.ntmps46
            go_wp2_with fail
            go_ret
            exact ⟨by first | rfl | simp, Below.refl _ _⟩
        · obtain rfl : bb = true := by rw [HB.out]; simp
          clear HP2 e2
          go_enter Tryd.func46, Tryd.ntmps46
          go_wp2_with fail
          go_ret
          exact ⟨by first | rfl | simp, Below.refl _ _⟩
      · cases e
        by_cases hij : i = j
        · subst hij
          have hq := run_eql_blk W b (off + i * 6) (off + i * 6) true (by simp)
          have HB := Lib.hid (show roomB (some l[i]) (some l[i]) o = true by simp [roomB])
          generalize roomB (some l[i]) (some l[i]) o = bb at *
          obtain rfl : bb = true := HB.out
          clear hat HP0 HP1
          generalize l[i] = x at *
          go_enter Tryd.func46, Tryd.ntmps46
          go_wp2_with fail
          go_ret
          exact ⟨by first | rfl | simp, Below.refl _ _⟩
        · have h1 := ino_ne HS.out hi hj hij
          have HB := Lib.hid (show roomB (some l[i]) (some l[j]) o = (o.isSome || decide (l[i].names.length < 32)) by simp [roomB, h1])
          have hq := run_eql_blk W b (off + i * 6) (off + j * 6) false (by simp; omega)
          clear h1
          generalize roomB (some l[i]) (some l[j]) o = bb at *
          clear hat HP0 HP1
          generalize l[i] = x at *
          rcases HP2.out with ⟨rfl, rfl⟩ | ⟨k, b2, off2, hk, rfl, e2, rfl⟩
          · clear HP2
            by_cases h : x.names.length < 32
            · have i1 : (x.names.length : Int) < 32 := by omega
              obtain rfl : bb = true := by rw [HB.out]; simp [h]
              clear h
              go_enter Tryd.func46, Tryd.ntmps46
              go_wp2_with fail
              go_ret
              exact ⟨by first | rfl | simp, Below.refl _ _⟩
            · have i1 : ¬ (x.names.length : Int) < 32 := by omega
              obtain rfl : bb = false := by rw [HB.out]; simp [h]
              clear h
              go_enter Tryd.func46, Tryd.ntmps46
              go_wp2_with fail
              go_ret
              exact ⟨by first | rfl | simp, Below.refl _ _⟩
          · obtain rfl : bb = true := by rw [HB.out]; simp
            clear HP2 e2
            go_enter Tryd.func46, Tryd.ntmps46
            go_wp2_with fail
            go_ret
            exact ⟨by first | rfl | simp, Below.refl _ _⟩
    )
  have BZ := Lib.hid (below_chain B3.out hb)
  have H1 := Lib.hid h1
  clear hv hb h1
  go_wp2_with fail
  go_ret
  exact ⟨v, rfl, H1.out, HV.out, BZ.out⟩

end Go.Proofs.YtenpmbfncnepgaaDoor
