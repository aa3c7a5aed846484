/- What TreeBytes' walk takes: a list of bytes of one's own; what is written to one file. -/
import Derived.Test.YtenpmbfncnepgaaDoorTrePp
namespace Go.Proofs.YtenpmbfncnepgaaDoor
open Go.RowKit Go.Shelf
set_option linter.unusedVariables false
set_option maxRecDepth 100000
set_option linter.unusedSimpArgs false

def byE : Elem UInt8 where
  ety := 5
  sty := 26
  n := 1
  bytes := 1
  rd w F cs x := cs = [.int .u8 (x.toNat : Int)]
  und := Tryd.underlying26
  info := ⟨_, _, rfl, rfl, rfl, rfl, rfl⟩
  pos := by decide
  byt := by decide
  len := by rintro w F cs x rfl; rfl
  one := by
    rintro w F cs x rfl u hu
    simp at hu
    subst hu
    rfl
  turn := fun h _ _ => h
  mono := fun h _ => h
theorem by_rd {w : World} {F : Nat → Prop} {A : Option Addr} {l : List UInt8} (h : RdX byE w F A l) : Rd w A l := by
  by_cases hl : l = []
  · exact .inl hl
  obtain ⟨b, off, cs, e, -, -⟩ := h.get 0 (List.length_pos_iff.2 hl)
  refine .inr ⟨b, off, e, fun j hj => ?_⟩
  obtain ⟨b', off', cs', e', hcs, hat⟩ := h.get j hj
  rw [e] at e'
  cases e'
  have h1 := hat 0 (.int .u8 (l[j].toNat : Int)) (by rw [show cs' = [.int .u8 (l[j].toNat : Int)] from hcs]; rfl)
  rwa [show byE.n = 1 from rfl, Nat.mul_one] at h1
/-- a list of bytes of one's own -/
def OwnY (w : World) (B : Nat) (v : Value) (l : List UInt8) : Prop := OwnX byE w B (fun k => v.ownBlock = some k) v l
theorem OwnY.any {w : World} {B : Nat} {F : Nat → Prop} {v : Value} {l : List UInt8} (h : OwnX byE w B F v l) : OwnY w B v l := by
  obtain ⟨⟨xs, h1, h2⟩, h3⟩ := h
  exact ⟨⟨xs, h1, h2.1, h2.2⟩, fun k h => h⟩
theorem OwnY.all {w : World} {B : Nat} {v : Value} {l : List UInt8} (h : OwnY w B v l) : OwnX byE w B (fun _ => True) v l := by
  obtain ⟨⟨xs, h1, h2⟩, h3⟩ := h
  exact ⟨⟨xs, h1, h2.1, h2.2⟩, fun k h => trivial⟩
theorem OwnY.blk {W : World} {B : Nat} {v : Value} {q : List UInt8} (h : OwnY W B v q) {k : Nat} (hk : v.ownBlock = some k) : B ≤ k ∧ ∃ cs, Cs W k 5 cs := by
  obtain ⟨⟨xs, h1, h2⟩, h3⟩ := h
  exact own_blk h1 hk
theorem OwnY.turn {W W' : World} {B : Nat} {v : Value} {q : List UInt8} {G : Nat → Prop} (h : OwnY W B v q) (ht : Turn W W' G) (hG : ∀ k, v.ownBlock = some k → ¬ G k) : OwnY W' B v q := OwnX.turn h ht hG
theorem OwnY.below {W W' : World} {B : Nat} {v : Value} {q : List UInt8} (h : OwnY W B v q) (hb : Below W.heap.size W W') : OwnY W' B v q := OwnX.below h hb
theorem OwnY.form {W : World} {B : Nat} {v : Value} {q : List UInt8} (h : OwnY W B v q) : ∃ A c, v = .slice A q.length c ∧ Rd W A q := by
  obtain ⟨A, c, h1, h2, -⟩ := OwnX.form h
  exact ⟨A, c, h1, by_rd h2⟩
section
variable {w : World} {ops : Array Oper} {rest : List Oper} {o : Oper} {a : Act} {Q : Exit → Act → World → Prop}
theorem wpList_buildY (hgd : o.guard = none) (x : Operand) (ho : o.op = .buildSlice 26 1 #[(0, x)]) (c : UInt8) (hx : a.eval x = .int .u8 (c.toNat : Int))
    (hK : ∀ g w', Cs w' g 5 #[.int .u8 (c.toNat : Int)] → Below w.heap.size w w' → w.heap.size ≤ g → wpList Tryd.prog ops Q rest (a.put o.dst (.slice (some ⟨g, 0, none⟩) 1 1)) w') : wpList Tryd.prog ops Q (o :: rest) a w := by
  refine wpList_plain hgd fun _ hh => wp_of_run2 (v := .slice (some ⟨w.heap.size, 0, none⟩) 1 1) (w' := w.alloc (.cells #[.int .u8 (c.toNat : Int)] 5)) ?_ (hh _ _ (hK _ _ (Cs.new _ _ _) ((Below.refl _ _).alloc (Nat.le_refl _) _) (Nat.le_refl _)))
  unfold execOp
  simp only [ho, hx, List.map_toArray, List.map_cons, List.map_nil]
  go_simp
theorem wpList_appY (hgd : o.guard = none) (s x : Operand) (ho : o.op = .call { callee := .builtin .append, args := #[s, x], argTypes := #[26, 26] }) {B : Nat} {v : Value} {l : List UInt8} (hs : a.eval s = v) (hown : OwnY w B v l)
    (g c : Nat) (hx : a.eval x = .slice (some ⟨g, 0, none⟩) 1 c) (n : UInt8) (hg : Cs w g 5 #[.int .u8 (n.toNat : Int)]) (hb : l.length ≤ 1073741824) (hB : B ≤ w.heap.size)
    (h : ∀ v' w', OwnY w' B v' (l ++ [n]) → w.grownBy w' v.ownBlock → (v'.ownBlock = v.ownBlock ∨ v'.ownBlock = some w.heap.size) → wpList Tryd.prog ops Q rest (a.put o.dst v') w') : wpList Tryd.prog ops Q (o :: rest) a w := by
  obtain ⟨i0, z, hi, hz0, hz1, hz2, hz3⟩ := byE.info
  obtain ⟨⟨vs, h1, h2⟩, h3⟩ := id hown
  have hl1 := h1.1
  obtain ⟨v', w', hrun, r1, r2, r3, r4⟩ := run_append_own_at (P := Tryd.prog) w B byE.sty o.type byE.ety i0 z byE.n byE.bytes byE.und hi hz0 hz1 hz2 hz3 byE.pos v l.length vs h1 ⟨g, 0, none⟩ 1 c [.int .u8 (n.toNat : Int)] rfl
    (fun j u hu => by rw [addr_add, Nat.zero_add]; exact hg.cell j (by simpa using hu)) (by intro u hu; simp at hu; subst hu; rfl) (by simp only [maxLen]; omega) (Nat.le_trans (Nat.mul_le_mul_left _ (show byE.bytes ≤ 1 from Nat.le_refl _)) (by omega)) hB
  refine wpList_plain hgd fun _ hh => ?_
  unfold Oper.wp execOp
  simp only [ho, resolve, invoke, builtin, Sem.run_bind, Sem.run_pure, Result.andThen_ok, List.map_toArray, List.map_cons, List.map_nil, hs, hx, show byE.sty = 26 from rfl] at hrun ⊢
  simp only [hrun]
  refine hh _ _ (h v' w' ⟨⟨vs ++ [.int .u8 (n.toNat : Int)], by rw [List.length_append]; exact r1, ?_⟩, fun k hk => hk⟩ r2 r4)
  have e1 : RowX byE w' (fun k => v'.ownBlock = some k ∧ v'.ownBlock ≠ some k) (vs ++ [.int .u8 (n.toNat : Int)]) (l ++ [n]) := by
    have k1 : RowX byE w' (fun k => v'.ownBlock = some k ∧ v'.ownBlock ≠ some k) vs l := ⟨h2.1, h2.2⟩
    exact k1.append (RowX.single rfl)
  exact e1
/-- one of the bytes, stored -/
theorem wpList_setY (hgd : o.guard = none) (x y : Operand) (ho : o.op = .store 5 x y) {B : Nat} {g n c : Nat} {l : List UInt8} (hown : OwnY w B (.slice (some ⟨g, 0, none⟩) n c) l) (k : Nat) (hk : k < l.length) (hx : a.eval x = .pointer (some ⟨g, k, none⟩)) (t : UInt8) (hy : a.eval y = .int .u8 (t.toNat : Int))
    (h : ∀ w', OwnY w' B (.slice (some ⟨g, 0, none⟩) n c) (l.set k t) → Turn w w' (· = g) → wpList Tryd.prog ops Q rest (a.put o.dst undef) w') : wpList Tryd.prog ops Q (o :: rest) a w := by
  obtain ⟨⟨xs, h1, h2⟩, h3⟩ := hown
  rcases h1.2 with ⟨hv, h0⟩ | ⟨g', cap, cur, hv, hbs, hg, hn, hc, hsz, htk⟩
  · omega
  · injection hv with e1 e3 e2
    injection e1 with e1
    injection e1 with e1
    subst e1 e2 e3
    have hsz2 : cur.size = c * 1 := hsz
    have htk2 : cur.toList.take (l.length * 1) = xs := htk
    refine wpList_store1 hgd 5 x y ho g k hx (.int .u8 (t.toNat : Int)) hy rfl (by kernel_rfl) 5 cur hg (by omega) fun w' hc' ht' => h w' ⟨⟨xs.set k (.int .u8 (t.toNat : Int)), ?_, ?_⟩, h3⟩ ht'
    · rw [List.length_set]
      refine ⟨by rw [List.length_set]; exact h1.1, .inr ⟨g, c, _, rfl, hbs, hc', hn, hc, by simpa using hsz, ?_⟩⟩
      rw [Array.toList_setIfInBounds, ← htk, List.take_set]
    · refine ⟨by rw [List.length_set, List.length_set]; exact h2.1, fun j hj => ?_⟩
      rw [List.length_set] at hj
      have hxl : xs.length = l.length * 1 := h2.1
      have h4 := h2.2 j hj
      rw [show byE.n = 1 from rfl, Nat.mul_one] at h4 ⊢
      by_cases e : k = j
      · subst e
        rw [List.getElem_set_self]
        show ((xs.set k _).drop k).take 1 = [_]
        rw [List.set_eq_take_append_cons_drop, if_pos (by omega), List.drop_append, List.drop_of_length_le (by rw [List.length_take]; omega), List.length_take, Nat.min_eq_left (by omega), Nat.sub_self]
        rfl
      · rw [List.getElem_set_ne e]
        have h5 : ((xs.set k (.int .u8 (t.toNat : Int))).drop j).take 1 = (xs.drop j).take 1 := by
          apply List.ext_getElem?
          intro i
          cases i with
          | zero => rw [List.getElem?_take_of_lt (by decide), List.getElem?_take_of_lt (by decide), List.getElem?_drop, List.getElem?_drop, List.getElem?_set_ne (by omega)]
          | succ i => rw [List.getElem?_take_eq_none (by omega), List.getElem?_take_eq_none (by omega)]
        rw [h5]
        exact h4
end
/-! ### plain: one file, written again and again -/
structure FileI (t : Tr) (W : List UInt8) (k : Nat) : Prop where
  may : MayT t
  file : ∃ d, findT t.nodes (2, 2) = some d ∧ d.dir = false ∧ d.data = W
  count : t.count ≤ 2 + k
theorem file_start : FileI (fileT nmF) [] 0 := ⟨may_file name_f, ⟨_, rfl, rfl, rfl⟩, Nat.le_refl _⟩
def goodW (off : Nat) (b : List UInt8) : Prop := 1 ≤ b.length ∧ b.length ≤ 64 ∧ off + b.length ≤ 4096
theorem FileI.good {t : Tr} {W : List UInt8} {k : Nat} (h : FileI t W k) (hk : k ≤ 1000) {off : Nat} {b : List UInt8} (hg : goodW off b) : (writeT t (2, 2) off b).2 = 0 ∧ FileI (writeT t (2, 2) off b).1 (putB W off b) (k + 1) := by
  obtain ⟨d, h1, h2, h3⟩ := h.file
  have h4 : t.count ≤ 2 + k := h.count
  have e : writeT t (2, 2) off b = (dataT t 2 fun l => putB l off b, 0) := by
    unfold writeT
    rw [if_pos h.may, h1]
    dsimp only
    rw [if_neg (by rw [h2]; decide), if_neg, if_neg (by omega)]
    rintro (h | h | h)
    · subst h; exact absurd hg.1 (by simp)
    · have := hg.2.1; omega
    · have := hg.2.2; omega
  have hs := step_write h.may (2, 2) off b
  rw [e] at hs ⊢
  obtain ⟨k1, k2, k3⟩ := (findT_some h.may.rise).1 h1
  refine ⟨rfl, hs.may, ⟨{ d with chg := stampT t, data := putB d.data off b }, ?_, h2, by rw [← h3]⟩, ?_⟩
  · refine (findT_some hs.may.rise).2 ⟨?_, k2, k3⟩
    exact mem_updN.2 (.inr ⟨d, k1, k2, rfl⟩)
  · show t.count + 1 ≤ 2 + (k + 1)
    omega
theorem FileI.bad {t : Tr} {W : List UInt8} {k : Nat} (h : FileI t W k) {off : Nat} {b : List UInt8} (hg : ¬ goodW off b) : (writeT t (2, 2) off b).2 = 8 ∧ FileI (writeT t (2, 2) off b).1 W (k + 1) := by
  obtain ⟨d, h1, h2, h3⟩ := h.file
  have e : writeT t (2, 2) off b = (t, 8) := by
    unfold writeT
    rw [if_pos h.may, h1]
    dsimp only
    rw [if_neg (by rw [h2]; decide), if_pos]
    by_cases hb : b = []
    · exact .inl hb
    · have : 1 ≤ b.length := List.length_pos_iff.2 hb
      by_cases h5 : 64 < b.length
      · exact .inr (.inl h5)
      · right; right
        by_cases h6 : 4096 < off + b.length
        · exact h6
        · exact absurd ⟨this, by omega, by omega⟩ hg
  rw [e]
  exact ⟨rfl, h.may, h.file, by show t.count ≤ 2 + (k + 1); have := h.count; omega⟩
theorem FileI.find {t : Tr} {W : List UInt8} {k : Nat} (h : FileI t W k) : ∃ d, findV t (2, 2) = some d ∧ d.data = W := by
  obtain ⟨d, h1, h2, h3⟩ := h.file
  exact ⟨d, by unfold findV; rw [if_pos h.may]; exact h1, h3⟩
theorem pad_more (W : List UInt8) (m : Nat) : W ++ List.replicate m (0 : UInt8) ++ [0] = W ++ List.replicate (m + 1) 0 := by
  rw [List.append_assoc, List.replicate_succ']
/-- the first k bytes of b stand at off -/
def partW (P : List UInt8) (off : Nat) (b : List UInt8) (k : Nat) : List UInt8 := P.take off ++ b.take k ++ P.drop (off + k)
theorem partW_len {P : List UInt8} {off : Nat} {b : List UInt8} {k : Nat} (hk : k ≤ b.length) (h : off + b.length ≤ P.length) : (partW P off b k).length = P.length := by
  unfold partW
  rw [List.length_append, List.length_append, List.length_take, List.length_take, List.length_drop]
  omega
theorem partW_step {P : List UInt8} {off : Nat} {b : List UInt8} {k : Nat} (hk : k < b.length) (h : off + b.length ≤ P.length) : (partW P off b k).set (off + k) b[k] = partW P off b (k + 1) := by
  unfold partW
  have e1 : (P.take off ++ b.take k).length = off + k := by rw [List.length_append, List.length_take, List.length_take]; omega
  rw [List.set_append_right _ _ (by omega), e1, Nat.sub_self, List.take_succ_eq_append_getElem hk, List.append_assoc, List.append_assoc, List.append_assoc]
  congr 2
  rw [List.drop_eq_getElem_cons (i := off + k) (by omega), List.set_cons_zero]
  rfl
theorem partW_all {P : List UInt8} {off : Nat} {b : List UInt8} : partW P off b b.length = P.take off ++ b ++ P.drop (off + b.length) := by
  unfold partW
  rw [List.take_length]

end Go.Proofs.YtenpmbfncnepgaaDoor
