/- What is read, what is laid, what a Crash with all bits or without any makes of it; the comparison of two blocks; a list of numbers of the call's own. -/
import Derived.Test.YtnhbhfnpcbmjkaaDiskNilW
import Derived.Stop.BytesEq
namespace Go.Proofs.Ytnhbhfnpcbmjkaa
open Go.RowKit Go.Shelf Go.Maps
set_option linter.unusedVariables false
set_option linter.unusedSimpArgs false

/-- what is young is what waits -/
def YOK (s : DS) : Prop := ∀ n, lay s.q s.laid n = (match s.young n with | some l => some l | none => s.laid n)
def LOK (f : Tab) : Prop := ∀ n l, f n = some l → l.length = 64
theorem yok_fresh (n : Nat) : YOK (fresh n) := fun _ => rfl
theorem yok_wrote {s : DS} (h : YOK s) (n : Int) (l : Blk) : YOK (wrote s n l) := by
  intro i
  show lay (s.q ++ [(n, l)]) s.laid i = (match upd s.young n l i with | some l => some l | none => s.laid i)
  rw [lay_snoc]
  by_cases e : i = n
  · subst e
    rw [upd_same, upd_same]
  · rw [upd_other _ _ e, upd_other _ _ e]
    exact h i
theorem yok_flushed {s : DS} (h : YOK s) : YOK (flushed s) := fun _ => rfl
theorem lok_none : LOK none' := fun n l h => by cases h
theorem lok_upd {f : Tab} (h : LOK f) (n : Int) (l : Blk) (hl : l.length = 64) : LOK (upd f n l) := by
  intro i m hm
  unfold upd at hm
  split at hm
  · cases hm; exact hl
  · exact h i m hm
theorem lok_lay {f : Tab} (h : LOK f) (q : List (Int × Blk)) (hq : ∀ x ∈ q, x.2.length = 64) : LOK (lay q f) := by
  induction q generalizing f with
  | nil => exact h
  | cons x q ih => exact ih (lok_upd h x.1 x.2 (hq x (by simp))) (fun y hy => hq y (by simp [hy]))
theorem lok_tell {f : Tab} (h : LOK f) (n : Int) : (tell f n).length = 64 := by
  unfold tell
  cases e : f n with
  | none => exact zb_len
  | some l => exact h n l e
theorem read_lay {s : DS} (h : YOK s) (n : Int) : readN s n = tell (lay s.q s.laid) n := by
  unfold readN tell
  rw [h n]
  cases s.young n <;> rfl
theorem torn_all (was b : Blk) (hw : was.length = 64) (hb : b.length = 64) : torn was b 15 = b := by
  have b0 : bitAt 15 0 = true := by decide
  have b1 : bitAt 15 1 = true := by decide
  have b2 : bitAt 15 2 = true := by decide
  have b3 : bitAt 15 3 = true := by decide
  have key : ∀ q, q ≤ 4 → tornTo was b 15 q = b.take (16 * q) ++ was.drop (16 * q) := by
    intro q
    induction q with
    | zero => intro _; simp [tornTo]
    | succ q ih =>
      intro hq
      rw [tornTo_succ, ih (by omega), show bitAt 15 q = true by rcases (show q = 0 ∨ q = 1 ∨ q = 2 ∨ q = 3 by omega) with rfl | rfl | rfl | rfl <;> assumption, if_pos rfl]
      have e : (b.take (16 * q)).length = 16 * q := by rw [List.length_take]; omega
      rw [List.take_append_of_le_length (by omega), List.take_of_length_le (Nat.le_of_eq e), List.drop_append, e, List.drop_eq_nil_of_le (by omega : (b.take (16 * q)).length ≤ 16 * q + 16), List.nil_append, show 16 * q + 16 - 16 * q = 16 by omega, List.drop_drop,
        show 16 * q + 16 = 16 * (q + 1) by omega]
      congr 1
      rw [show 16 * (q + 1) = 16 * q + 16 by omega, List.take_add]
  unfold torn
  rw [key 4 (Nat.le_refl _), List.take_of_length_le (by omega), List.drop_eq_nil_of_le (by omega), List.append_nil]
theorem torn_none (was b : Blk) : torn was b 0 = was := by
  have key : ∀ q, q ≤ 4 → tornTo was b 0 q = was := by
    intro q
    induction q with
    | zero => intro _; rfl
    | succ q ih =>
      intro hq
      rw [tornTo_succ, show bitAt 0 q = false by rcases (show q = 0 ∨ q = 1 ∨ q = 2 ∨ q = 3 by omega) with rfl | rfl | rfl | rfl <;> decide, if_neg (by decide)]
      exact ih (by omega)
  exact key 4 (Nat.le_refl _)
theorem tear_all (q : List (Int × Blk)) (m : Nat) (hm : q.length ≤ m) (f : Tab) (hf : LOK f) (hq : ∀ x ∈ q, x.2.length = 64) : tear (q.zip (List.replicate m 15)) f = lay q f := by
  induction q generalizing m f with
  | nil => rfl
  | cons x q ih =>
    obtain ⟨k, rfl⟩ : ∃ k, m = k + 1 := ⟨m - 1, by simp at hm; omega⟩
    rw [List.replicate_succ, List.zip_cons_cons]
    show tear (q.zip (List.replicate k 15)) (upd f x.1 (torn (tell f x.1) x.2 15)) = lay q (upd f x.1 x.2)
    rw [torn_all _ _ (lok_tell hf _) (hq x (by simp))]
    exact ih k (by simpa using hm) _ (lok_upd hf _ _ (hq x (by simp))) (fun y hy => hq y (by simp [hy]))
theorem tear_none (q : List (Int × Blk)) (m : Nat) (f : Tab) (n : Int) : tell (tear (q.zip (List.replicate m 0)) f) n = tell f n := by
  induction q generalizing m f with
  | nil => rfl
  | cons x q ih =>
    cases m with
    | zero => rfl
    | succ k =>
      rw [List.replicate_succ, List.zip_cons_cons]
      show tell (tear (q.zip (List.replicate k 0)) (upd f x.1 (torn (tell f x.1) x.2 0))) n = _
      rw [ih, torn_none]
      unfold tell upd
      by_cases e : n = x.1
      · subst e; rw [if_pos rfl]; rfl
      · rw [if_neg e]
theorem i64_and63 (n : Int) : bits .and .i64 n 63 = n % 64 := by
  have h1 : (BitVec.ofInt 64 63).toNat = 2 ^ 6 - 1 := by decide
  have key : (BitVec.ofInt 64 n &&& BitVec.ofInt 64 63).toNat = (n % ((2 ^ 64 : Nat) : Int)).toNat % 2 ^ 6 := by
    rw [BitVec.toNat_and, BitVec.toNat_ofInt, h1, Nat.and_two_pow_sub_one_eq_mod]
  show IntKind.i64.wrap ((BitVec.ofInt 64 n &&& BitVec.ofInt 64 63).toNat : Nat) = n % 64
  rw [key, IntKind.wrap_i64]
  omega
section
variable {w : World} {ops : Array Oper} {rest : List Oper} {o : Oper} {a : Act} {Q : Exit → Act → World → Prop} {K : Act → World → Prop}
theorem exec_neq_blk (x y : Operand) (yt : TypeId) (ho : o.op = .binOp .neq 30 x y yt) (l m : Blk) (hx : a.eval x = bv l) (hy : a.eval y = bv m) (hl : l.length = 64) (hm : m.length = 64) : (execOp a.eval o).run Try.prog w = .ok (.value (.bool (!(l == m)))) w := by
  have hg := run_eqGuard_agg (P := Try.prog) w .neq 30 x y (cellsOf l).toArray (cellsOf m).toArray Try.eqGuardType30
  have he := run_equalIn_bytes (P := Try.prog) w 9998 30 5 64 Try.underlying30 Try.underlying5 Try.sizeOf5 l m hl hm
  have hn : (binOp .neq 30 (bv l) (bv m)).run Try.prog w = .ok (.bool (!(l == m))) w := by
    unfold bv
    rw [run_neq_struct]
    show ((Op.equalIn (9998 + 2) 30 (.agg (cellsOf l).toArray) (.agg (cellsOf m).toArray)).run Try.prog w).andThen _ = _
    rw [show (Op.equalIn (9998 + 2) 30 (.agg (cellsOf l).toArray) (.agg (cellsOf m).toArray)).run Try.prog w = .ok (l == m) w from he]
    rfl
  unfold execOp
  simp only [ho, hx, hy, Sem.run_bind, Sem.run_pure]
  rw [show (eqGuard .neq 30 x y (bv l) (bv m)).run Try.prog w = .ok () w from hg]
  simp only [Result.andThen_ok, hn]
theorem wpList_neq_blk (hw : Region.wanted o (yielded ops a.tmps) = true) (x y : Operand) (yt : TypeId) (ho : o.op = .binOp .neq 30 x y yt) (l : Blk) (hx : a.eval x = bv l) (hy : a.eval y = bv l) (hl : l.length = 64)
    (hK : wpList Try.prog ops Q rest (a.put o.dst (.bool false)) w) : wpList Try.prog ops Q (o :: rest) a w :=
  BigFrame.wpList_want hw fun K h => wp_of_run (exec_neq_blk x y yt ho l l hx hy hl hl) (h _ _ (by simpa using hK))
end
/-- a list of numbers of the call's own -/
def OwnI (w : World) (B : Nat) (A : Option Addr) (cap : Nat) (l : List Int) : Prop := w.ownsRow B 3 1 (.slice A l.length cap) l.length (l.map (Value.int .i64))
theorem info3 : (Try.prog.info? 3).map (fun i => (i.zero, i.size, i.bytes)) = some (some (.int .i64 0), 1, 8) := by kernel_rfl
theorem OwnI.nil (w : World) (B : Nat) : OwnI w B none 0 [] := World.ownsRow_nil _ _ _ _
theorem OwnI.rd {w : World} {B cap : Nat} {A : Option Addr} {l : List Int} (h : OwnI w B A cap l) : RdI w A l := by
  rcases h.2 with ⟨hv, h0⟩ | ⟨g, cap', cur, hv, hg, hc, _⟩
  · exact .inl (List.eq_nil_of_length_eq_zero h0)
  · injection hv with hA _ _
    subst hA
    refine .inr ⟨g, 0, rfl, fun j hj => ?_⟩
    have := h.cells (g := g) rfl j (.int .i64 l[j]) (by simp [List.getElem?_eq_getElem hj])
    rwa [addr_add] at this
theorem OwnI.block {w : World} {B cap : Nat} {A : Option Addr} {l : List Int} (h : OwnI w B A cap l) : ∀ k, (Value.slice A l.length cap).ownBlock = some k → B ≤ k ∧ k < w.heap.size := by
  intro k hk
  rcases h.2 with ⟨hv, h0⟩ | ⟨g, cap', cur, hv, hg, hc, _⟩
  · rw [hv] at hk; cases hk
  · rw [hv] at hk; cases hk
    exact ⟨hg, (Array.getElem?_eq_some_iff.1 hc).1⟩
theorem OwnI.turn {w w' : World} {B cap : Nat} {A : Option Addr} {l : List Int} {F : Nat → Prop} (h : OwnI w B A cap l) (ht : Turn w w' F) (hF : ∀ k, (Value.slice A l.length cap).ownBlock = some k → ¬ F k) : OwnI w' B A cap l := ownsRow_turn h ht hF
theorem OwnI.below {w w' : World} {B cap : Nat} {A : Option Addr} {l : List Int} (h : OwnI w B A cap l) (hb : Below w.heap.size w w') : OwnI w' B A cap l := h.turn (Turn.of_below hb fun _ => False) fun _ _ h => h
section
variable {w : World} {ops : Array Oper} {rest : List Oper} {o : Oper} {a : Act} {Q : Exit → Act → World → Prop} {K : Act → World → Prop}
theorem wpList_append_int (hgd : o.guard = none) (s x : Operand) (ho : o.op = .call { callee := .builtin .append, args := #[s, x], argTypes := #[23, 23] }) (B : Nat) (A : Option Addr) (cap : Nat) (l : List Int) (n : Nat) (hn : n = l.length) (hs : a.eval s = .slice A n cap)
    (hown : OwnI w B A cap l) (y : Int) (g : Nat) (hx : a.eval x = .slice (some ⟨g, 0, none⟩) 1 1) (hc : Cs w g 3 #[.int .i64 y]) (hq : l.length < 1099511627776) (hB : B ≤ w.heap.size)
    (hK : ∀ A' cap' w', OwnI w' B A' cap' (l ++ [y]) → w.grownBy w' (Value.slice A l.length cap).ownBlock →
      ((Value.slice A' (l.length + 1) cap').ownBlock = (Value.slice A l.length cap).ownBlock ∨ (Value.slice A' (l.length + 1) cap').ownBlock = some w.heap.size) → wpList Try.prog ops Q rest (a.put o.dst (.slice A' (n + 1) cap')) w') : wpList Try.prog ops Q (o :: rest) a w := by
  subst hn
  obtain ⟨i0, hi, hz0, hz1, hz2⟩ := info_parts info3
  refine wpList_append_own_at w hgd s x 23 ho B 3 i0 (.int .i64 0) 1 8 Try.underlying23 hi hz0 hz1 hz2 rfl (by decide) (.slice A l.length cap) l.length (l.map (Value.int .i64)) hs hown ⟨g, 0, none⟩ 1 1 [.int .i64 y] hx rfl
    (fun j u hu => by rw [addr_add, Nat.zero_add]; exact hc.cell j (by simpa using hu)) (by intro u hu; rw [List.mem_singleton.1 hu]; rfl) (by unfold maxLen; omega) (by omega) hB ?_
  intro v' w' h1 h2 _ h4
  obtain ⟨g', cap', rfl⟩ := ownsRow_form h1 (by omega)
  refine hK _ cap' w' ?_ h2 h4
  unfold OwnI
  rw [List.length_append, List.map_append]
  exact h1
end

end Go.Proofs.Ytnhbhfnpcbmjkaa
