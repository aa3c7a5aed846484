/- Quarters: what a Crash makes of them; blocks in a row; quarters as texts. -/
import Derived.Test.YtnhbhfnpcbmjkaaDiskAllW1
namespace Go.Proofs.Ytnhbhfnpcbmjkaa
open Go.RowKit Go.Shelf Go.Maps
set_option linter.unusedVariables false
set_option linter.unusedSimpArgs false

def quarter (l : Blk) (f : Nat) : List UInt8 := (l.drop f).take 16
theorem quarter_ext {l m : Blk} {f : Nat} (h : ∀ j, j < 16 → l[f + j]? = m[f + j]?) : quarter l f = quarter m f := by
  unfold quarter
  apply List.ext_getElem?
  intro j
  rw [List.getElem?_take, List.getElem?_take, List.getElem?_drop, List.getElem?_drop]
  split
  · rename_i hj; exact h j hj
  · rfl
theorem tornTo_at (was b : Blk) (bs : Int) (hw : was.length = 64) (hb : b.length = 64) (m j : Nat) (hm : m < 4) (hj : j < 16) : ∀ k, k ≤ 4 → (tornTo was b bs k)[16 * m + j]? = if m < k ∧ bitAt bs m = true then b[16 * m + j]? else was[16 * m + j]?
  | 0, _ => by rw [if_neg (by omega)]; rfl
  | k + 1, hk => by
    have ih := tornTo_at was b bs hw hb m j hm hj k (by omega)
    have hl := tornTo_len was b bs hw hb k (by omega)
    rw [tornTo_succ]
    by_cases hbit : bitAt bs k = true
    · rw [if_pos hbit]
      have e1 : ((tornTo was b bs k).take (16 * k)).length = 16 * k := by rw [List.length_take]; omega
      have e2 : ((b.drop (16 * k)).take 16).length = 16 := by rw [List.length_take, List.length_drop]; omega
      have e12 : ((tornTo was b bs k).take (16 * k) ++ (b.drop (16 * k)).take 16).length = 16 * k + 16 := by rw [List.length_append, e1, e2]
      by_cases h1 : m < k
      · rw [List.getElem?_append_left (by omega), List.getElem?_append_left (by omega), List.getElem?_take_of_lt (by omega), ih]
        by_cases h2 : bitAt bs m = true
        · rw [if_pos ⟨h1, h2⟩, if_pos ⟨by omega, h2⟩]
        · rw [if_neg (fun h => h2 h.2), if_neg (fun h => h2 h.2)]
      · by_cases h2 : m = k
        · subst h2
          rw [List.getElem?_append_left (by omega), List.getElem?_append_right (by omega), e1, List.getElem?_take_of_lt (by omega), List.getElem?_drop, show 16 * m + (16 * m + j - 16 * m) = 16 * m + j by omega, if_pos ⟨by omega, hbit⟩]
        · rw [List.getElem?_append_right (by omega), e12, List.getElem?_drop, show 16 * k + 16 + (16 * m + j - (16 * k + 16)) = 16 * m + j by omega, ih, if_neg (by omega), if_neg (by omega)]
    · rw [if_neg hbit, ih]
      by_cases h1 : m < k ∧ bitAt bs m = true
      · rw [if_pos h1, if_pos ⟨by omega, h1.2⟩]
      · rw [if_neg h1, if_neg (fun h => h1 ⟨by
          rcases Nat.lt_or_ge m k with h3 | h3
          · exact h3
          · have : m = k := by omega
            subst this
            exact absurd h.2 hbit, h.2⟩)]
theorem torn_quarter (was b : Blk) (bs : Int) (hw : was.length = 64) (hb : b.length = 64) (m : Nat) (hm : m < 4) : quarter (torn was b bs) (16 * m) = quarter was (16 * m) ∨ quarter (torn was b bs) (16 * m) = quarter b (16 * m) := by
  by_cases h : bitAt bs m = true
  · exact .inr (quarter_ext fun j hj => by unfold torn; rw [tornTo_at was b bs hw hb m j hm hj 4 (Nat.le_refl _), if_pos ⟨hm, h⟩])
  · exact .inl (quarter_ext fun j hj => by unfold torn; rw [tornTo_at was b bs hw hb m j hm hj 4 (Nat.le_refl _), if_neg (fun hh => h hh.2)])
theorem tear_quarter (n : Int) (m : Nat) (hm : m < 4) (zs : List ((Int × Blk) × Int)) (f : Tab) (hf : LOK f) (hz : ∀ z ∈ zs, z.1.2.length = 64) :
    quarter (tell (tear zs f) n) (16 * m) = quarter (tell f n) (16 * m) ∨ ∃ z ∈ zs, z.1.1 = n ∧ quarter (tell (tear zs f) n) (16 * m) = quarter z.1.2 (16 * m) := by
  induction zs generalizing f with
  | nil => exact .inl rfl
  | cons z zs ih =>
    have hl := torn_len (tell f z.1.1) z.1.2 z.2 (lok_tell hf _) (hz z (by simp))
    have h := ih (upd f z.1.1 (torn (tell f z.1.1) z.1.2 z.2)) (lok_upd hf _ _ hl) (fun y hy => hz y (by simp [hy]))
    show quarter (tell (tear zs (upd f z.1.1 (torn (tell f z.1.1) z.1.2 z.2))) n) (16 * m) = _ ∨ ∃ y ∈ z :: zs, y.1.1 = n ∧ quarter (tell (tear zs (upd f z.1.1 (torn (tell f z.1.1) z.1.2 z.2))) n) (16 * m) = _
    rcases h with h | ⟨y, hy, h1, h2⟩
    · by_cases e : n = z.1.1
      · subst e
        have e2 : tell (upd f z.1.1 (torn (tell f z.1.1) z.1.2 z.2)) z.1.1 = torn (tell f z.1.1) z.1.2 z.2 := by unfold tell; rw [upd_same]; rfl
        rw [e2] at h
        rcases torn_quarter (tell f z.1.1) z.1.2 z.2 (lok_tell hf _) (hz z (by simp)) m hm with h3 | h3
        · exact .inl (h.trans h3)
        · exact .inr ⟨z, by simp, rfl, h.trans h3⟩
      · have e2 : tell (upd f z.1.1 (torn (tell f z.1.1) z.1.2 z.2)) n = tell f n := by unfold tell; rw [upd_other _ _ e]
        rw [e2] at h
        exact .inl h
    · exact .inr ⟨y, by simp [hy], h1, h2⟩
/-- a deed's write -/
def dq (x : Dd) : Int × Blk := (x.n % 64, x.b)
theorem quarters_all (l : List Dd) (k : Nat) (picks : List Int) (f : Tab) (hf : LOK f) (hl : ∀ x ∈ l, DdOk x) (n : Int) (m : Nat) (hm : m < 4) :
    quarter (tell (tear (((l.take k).map dq).zip picks) f) n) (16 * m) = quarter (tell f n) (16 * m) ∨
      ∃ i, ∃ h : i < l.length, i < k ∧ l[i].n % 64 = n ∧ quarter (tell (tear (((l.take k).map dq).zip picks) f) n) (16 * m) = quarter l[i].b (16 * m) := by
  rcases tear_quarter n m hm (((l.take k).map dq).zip picks) f hf (by
    intro z hz
    have := (List.of_mem_zip hz).1
    obtain ⟨x, hx, e⟩ := List.mem_map.1 this
    rw [← e]
    exact (hl x (List.mem_of_mem_take hx)).1) with h | ⟨z, hz, h1, h2⟩
  · exact .inl h
  · have := (List.of_mem_zip hz).1
    obtain ⟨x, hx, e⟩ := List.mem_map.1 this
    obtain ⟨i, hi, rfl⟩ := List.getElem_of_mem hx
    rw [List.length_take] at hi
    rw [List.getElem_take] at e
    refine .inr ⟨i, by omega, by omega, ?_, ?_⟩
    · rw [← h1, ← e]; rfl
    · rw [h2, ← e]; rfl
/-- 64 blocks in a row, the first n of them filled from a table -/
def Filled (cur : Array Value) (f : Tab) (n : Nat) : Prop := cur.size = 4096 ∧ ∀ i, i < n → ∀ j v, (cellsOf (tell f (i : Int)))[j]? = some v → cur[i * 64 + j]? = some v
theorem filled_step {cur : Array Value} {f : Tab} {n : Nat} (h : Filled cur f n) (hn : n < 64) (hf : LOK f) : Filled (over cur (n * 64) (cellsOf (tell f (n : Int)))) f (n + 1) := by
  obtain ⟨hs, h⟩ := h
  have hl : (cellsOf (tell f (n : Int))).length = 64 := by rw [cellsOf_length, lok_tell hf]
  have hfit : n * 64 + (cellsOf (tell f (n : Int))).length ≤ cur.size := by rw [hl, hs]; omega
  refine ⟨by rw [over_size _ _ _ hfit]; exact hs, fun i hi j v hv => ?_⟩
  have hli : (cellsOf (tell f (i : Int))).length = 64 := by rw [cellsOf_length, lok_tell hf]
  have hj : j < 64 := by rw [← hli]; exact (List.getElem?_eq_some_iff.1 hv).1
  by_cases e : i = n
  · subst e
    rw [over_in _ _ _ hfit j (by omega)]
    exact hv
  · rw [over_out _ _ _ hfit _ (.inl (by omega))]
    exact h i (by omega) j v hv
theorem zero35 (w : World) : (zeroValue 35).run Try.prog w = .ok (.agg (cellsOf (List.replicate 4096 0)).toArray) w := by kernel_rfl
theorem filled_zero (f : Tab) : Filled (cellsOf (List.replicate 4096 0)).toArray f 0 := ⟨by rw [List.size_toArray, cellsOf_length, List.length_replicate], fun i hi => by cases hi⟩
/-- a quarter in memory -/
theorem at_quarter {w : World} {g f : Nat} {l : Blk} (h : At w g f (cellsOf l)) (q : Nat) (hq : q + 16 ≤ l.length) : Rd w (some ⟨g, f + q, none⟩) (quarter l q) := by
  refine .inr ⟨g, f + q, rfl, fun j hj => ?_⟩
  have hj16 : j < 16 := by unfold quarter at hj; rw [List.length_take] at hj; omega
  have hlt : q + j < l.length := by omega
  have := h (q + j) (.int .u8 (l[q + j].toNat : Int)) (by simp [cellsOf, List.getElem?_eq_getElem hlt])
  rw [← Nat.add_assoc] at this
  rw [this]
  congr 3
  simp [quarter, List.getElem_take, List.getElem_drop]
theorem quarter_len {l : Blk} (hl : l.length = 64) (m : Nat) (hm : m < 4) : (quarter l (16 * m)).length = 16 := by
  unfold quarter
  rw [List.length_take, List.length_drop]
  omega
theorem yieldsIf_conv {ops : Array Oper} {o : Oper} {a : Act} {S : World → Prop} (hw : Region.wanted o (yielded ops a.tmps) = true) (x : Operand) (ho : o.op = .convert 39 9 x) (A : Option Addr) (c : Nat) (l : List UInt8) (hl : l.length = 16) (hx : a.eval x = .slice A 16 c)
    (hc : ∀ w, S w → Rd w A l) : YieldsIf Try.prog ops S o (.string ⟨l.toArray⟩) a := by
  refine .inl ⟨hw, fun w hS => ?_⟩
  have h := conv_rd (hc w hS) c
  rw [hl] at h
  unfold execOp
  simp only [ho, hx, Sem.run_bind, Sem.run_pure, h, Result.andThen_ok]

end Go.Proofs.Ytnhbhfnpcbmjkaa
