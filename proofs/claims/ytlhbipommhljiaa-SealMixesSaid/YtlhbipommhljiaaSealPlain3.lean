/- What follows of mixes: a mix that is taken is the one block, or the other. No program. -/
import Derived.Test.YtlhbipommhljiaaSealPlain2
namespace Go.Proofs.Ytlhbipommhljiaa
set_option linter.unusedVariables false
set_option linter.unusedSimpArgs false

def sel (b0 b1 b2 b3 : Bool) : Nat → Bool
  | 0 => b0
  | 1 => b1
  | 2 => b2
  | _ => b3
theorem torn_sel (A B : Nat → UInt8) (b0 b1 b2 b3 : Bool) (bs : Int) (h0 : bitAt bs 0 = b0) (h1 : bitAt bs 1 = b1) (h2 : bitAt bs 2 = b2) (h3 : bitAt bs 3 = b3) : torn (mk 64 A) (mk 64 B) bs = mk 64 fun i => if sel b0 b1 b2 b3 (i / 16) = true then B i else A i := by
  unfold torn
  rw [tornTo_succ, tornTo_succ, tornTo_succ, tornTo_succ, tornTo_zero, h0, h1, h2, h3]
  clear h0 h1 h2 h3
  cases b0 <;> cases b1 <;> cases b2 <;> cases b3 <;> kernel_rfl
theorem torn_mk (A B : Nat → UInt8) (bs : Int) : torn (mk 64 A) (mk 64 B) bs = mk 64 fun i => if bitAt bs (i / 16) = true then B i else A i := by
  rw [torn_sel A B _ _ _ _ bs rfl rfl rfl rfl]
  refine mk_congr fun i hi => ?_
  rcases (show i / 16 = 0 ∨ i / 16 = 1 ∨ i / 16 = 2 ∨ i / 16 = 3 by omega) with e | e | e | e <;> rw [e] <;> rfl
theorem tag_torn (x y : Blk) (bs : Int) (hx : x.length = 64) (hy : y.length = 64) (q : Nat) (hq : q < 4) : tag (torn x y bs) q = if bitAt bs q = true then tag y q else tag x q := by
  obtain ⟨A, rfl⟩ := ex_mk hx
  obtain ⟨B, rfl⟩ := ex_mk hy
  rw [torn_mk, tag_mk _ q hq, tag_mk _ q hq, tag_mk _ q hq]
  by_cases h : bitAt bs q = true
  · rw [if_pos h, mk_congr (g := fun j => B (16 * q + j)) (fun j hj => by rw [show (16 * q + j) / 16 = q by omega, if_pos h])]
  · rw [if_neg h, mk_congr (g := fun j => A (16 * q + j)) (fun j hj => by rw [show (16 * q + j) / 16 = q by omega, if_neg h])]
theorem torn_off (x y : Blk) (bs : Int) (hx : x.length = 64) (hy : y.length = 64) (h : ∀ q, q < 4 → bitAt bs q = false) : torn x y bs = x := by
  obtain ⟨A, rfl⟩ := ex_mk hx
  obtain ⟨B, rfl⟩ := ex_mk hy
  rw [torn_mk]
  exact mk_congr fun i hi => by rw [h (i / 16) (by omega), if_neg (by decide)]
theorem torn_on (x y : Blk) (bs : Int) (hx : x.length = 64) (hy : y.length = 64) (h : ∀ q, q < 4 → bitAt bs q = true) : torn x y bs = y := by
  obtain ⟨A, rfl⟩ := ex_mk hx
  obtain ⟨B, rfl⟩ := ex_mk hy
  rw [torn_mk]
  exact mk_congr fun i hi => by rw [if_pos (h (i / 16) (by omega))]
/-- what a block that Put answers says in each quarter -/
def saidN (n : Int) (b : List UInt8) : Int := if putE n b = 0 then n else 0
theorem tag_zb (q : Nat) (hq : q < 4) : tag zb q = 0 := by
  rcases (show q = 0 ∨ q = 1 ∨ q = 2 ∨ q = 3 by omega) with rfl | rfl | rfl | rfl <;> decide +kernel
theorem tag_putB (n : Int) (b : List UInt8) (h0 : 0 ≤ n) (h1 : n < 4294967296) (q : Nat) (hq : q < 4) : tag (putB n b) q = saidN n b := by
  unfold putB saidN
  by_cases h : putE n b = 0
  · rw [if_pos h, if_pos h]
    have hb : b.length ≤ 44 := by
      unfold putE at h
      split at h
      · cases h
      · omega
    obtain ⟨f, a, p⟩ := putIs n b h0 h1 hb
    exact put_tag p q hq
  · rw [if_neg h, if_neg h]
    exact tag_zb q hq
theorem getE_tags {x : Blk} (h : getE x = 0) : tag x 0 ≠ 0 ∧ ∀ q, q < 4 → tag x q = tag x 0 := by
  unfold getE at h
  split at h
  · rename_i hf
    obtain ⟨-, h0, h1, h2, h3⟩ := formed_of hf
    refine ⟨h0, fun q hq => ?_⟩
    rcases (show q = 0 ∨ q = 1 ∨ q = 2 ∨ q = 3 by omega) with rfl | rfl | rfl | rfl
    · rfl
    · exact h1
    · exact h2
    · exact h3
  · cases h
theorem putE_pos {n : Int} {b : List UInt8} (h : putE n b = 0) : n ≠ 0 := by
  unfold putE at h
  split at h
  · cases h
  · split at h
    · cases h
    · assumption
theorem said_cases (n : Int) (b : List UInt8) : saidN n b = n ∨ saidN n b = 0 := by
  unfold saidN
  split
  · exact .inl rfl
  · exact .inr rfl
section
variable {x y z : Blk} {n m k : Int} {bs cs : Int} (hx : x.length = 64) (hy : y.length = 64) (hz : z.length = 64) (tx : ∀ q, q < 4 → tag x q = n) (ty : ∀ q, q < 4 → tag y q = m) (tz : ∀ q, q < 4 → tag z q = k)
include hx hy tx ty in
theorem mix_one (hnm : n ≠ m) (h : getE (torn x y bs) = 0) : torn x y bs = x ∨ torn x y bs = y := by
  obtain ⟨h0, ht⟩ := getE_tags h
  have hq := fun q hq => (tag_torn x y bs hx hy q hq).symm.trans (ht q hq)
  rcases hb : bitAt bs 0 with _ | _
  · have e0 : tag (torn x y bs) 0 = n := by rw [tag_torn x y bs hx hy 0 (by decide), hb, if_neg (by decide), tx 0 (by decide)]
    refine .inl (torn_off x y bs hx hy fun q hq4 => ?_)
    rcases hbq : bitAt bs q with _ | _
    · rfl
    · have := hq q hq4
      rw [hbq, if_pos rfl, ty q hq4, e0] at this
      exact absurd this.symm hnm
  · have e0 : tag (torn x y bs) 0 = m := by rw [tag_torn x y bs hx hy 0 (by decide), hb, if_pos rfl, ty 0 (by decide)]
    refine .inr (torn_on x y bs hx hy fun q hq4 => ?_)
    rcases hbq : bitAt bs q with _ | _
    · have := hq q hq4
      rw [hbq, if_neg (by decide), tx q hq4, e0] at this
      exact absurd this hnm
    · rfl
include hx hy hz tx ty tz in
theorem mix_two (hnm : n ≠ m) (hnk : n ≠ k) (hmk : m ≠ k ∨ m = 0) (h : getE (torn (torn x y bs) z cs) = 0) : torn (torn x y bs) z cs = x ∨ torn (torn x y bs) z cs = y ∨ torn (torn x y bs) z cs = z := by
  have ho : (torn x y bs).length = 64 := torn_len x y bs hx hy
  obtain ⟨h0, ht⟩ := getE_tags h
  have hq := fun q hq => (tag_torn (torn x y bs) z cs ho hz q hq).symm.trans (ht q hq)
  have hto : ∀ q, q < 4 → tag (torn x y bs) q = n ∨ tag (torn x y bs) q = m := fun q hq4 => by
    rw [tag_torn x y bs hx hy q hq4]
    split
    · exact .inr (ty q hq4)
    · exact .inl (tx q hq4)
  rcases hb : bitAt cs 0 with _ | _
  · -- the first quarter is not the third block's
    have e0 : tag (torn (torn x y bs) z cs) 0 = tag (torn x y bs) 0 := by rw [tag_torn (torn x y bs) z cs ho hz 0 (by decide), hb, if_neg (by decide)]
    have hall : ∀ q, q < 4 → bitAt cs q = false := fun q hq4 => by
      rcases hbq : bitAt cs q with _ | _
      · rfl
      · have := hq q hq4
        rw [hbq, if_pos rfl, tz q hq4, e0] at this
        rw [e0] at h0
        rcases hto 0 (by decide) with e | e <;> rw [e] at this h0
        · exact absurd this.symm hnk
        · rcases hmk with hmk | hmk
          · exact absurd this.symm hmk
          · exact absurd hmk h0
    have e := torn_off (torn x y bs) z cs ho hz hall
    rw [e] at h ⊢
    rcases mix_one hx hy tx ty hnm h with h1 | h1
    · exact .inl h1
    · exact .inr (.inl h1)
  · have e0 : tag (torn (torn x y bs) z cs) 0 = k := by rw [tag_torn (torn x y bs) z cs ho hz 0 (by decide), hb, if_pos rfl, tz 0 (by decide)]
    refine .inr (.inr (torn_on (torn x y bs) z cs ho hz fun q hq4 => ?_))
    rcases hbq : bitAt cs q with _ | _
    · have := hq q hq4
      rw [hbq, if_neg (by decide), e0] at this
      rw [e0] at h0
      rcases hto q hq4 with e | e <;> rw [e] at this
      · exact absurd this hnk
      · rcases hmk with hmk | hmk
        · exact absurd this hmk
        · exact absurd (this.symm.trans hmk) h0
    · rfl
include hx hy tx ty in
theorem mix_greatest : greatest (torn x y bs) ≤ max n m := by
  have hto : ∀ q, q < 4 → tag (torn x y bs) q ≤ max n m := fun q hq4 => by
    rw [tag_torn x y bs hx hy q hq4]
    split
    · rw [ty q hq4]; exact Int.le_max_right _ _
    · rw [tx q hq4]; exact Int.le_max_left _ _
  have h := greatest_is (torn x y bs)
  have a0 := hto 0 (by decide)
  have a1 := hto 1 (by decide)
  have a2 := hto 2 (by decide)
  have a3 := hto 3 (by decide)
  generalize max n m = M at *
  omega
end

end Go.Proofs.Ytlhbipommhljiaa
