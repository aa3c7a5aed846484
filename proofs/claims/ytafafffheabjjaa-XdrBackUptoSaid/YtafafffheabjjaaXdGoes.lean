/- Things that are laid are told again; cut anywhere something does not stand there. Plain. -/
import Derived.Test.YtafafffheabjjaaXd4
import Derived.Test.YtafafffheabjjaaXdTh
namespace Go.Proofs.Ytafafffheabjjaa
open Go.RowKit Go.Shelf
set_option linter.unusedVariables false
set_option maxRecDepth 100000
set_option linter.unusedSimpArgs false

theorem xcut (x P : Int) (hP : 0 < P) : x % (P * 256) = (x / P % 256) * P + x % P := by
  have h1 := Int.emod_add_mul_ediv x (P * 256)
  have h2 := Int.emod_add_mul_ediv x P
  have h3 := Int.emod_add_mul_ediv (x / P) 256
  have h4 : x / P / 256 = x / (P * 256) := Int.ediv_ediv_of_nonneg (by omega)
  rw [h4] at h3
  generalize x / (P * 256) = q at *
  generalize x / P = r at *
  generalize r % 256 = s at *
  have h5 : P * r = P * s + P * (256 * q) := by rw [← h3, Int.mul_add]
  have h6 : P * 256 * q = P * (256 * q) := Int.mul_assoc P 256 q
  have h7 : s * P = P * s := Int.mul_comm s P
  omega
theorem xdigits (x : Int) : ∀ k : Nat, beSum ((List.range k).map fun j => x / 256 ^ (k - 1 - j) % 256) = x % 256 ^ k
  | 0 => by simp [beSum]
  | k + 1 => by
    have hP : (0 : Int) < 256 ^ k := Int.pow_pos (by decide)
    rw [List.range_succ_eq_map, List.map_cons, List.map_map]
    simp only [beSum, List.length_map, List.length_range]
    have e : (List.range k).map ((fun j => x / 256 ^ (k + 1 - 1 - j) % 256) ∘ Nat.succ) = (List.range k).map fun j => x / 256 ^ (k - 1 - j) % 256 := by
      apply List.map_congr_left
      intro j hj
      have : k + 1 - 1 - (j + 1) = k - 1 - j := by omega
      simp only [Function.comp, Nat.succ_eq_add_one, this]
    rw [e, xdigits x k, Int.pow_succ, xcut x _ hP]
    rfl
theorem xseg_put (p q : List UInt8) (x : Int) (k : Nat) (x0 : 0 ≤ x) (x1 : x < 256 ^ k) : beSum (seg (p ++ beL x k ++ q) p.length k) = x := by
  have e : seg (p ++ beL x k ++ q) p.length k = (List.range k).map fun j => x / 256 ^ (k - 1 - j) % 256 := by
    apply List.map_congr_left
    intro j hj
    have hj' : j < k := List.mem_range.1 hj
    have hb : 0 ≤ x / 256 ^ (k - 1 - j) % 256 ∧ x / 256 ^ (k - 1 - j) % 256 < 256 := by omega
    have e1 : (p ++ beL x k ++ q)[p.length + j]? = some (UInt8.ofNat (x / 256 ^ (k - 1 - j) % 256).toNat) := by
      rw [List.append_assoc, List.getElem?_append_right (by omega), Nat.add_sub_cancel_left, List.getElem?_append_left (by rw [beL_length]; exact hj')]
      simp [beL, hj']
    unfold byteAt
    rw [List.getD, e1, Option.getD_some, UInt8.toNat_ofNat']
    omega
  rw [e, xdigits, Int.emod_eq_of_lt x0 x1]
theorem numOk (p q : List UInt8) (x : Int) (k : Nat) (x0 : 0 ≤ x) (x1 : x < 256 ^ k) : numR ⟨p ++ beL x k ++ q, p.length, 0⟩ k = (x, ⟨p ++ beL x k ++ q, p.length + k, 0⟩) := by
  unfold numR
  rw [if_neg (by simp), if_neg (by simp only [List.length_append, beL_length]; omega)]
  simp only [xseg_put p q x k x0 x1]
theorem numCut (all : List UInt8) (pos k : Nat) (h : all.length < pos + k) : numR ⟨all, pos, 0⟩ k = (0, ⟨all, pos, 4⟩) := by
  unfold numR
  rw [if_neg (by simp), if_pos h]
/-- a thing as it is laid -/
def thX (x : Th) : List UInt8 :=
  if x.what % 4 = 0 then beL ((x.n % 4294967296 : Nat) : Int) 4 else if x.what % 4 = 1 then beL (x.n : Int) 8 else if x.what % 4 = 2 then truthX x.is else bytesX x.b
def encX (l : List Th) : List UInt8 := (l.map thX).flatten
theorem encX_cons (x : Th) (l : List Th) : encX (x :: l) = thX x ++ encX l := by simp [encX]
theorem encX_snoc (l : List Th) (x : Th) : encX (l ++ [x]) = encX l ++ thX x := by simp [encX]
/-- is a thing told? -/
def tellP (s : RS) (x : Th) : Bool × RS :=
  if x.what % 4 = 0 then ((numR s 4).1 == ((x.n % 4294967296 : Nat) : Int), (numR s 4).2) else if x.what % 4 = 1 then ((numR s 8).1 == (x.n : Int), (numR s 8).2) else if x.what % 4 = 2 then ((truthR s).1 == x.is, (truthR s).2) else ((bytesR s (x.b.length : Int)).1 == x.b, (bytesR s (x.b.length : Int)).2)
def goesP : List Th → RS → Bool × RS
  | [], s => (true, s)
  | x :: l, s => if (tellP s x).1 = true ∧ (tellP s x).2.err = 0 then goesP l (tellP s x).2 else (false, (tellP s x).2)
theorem truth_ok (p q : List UInt8) (b : Bool) : truthR ⟨p ++ truthX b ++ q, p.length, 0⟩ = (b, ⟨p ++ truthX b ++ q, p.length + 4, 0⟩) := by
  unfold truthR truthX
  rw [numOk p q _ 4 (by split <;> decide) (by split <;> decide)]
  cases b <;> rfl
theorem byteAt_app (p q : List UInt8) (j : Nat) : byteAt (p ++ q) (p.length + j) = byteAt q j := by
  unfold byteAt
  rw [List.getD_eq_getElem?_getD, List.getD_eq_getElem?_getD, List.getElem?_append_right (by omega), Nat.add_sub_cancel_left]
theorem pad_ok (p b q : List UInt8) : padE (p ++ (b ++ List.replicate (padN b.length) 0 ++ q)) p.length b.length = 0 := by
  unfold padE
  rw [if_neg (by simp only [List.length_append, List.length_replicate]; omega), if_pos]
  refine allZ_true fun j hj => ?_
  have e : p ++ (b ++ List.replicate (padN b.length) 0 ++ q) = (p ++ b) ++ (List.replicate (padN b.length) 0 ++ q) := by simp
  rw [e, ← List.length_append, byteAt_app]
  unfold byteAt
  rw [List.getD_eq_getElem?_getD, List.getElem?_append_left (by rw [List.length_replicate]; exact hj), List.getElem?_replicate, if_pos hj]
  rfl
theorem bytes_ok (p q b : List UInt8) (hb : b.length < 4294967296) : bytesR ⟨p ++ bytesX b ++ q, p.length, 0⟩ (b.length : Int) = (b, ⟨p ++ bytesX b ++ q, p.length + (bytesX b).length, 0⟩) := by
  rw [bytesR_is]
  have e1 : p ++ bytesX b ++ q = p ++ beL (b.length : Int) 4 ++ (b ++ List.replicate (padN b.length) 0 ++ q) := by simp [bytesX]
  have e2 : p ++ bytesX b ++ q = (p ++ beL (b.length : Int) 4) ++ (b ++ List.replicate (padN b.length) 0 ++ q) := by simp [bytesX]
  have hn : numR ⟨p ++ bytesX b ++ q, p.length, 0⟩ 4 = ((b.length : Int), ⟨p ++ bytesX b ++ q, p.length + 4, 0⟩) := by
    rw [e1]
    exact numOk p _ _ 4 (by omega) (by omega)
  rw [hn]
  unfold bytesN
  have hl : (p ++ beL (b.length : Int) 4).length = p.length + 4 := by simp [beL_length]
  have hp : padE (p ++ bytesX b ++ q) (p.length + 4) b.length = 0 := by
    rw [e2, ← hl]
    exact pad_ok _ b q
  have ht : ((p ++ bytesX b ++ q).drop (p.length + 4)).take b.length = b := by
    rw [e2, ← hl, List.drop_left, List.append_assoc, List.take_left]
  dsimp only
  rw [if_neg (by simp), if_neg (by simp), Int.toNat_natCast, if_pos hp, ht, bytesX_length]
  simp only [Prod.mk.injEq, RS.mk.injEq, true_and, and_true]
  omega
theorem tellOk (p q : List UInt8) (x : Th) (ho : thOk x) (hb : x.b.length < 4294967296) : tellP ⟨p ++ thX x ++ q, p.length, 0⟩ x = (true, ⟨p ++ thX x ++ q, p.length + (thX x).length, 0⟩) := by
  unfold tellP thX
  by_cases h0 : x.what % 4 = 0
  · simp only [if_pos h0]
    rw [numOk p q _ 4 (by omega) (by omega), beL_length]
    simp
  by_cases h1 : x.what % 4 = 1
  · simp only [if_neg h0, if_pos h1]
    have := ho.2.1
    rw [numOk p q _ 8 (by omega) (by omega), beL_length]
    simp
  by_cases h2 : x.what % 4 = 2
  · simp only [if_neg h0, if_neg h1, if_pos h2]
    rw [truth_ok, truthX_length]
    simp
  · simp only [if_neg h0, if_neg h1, if_neg h2]
    rw [bytes_ok p q x.b hb]
    simp
theorem tellCut (p : List UInt8) (x : Th) (c : Nat) (hb : x.b.length < 4294967296) (hc : c < (thX x).length) : (tellP ⟨p ++ (thX x).take c, p.length, 0⟩ x).2.err = 4 := by
  have hl : (p ++ (thX x).take c).length = p.length + c := by rw [List.length_append, List.length_take]; omega
  by_cases h0 : x.what % 4 = 0
  · have hx : thX x = beL ((x.n % 4294967296 : Nat) : Int) 4 := by unfold thX; rw [if_pos h0]
    have h4 : (thX x).length = 4 := by rw [hx, beL_length]
    unfold tellP
    rw [if_pos h0, numCut _ _ _ (by omega)]
  by_cases h1 : x.what % 4 = 1
  · have hx : thX x = beL (x.n : Int) 8 := by unfold thX; rw [if_neg h0, if_pos h1]
    have h4 : (thX x).length = 8 := by rw [hx, beL_length]
    unfold tellP
    rw [if_neg h0, if_pos h1, numCut _ _ _ (by omega)]
  by_cases h2 : x.what % 4 = 2
  · have hx : thX x = truthX x.is := by unfold thX; rw [if_neg h0, if_neg h1, if_pos h2]
    have h4 : (thX x).length = 4 := by rw [hx, truthX_length]
    unfold tellP truthR
    rw [if_neg h0, if_neg h1, if_pos h2, numCut _ _ _ (by omega)]
    simp
  · have hx : thX x = bytesX x.b := by unfold thX; rw [if_neg h0, if_neg h1, if_neg h2]
    have h4 : (thX x).length = 4 + x.b.length + padN x.b.length := by rw [hx, bytesX_length]
    unfold tellP
    rw [if_neg h0, if_neg h1, if_neg h2, bytesR_is]
    dsimp only
    by_cases h5 : c < 4
    · rw [numCut _ _ _ (by omega)]
      unfold bytesN
      simp
    · have e : p ++ (thX x).take c = p ++ beL (x.b.length : Int) 4 ++ (x.b ++ List.replicate (padN x.b.length) 0).take (c - 4) := by
        rw [hx, bytesX, List.append_assoc, List.take_append, beL_length, List.take_of_length_le (by rw [beL_length]; omega), List.append_assoc]
      rw [e] at hl ⊢
      rw [numOk p _ _ 4 (by omega) (by omega)]
      unfold bytesN
      dsimp only
      rw [if_neg (by simp), if_neg (by simp), Int.toNat_natCast]
      have hp : padE (p ++ beL (x.b.length : Int) 4 ++ (x.b ++ List.replicate (padN x.b.length) 0).take (c - 4)) (p.length + 4) x.b.length = 4 := by
        unfold padE
        rw [if_pos (by omega)]
      rw [hp, if_neg (by decide)]
theorem goesOk : ∀ (l : List Th) (p q : List UInt8), (∀ x ∈ l, thOk x ∧ x.b.length < 4294967296) → goesP l ⟨p ++ encX l ++ q, p.length, 0⟩ = (true, ⟨p ++ encX l ++ q, p.length + (encX l).length, 0⟩)
  | [], p, q, _ => by simp [goesP, encX]
  | x :: l, p, q, h => by
    have hx := h x List.mem_cons_self
    have e1 : p ++ encX (x :: l) ++ q = p ++ thX x ++ (encX l ++ q) := by rw [encX_cons]; simp
    have e2 : p ++ thX x ++ (encX l ++ q) = (p ++ thX x) ++ encX l ++ q := by simp
    have hs := tellOk p (encX l ++ q) x hx.1 hx.2
    have ih := goesOk l (p ++ thX x) q fun y hy => h y (List.mem_cons_of_mem _ hy)
    unfold goesP
    rw [e1, hs, if_pos ⟨rfl, rfl⟩]
    dsimp only
    rw [e2, ← List.length_append, ih, encX_cons, List.length_append, List.length_append, Nat.add_assoc]
theorem goesCut : ∀ (l : List Th) (p : List UInt8) (c : Nat), (∀ x ∈ l, thOk x ∧ x.b.length < 4294967296) → c < (encX l).length → (goesP l ⟨p ++ (encX l).take c, p.length, 0⟩).1 = false ∧ (goesP l ⟨p ++ (encX l).take c, p.length, 0⟩).2.err = 4
  | [], p, c, _, hc => by simp [encX] at hc
  | x :: l, p, c, h, hc => by
    have hx := h x List.mem_cons_self
    unfold goesP
    by_cases hlt : c < (thX x).length
    · have e : (encX (x :: l)).take c = (thX x).take c := by rw [encX_cons, List.take_append_of_le_length (by omega)]
      rw [e]
      have he := tellCut p x c hx.2 hlt
      rw [if_neg (by rw [he]; simp)]
      exact ⟨rfl, he⟩
    · have e : p ++ (encX (x :: l)).take c = p ++ thX x ++ (encX l).take (c - (thX x).length) := by
        rw [encX_cons, List.take_append, List.take_of_length_le (by omega), List.append_assoc]
      rw [encX_cons, List.length_append] at hc
      have hs := tellOk p ((encX l).take (c - (thX x).length)) x hx.1 hx.2
      have ih := goesCut l (p ++ thX x) (c - (thX x).length) (fun y hy => h y (List.mem_cons_of_mem _ hy)) (by omega)
      rw [e, hs, if_pos ⟨rfl, rfl⟩]
      dsimp only
      rw [← List.length_append]
      exact ih
theorem thX_four (x : Th) : (thX x).length % 4 = 0 := by
  unfold thX
  split
  · rw [beL_length]
  · split
    · rw [beL_length]
    · split
      · rw [truthX_length]
      · rw [bytesX_length]
        unfold padN
        omega
theorem encX_four : ∀ l : List Th, (encX l).length % 4 = 0
  | [] => rfl
  | x :: l => by
    have h1 := thX_four x
    have h2 := encX_four l
    rw [encX_cons, List.length_append]
    omega
theorem thX_len (x : Th) : (thX x).length ≤ x.b.length + 8 := by
  unfold thX
  split
  · rw [beL_length]; omega
  · split
    · rw [beL_length]; omega
    · split
      · rw [truthX_length]; omega
      · rw [bytesX_length]
        have := padN_lt x.b.length
        omega
theorem encX_len (M : Nat) : ∀ l : List Th, (∀ x ∈ l, x.b.length ≤ M) → (encX l).length ≤ l.length * (M + 8)
  | [], _ => by simp [encX]
  | x :: l, h => by
    have h1 := thX_len x
    have h2 := encX_len M l fun y hy => h y (List.mem_cons_of_mem _ hy)
    have h3 := h x List.mem_cons_self
    rw [encX_cons, List.length_append, List.length_cons, Nat.succ_mul]
    omega

end Go.Proofs.Ytafafffheabjjaa
