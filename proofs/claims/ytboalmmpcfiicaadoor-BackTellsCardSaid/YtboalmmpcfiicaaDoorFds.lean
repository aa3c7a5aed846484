/- Fields laid one behind the other, and told: numbers, great ones, bytes of M at most. Plain. -/
import Derived.Test.YtboalmmpcfiicaaDoorXdPl
namespace Go.Proofs.YtboalmmpcfiicaaDoor
open Go.RowKit Go.Shelf
set_option linter.unusedVariables false
set_option maxRecDepth 100000
set_option linter.unusedSimpArgs false

/-- a field's shape -/
inductive Sh where
  | n
  | g
  | t
  | b
/-- a field: a number, or bytes -/
structure Fd where
  n : Nat
  b : List UInt8
def layF : Sh → Fd → List UInt8
  | .n, x => beL (x.n : Int) 4
  | .g, x => beL (x.n : Int) 8
  | .t, x => truthX (x.n == 1)
  | .b, x => bytesX x.b
def fdOk (M : Nat) : Sh → Fd → Prop
  | .n, x => x.n < 4294967296 ∧ x.b = []
  | .g, x => x.n < 18446744073709551616 ∧ x.b = []
  | .t, x => x.n < 2 ∧ x.b = []
  | .b, x => x.b.length ≤ M ∧ x.n = 0
def tellF (M : Nat) : Sh → RS → Fd × RS
  | .n, s => (⟨(numR s 4).1.toNat, []⟩, (numR s 4).2)
  | .g, s => (⟨(numR s 8).1.toNat, []⟩, (numR s 8).2)
  | .t, s => (⟨if (truthR s).1 then 1 else 0, []⟩, (truthR s).2)
  | .b, s => (⟨0, (bytesR s (M : Int)).1⟩, (bytesR s (M : Int)).2)
def layL : List Sh → List Fd → List UInt8
  | h :: hs, x :: xs => layF h x ++ layL hs xs
  | _, _ => []
def tellL (M : Nat) : List Sh → RS → List Fd × RS
  | [], s => ([], s)
  | h :: hs, s => ((tellF M h s).1 :: (tellL M hs (tellF M h s).2).1, (tellL M hs (tellF M h s).2).2)
def fdsOk (M : Nat) : List Sh → List Fd → Prop
  | [], [] => True
  | h :: hs, x :: xs => fdOk M h x ∧ fdsOk M hs xs
  | _, _ => False
theorem bytes_okM (p q b : List UInt8) (M : Nat) (hM : M < 4294967296) (hb : b.length ≤ M) : bytesR ⟨p ++ bytesX b ++ q, p.length, 0⟩ (M : Int) = (b, ⟨p ++ bytesX b ++ q, p.length + (bytesX b).length, 0⟩) := by
  have h := bytes_ok p q b (by omega)
  have e1 : p ++ bytesX b ++ q = p ++ beL (b.length : Int) 4 ++ (b ++ List.replicate (padN b.length) 0 ++ q) := by simp [bytesX]
  have hn : numR ⟨p ++ bytesX b ++ q, p.length, 0⟩ 4 = ((b.length : Int), ⟨p ++ bytesX b ++ q, p.length + 4, 0⟩) := by
    rw [e1]
    exact numOk p _ _ 4 (by omega) (by omega)
  rw [bytesR_is, hn] at h ⊢
  unfold bytesN at h ⊢
  dsimp only at h ⊢
  rw [if_neg (by simp), if_neg (by simp)] at h
  rw [if_neg (by simp), if_neg (by simp only [Int.toNat_natCast]; omega)]
  exact h
theorem okF (M : Nat) (hM : M < 4294967296) (h : Sh) (x : Fd) (p q : List UInt8) (ho : fdOk M h x) : tellF M h ⟨p ++ layF h x ++ q, p.length, 0⟩ = (x, ⟨p ++ layF h x ++ q, p.length + (layF h x).length, 0⟩) := by
  obtain ⟨n, b⟩ := x
  cases h with
  | n =>
    obtain ⟨h1, h2⟩ := ho
    dsimp only at h1 h2
    subst h2
    unfold tellF layF
    dsimp only
    rw [numOk p q _ 4 (by omega) (by omega), beL_length]
    simp
  | g =>
    obtain ⟨h1, h2⟩ := ho
    dsimp only at h1 h2
    subst h2
    unfold tellF layF
    dsimp only
    rw [numOk p q _ 8 (by omega) (by omega), beL_length]
    simp
  | t =>
    obtain ⟨h1, h2⟩ := ho
    dsimp only at h1 h2
    subst h2
    unfold tellF layF
    dsimp only
    rw [truth_ok p q _, truthX_length]
    obtain rfl | rfl : n = 0 ∨ n = 1 := by omega
    · rfl
    · rfl
  | b =>
    obtain ⟨h1, h2⟩ := ho
    dsimp only at h1 h2
    subst h2
    unfold tellF layF
    dsimp only
    rw [bytes_okM p q b M hM h1]
theorem cutF (M : Nat) (hM : M < 4294967296) (h : Sh) (x : Fd) (p : List UInt8) (c : Nat) (ho : fdOk M h x) (hc : c < (layF h x).length) : (tellF M h ⟨p ++ (layF h x).take c, p.length, 0⟩).2.err = 4 := by
  have hl : (p ++ (layF h x).take c).length = p.length + c := by rw [List.length_append, List.length_take]; omega
  obtain ⟨n, b⟩ := x
  cases h with
  | n =>
    have h4 : (layF .n ⟨n, b⟩).length = 4 := beL_length _ _
    unfold tellF
    dsimp only
    rw [numCut _ _ _ (by omega)]
  | g =>
    have h4 : (layF .g ⟨n, b⟩).length = 8 := beL_length _ _
    unfold tellF
    dsimp only
    rw [numCut _ _ _ (by omega)]
  | t =>
    have h4 : (layF .t ⟨n, b⟩).length = 4 := truthX_length _
    unfold tellF truthR
    dsimp only
    rw [numCut _ _ _ (by omega)]
    rfl
  | b =>
    obtain ⟨hb, -⟩ := ho
    dsimp only at hb
    have h4 : (layF .b ⟨n, b⟩).length = 4 + b.length + padN b.length := bytesX_length _
    unfold tellF
    dsimp only
    rw [bytesR_is]
    by_cases h5 : c < 4
    · rw [numCut _ _ _ (by omega)]
      unfold bytesN
      simp
    · have e : p ++ (layF .b ⟨n, b⟩).take c = p ++ beL (b.length : Int) 4 ++ (b ++ List.replicate (padN b.length) 0).take (c - 4) := by
        show p ++ (bytesX b).take c = _
        rw [bytesX, List.append_assoc, List.take_append, beL_length, List.take_of_length_le (by rw [beL_length]; omega), List.append_assoc]
      rw [e] at hl ⊢
      rw [numOk p _ _ 4 (by omega) (by omega)]
      unfold bytesN
      dsimp only
      rw [if_neg (by simp), if_neg (by simp only [Int.toNat_natCast]; omega), Int.toNat_natCast]
      have hp : padE (p ++ beL (b.length : Int) 4 ++ (b ++ List.replicate (padN b.length) 0).take (c - 4)) (p.length + 4) b.length = 4 := by
        unfold padE
        rw [if_pos (by omega)]
      rw [hp, if_neg (by decide)]
theorem badF (M : Nat) (h : Sh) (s : RS) (he : s.err ≠ 0) : tellF M h s = (⟨0, []⟩, s) := by
  cases h with
  | n => unfold tellF; dsimp only; rw [numR_bad s 4 he]; rfl
  | g => unfold tellF; dsimp only; rw [numR_bad s 8 he]; rfl
  | t => unfold tellF truthR; dsimp only; rw [numR_bad s 4 he]; rfl
  | b =>
    unfold tellF
    dsimp only
    rw [bytesR_is, numR_bad s 4 he]
    unfold bytesN
    dsimp only
    rw [if_pos he]
theorem okL (M : Nat) (hM : M < 4294967296) : ∀ (hs : List Sh) (xs : List Fd) (p q : List UInt8), fdsOk M hs xs → tellL M hs ⟨p ++ layL hs xs ++ q, p.length, 0⟩ = (xs, ⟨p ++ layL hs xs ++ q, p.length + (layL hs xs).length, 0⟩)
  | [], [], p, q, _ => by simp [tellL, layL]
  | h :: hs, x :: xs, p, q, ho => by
    obtain ⟨h1, h2⟩ := ho
    have e1 : p ++ layL (h :: hs) (x :: xs) ++ q = p ++ layF h x ++ (layL hs xs ++ q) := by simp [layL]
    have e2 : p ++ layF h x ++ (layL hs xs ++ q) = (p ++ layF h x) ++ layL hs xs ++ q := by simp
    unfold tellL
    rw [e1, okF M hM h x p _ h1]
    dsimp only
    rw [e2, ← List.length_append, okL M hM hs xs (p ++ layF h x) q h2]
    simp [layL, Nat.add_assoc]
  | [], _ :: _, _, _, ho => ho.elim
  | _ :: _, [], _, _, ho => ho.elim
theorem badL (M : Nat) : ∀ (hs : List Sh) (s : RS), s.err ≠ 0 → (tellL M hs s).2 = s
  | [], s, _ => rfl
  | h :: hs, s, he => by
    unfold tellL
    dsimp only
    rw [badF M h s he]
    exact badL M hs s he
theorem cutL (M : Nat) (hM : M < 4294967296) : ∀ (hs : List Sh) (xs : List Fd) (p : List UInt8) (c : Nat), fdsOk M hs xs → c < (layL hs xs).length → (tellL M hs ⟨p ++ (layL hs xs).take c, p.length, 0⟩).2.err = 4
  | [], [], p, c, _, hc => by simp [layL] at hc
  | h :: hs, x :: xs, p, c, ho, hc => by
    obtain ⟨h1, h2⟩ := ho
    have el : layL (h :: hs) (x :: xs) = layF h x ++ layL hs xs := rfl
    unfold tellL
    dsimp only
    rw [el] at hc ⊢
    by_cases hlt : c < (layF h x).length
    · rw [List.take_append_of_le_length (by omega)]
      have he := cutF M hM h x p c h1 hlt
      rw [badL M hs _ (by rw [he]; decide)]
      exact he
    · have e : p ++ (layF h x ++ layL hs xs).take c = p ++ layF h x ++ (layL hs xs).take (c - (layF h x).length) := by
        rw [List.take_append, List.take_of_length_le (by omega), List.append_assoc]
      rw [List.length_append] at hc
      rw [e, okF M hM h x p _ h1]
      dsimp only
      rw [← List.length_append]
      exact cutL M hM hs xs (p ++ layF h x) _ h2 (by omega)
  | [], _ :: _, _, _, ho, _ => ho.elim
  | _ :: _, [], _, _, ho, _ => ho.elim
/- what is told is laid -/
theorem beL_cons (x : Int) (k : Nat) : beL x (k + 1) = UInt8.ofNat (x / 256 ^ k % 256).toNat :: beL x k := by
  unfold beL
  rw [List.range_succ_eq_map, List.map_cons, List.map_map]
  congr 1
  apply List.map_congr_left
  intro j hj
  have : k + 1 - 1 - (j + 1) = k - 1 - j := by omega
  simp only [Function.comp, Nat.succ_eq_add_one, this]
theorem beL_low (c y : Int) (k : Nat) : beL (c * 256 ^ k + y) k = beL y k := by
  unfold beL
  apply List.map_congr_left
  intro j hj
  have hj' : j < k := List.mem_range.1 hj
  have e : (256 : Int) ^ k = 256 ^ (k - 1 - j) * (256 * 256 ^ j) := by
    rw [← Int.mul_assoc, ← Int.pow_succ, ← Int.pow_add]
    congr 1
    omega
  have hP : (0 : Int) < 256 ^ (k - 1 - j) := Int.pow_pos (by decide)
  have h1 : (c * 256 ^ k + y) / 256 ^ (k - 1 - j) = c * (256 * 256 ^ j) + y / 256 ^ (k - 1 - j) := by
    rw [e, show c * (256 ^ (k - 1 - j) * (256 * 256 ^ j)) = 256 ^ (k - 1 - j) * (c * (256 * 256 ^ j)) by rw [← Int.mul_assoc, Int.mul_comm c, Int.mul_assoc], Int.mul_add_ediv_left _ _ (by omega)]
  have h2 : c * (256 * 256 ^ j) = 256 * (c * 256 ^ j) := by rw [← Int.mul_assoc, Int.mul_comm c 256, Int.mul_assoc]
  rw [h1, h2]
  generalize c * 256 ^ j = u
  generalize y / 256 ^ (k - 1 - j) = v
  have : (256 * u + v) % 256 = v % 256 := by omega
  rw [this]
theorem beL_told : ∀ bs : List UInt8, beL (beSum (bs.map fun c => (c.toNat : Int))) bs.length = bs
  | [] => rfl
  | c :: bs => by
    have hb : 0 ≤ beSum (bs.map fun c => (c.toNat : Int)) ∧ beSum (bs.map fun c => (c.toNat : Int)) < 256 ^ bs.length := by
      have h := beSum_bd bs 0 bs.length
      have e : seg bs 0 bs.length = bs.map fun c => (c.toNat : Int) := by
        apply List.ext_getElem
        · simp [seg]
        · intro i h1 h2
          have hi : i < bs.length := by simpa using h2
          simp [seg, byteAt, List.getElem?_eq_getElem hi]
      rwa [e] at h
    simp only [List.map_cons, List.length_cons, beSum, List.length_map]
    rw [beL_cons, beL_low, beL_told bs]
    have hP : (0 : Int) < 256 ^ bs.length := Int.pow_pos (by decide)
    have h1 : ((c.toNat : Int) * 256 ^ bs.length + beSum (bs.map fun c => (c.toNat : Int))) / 256 ^ bs.length = (c.toNat : Int) := by
      rw [Int.add_comm, Int.add_mul_ediv_right _ _ (by omega), Int.ediv_eq_zero_of_lt hb.1 hb.2, Int.zero_add]
    have hc := c.toNat_lt
    rw [h1, Int.emod_eq_of_lt (by omega) (by omega), Int.toNat_natCast, UInt8.ofNat_toNat]
theorem seg_is (l : List UInt8) (i k : Nat) (h : i + k ≤ l.length) : seg l i k = ((l.drop i).take k).map fun c => (c.toNat : Int) := by
  apply List.ext_getElem
  · simp [seg]; omega
  · intro j h1 h2
    have hj : j < k := by simpa [seg] using h1
    simp [seg, byteAt, List.getElem?_eq_getElem (show i + j < l.length by omega)]
theorem num_back (s : RS) (k : Nat) (h0 : s.err = 0) (h1 : (numR s k).2.err = 0) : (numR s k).2 = ⟨s.all, s.pos + k, 0⟩ ∧ s.pos + k ≤ s.all.length ∧ beL (numR s k).1 k = (s.all.drop s.pos).take k := by
  unfold numR at h1 ⊢
  rw [if_neg (by omega)] at h1 ⊢
  by_cases hl : s.all.length < s.pos + k
  · rw [if_pos hl] at h1
    simp at h1
  · rw [if_neg hl]
    refine ⟨rfl, by omega, ?_⟩
    dsimp only
    rw [seg_is _ _ _ (by omega)]
    have h := beL_told ((s.all.drop s.pos).take k)
    rwa [show ((s.all.drop s.pos).take k).length = k by rw [List.length_take, List.length_drop]; omega] at h
theorem drop_two (l : List UInt8) (i k : Nat) : l.drop i = (l.drop i).take k ++ l.drop (i + k) := by
  rw [← List.drop_drop, List.take_append_drop]
theorem allZ_reps (l : List UInt8) (i n : Nat) (h : i + n ≤ l.length) (hz : allZ l i n = true) : (l.drop i).take n = List.replicate n 0 := by
  apply List.ext_getElem
  · rw [List.length_take, List.length_drop, List.length_replicate]; omega
  · intro j h1 h2
    have hj : j < n := by simpa using h2
    unfold allZ at hz
    have := List.all_eq_true.1 hz j (List.mem_range.2 hj)
    simp [byteAt, List.getElem?_eq_getElem (show i + j < l.length by omega)] at this
    simp only [List.getElem_take, List.getElem_drop, List.getElem_replicate]
    exact UInt8.toNat_inj.1 (by simpa using this)
theorem bytes_back (s : RS) (M : Nat) (h0 : s.err = 0) (h1 : (bytesR s (M : Int)).2.err = 0) : ∃ p', (bytesR s (M : Int)).2 = ⟨s.all, p', 0⟩ ∧ s.pos ≤ p' ∧ p' ≤ s.all.length ∧ s.all.drop s.pos = bytesX (bytesR s (M : Int)).1 ++ s.all.drop p' ∧ (bytesR s (M : Int)).1.length ≤ M := by
  rw [bytesR_is] at h1 ⊢
  have hbd := numR_four s
  by_cases hn : (numR s 4).2.err = 0
  · obtain ⟨e1, e2, e3⟩ := num_back s 4 h0 hn
    generalize (numR s 4).1 = n at *
    obtain ⟨k, rfl⟩ := Int.eq_ofNat_of_zero_le hbd.1
    rw [e1] at h1 ⊢
    simp only [Int.toNat_natCast] at h1 ⊢
    unfold bytesN at h1 ⊢
    dsimp only at h1 ⊢
    rw [if_neg (by simp)] at h1 ⊢
    by_cases hm : max (M : Int) 0 < (k : Int)
    · rw [if_pos hm] at h1; simp at h1
    rw [if_neg hm] at h1 ⊢
    by_cases hp : padE s.all (s.pos + 4) k = 0
    · rw [if_pos hp]
      unfold padE at hp
      by_cases hs : s.all.length < s.pos + 4 + (k + padN k)
      · rw [if_pos hs] at hp; simp at hp
      rw [if_neg hs] at hp
      by_cases hz : allZ s.all (s.pos + 4 + k) (padN k) = true
      · refine ⟨s.pos + 4 + (k + padN k), rfl, by omega, by omega, ?_, ?_⟩
        · have hlen : ((s.all.drop (s.pos + 4)).take k).length = k := by rw [List.length_take, List.length_drop]; omega
          dsimp only
          rw [drop_two s.all s.pos 4, ← e3, drop_two s.all (s.pos + 4) k, drop_two s.all (s.pos + 4 + k) (padN k), allZ_reps _ _ _ (by omega) hz]
          unfold bytesX
          rw [List.take_left' hlen, hlen]
          simp [Nat.add_assoc]
        · dsimp only
          rw [List.length_take]
          omega
      · rw [if_neg hz] at hp; simp at hp
    · rw [if_neg hp] at h1
      exact absurd h1 hp
  · exfalso
    unfold bytesN at h1
    rw [if_pos hn] at h1
    exact hn h1
theorem backF (M : Nat) (h : Sh) (s : RS) (h0 : s.err = 0) (h1 : (tellF M h s).2.err = 0) : ∃ p', (tellF M h s).2 = ⟨s.all, p', 0⟩ ∧ s.pos ≤ p' ∧ p' ≤ s.all.length ∧ s.all.drop s.pos = layF h (tellF M h s).1 ++ s.all.drop p' ∧ fdOk M h (tellF M h s).1 := by
  cases h with
  | n =>
    unfold tellF at h1 ⊢
    dsimp only at h1 ⊢
    obtain ⟨e1, e2, e3⟩ := num_back s 4 h0 h1
    have hbd := numR_four s
    refine ⟨s.pos + 4, e1, by omega, e2, ?_, by show (numR s 4).1.toNat < 4294967296; omega, rfl⟩
    unfold layF
    dsimp only
    rw [Int.toNat_of_nonneg hbd.1, e3]
    exact drop_two _ _ _
  | g =>
    unfold tellF at h1 ⊢
    dsimp only at h1 ⊢
    obtain ⟨e1, e2, e3⟩ := num_back s 8 h0 h1
    have hbd := numR_bd s 8 (by decide)
    refine ⟨s.pos + 8, e1, by omega, e2, ?_, by show (numR s 8).1.toNat < 18446744073709551616; omega, rfl⟩
    unfold layF
    dsimp only
    rw [Int.toNat_of_nonneg hbd.1, e3]
    exact drop_two _ _ _
  | t =>
    unfold tellF truthR at h1 ⊢
    dsimp only at h1 ⊢
    have hbd := numR_four s
    by_cases hgt : 1 < (numR s 4).1
    · rw [if_pos hgt] at h1
      simp at h1
    · rw [if_neg hgt] at h1 ⊢
      obtain ⟨e1, e2, e3⟩ := num_back s 4 h0 h1
      have hn : (numR s 4).1 = 0 ∨ (numR s 4).1 = 1 := by omega
      refine ⟨s.pos + 4, e1, by omega, e2, ?_, by show (if _ then 1 else 0 : Nat) < 2; split <;> omega, rfl⟩
      unfold layF truthX
      dsimp only
      rw [drop_two s.all s.pos 4, ← e3]
      rcases hn with hn | hn <;> rw [hn] <;> rfl
  | b =>
    unfold tellF at h1 ⊢
    dsimp only at h1 ⊢
    obtain ⟨p', e1, e2, e3, e4, e5⟩ := bytes_back s M h0 h1
    exact ⟨p', e1, e2, e3, e4, e5, rfl⟩
theorem backL (M : Nat) : ∀ (hs : List Sh) (s : RS), s.err = 0 → s.pos ≤ s.all.length → (tellL M hs s).2.err = 0 → ∃ p', (tellL M hs s).2 = ⟨s.all, p', 0⟩ ∧ s.pos ≤ p' ∧ p' ≤ s.all.length ∧ s.all.drop s.pos = layL hs (tellL M hs s).1 ++ s.all.drop p' ∧ fdsOk M hs (tellL M hs s).1
  | [], s, h0, hp, _ => ⟨s.pos, by obtain ⟨a, p, e⟩ := s; simp_all [tellL], Nat.le_refl _, hp, by simp [layL, tellL], trivial⟩
  | h :: hs, s, h0, hp, h1 => by
    unfold tellL at h1 ⊢
    dsimp only at h1 ⊢
    by_cases hF : (tellF M h s).2.err = 0
    · obtain ⟨p1, e1, e2, e3, e4, e5⟩ := backF M h s h0 hF
      obtain ⟨p2, k1, k2, k3, k4, k5⟩ := backL M hs (tellF M h s).2 hF (by rw [e1]; exact e3) h1
      rw [e1] at k1 k2 k3 k4
      dsimp only at k1 k2 k3 k4
      refine ⟨p2, by rw [e1]; exact k1, by omega, k3, ?_, e5, k5⟩
      rw [e4, k4, e1]
      simp [layL]
    · exfalso
      rw [badL M hs _ hF] at h1
      exact hF h1
theorem layF_len (M : Nat) (h : Sh) (x : Fd) (ho : fdOk M h x) : (layF h x).length ≤ M + 8 := by
  cases h with
  | n => show (beL _ 4).length ≤ _; rw [beL_length]; omega
  | g => show (beL _ 8).length ≤ _; rw [beL_length]; omega
  | t => show (truthX _).length ≤ _; rw [truthX_length]; omega
  | b =>
    have h1 : x.b.length ≤ M := ho.1
    have h2 := padN_lt x.b.length
    show (bytesX x.b).length ≤ _
    rw [bytesX_length]
    omega
theorem fdsOk_len {M : Nat} : ∀ {hs : List Sh} {xs : List Fd}, fdsOk M hs xs → xs.length = hs.length
  | [], [], _ => rfl
  | _ :: _, _ :: _, h => by simp [fdsOk_len h.2]
  | [], _ :: _, h => h.elim
  | _ :: _, [], h => h.elim
theorem layL_app : ∀ (hs ks : List Sh) (xs ys : List Fd), xs.length = hs.length → layL (hs ++ ks) (xs ++ ys) = layL hs xs ++ layL ks ys
  | [], ks, [], ys, _ => rfl
  | h :: hs, ks, x :: xs, ys, e => by
    have e' : xs.length = hs.length := by simpa using e
    simp [layL, layL_app hs ks xs ys e']
theorem tellL_app (M : Nat) : ∀ (hs ks : List Sh) (s : RS), tellL M (hs ++ ks) s = ((tellL M hs s).1 ++ (tellL M ks (tellL M hs s).2).1, (tellL M ks (tellL M hs s).2).2)
  | [], ks, s => rfl
  | h :: hs, ks, s => by
    have ih := tellL_app M hs ks (tellF M h s).2
    simp only [List.cons_append, tellL, ih]
theorem tellL_len (M : Nat) : ∀ (hs : List Sh) (s : RS), (tellL M hs s).1.length = hs.length
  | [], s => rfl
  | h :: hs, s => by simp [tellL, tellL_len M hs]
theorem tellF_all (M : Nat) (h : Sh) (s : RS) : (tellF M h s).2.all = s.all := by
  cases h with
  | n => exact numR_all s 4
  | g => exact numR_all s 8
  | t =>
    show (truthR s).2.all = s.all
    unfold truthR
    dsimp only
    split
    · exact numR_all s 4
    · exact numR_all s 4
  | b =>
    show (bytesR s (M : Int)).2.all = s.all
    rw [bytesR_is]
    unfold bytesN
    split
    · exact numR_all s 4
    · split
      · exact numR_all s 4
      · split
        · exact numR_all s 4
        · exact numR_all s 4
theorem tellL_all (M : Nat) : ∀ (hs : List Sh) (s : RS), (tellL M hs s).2.all = s.all
  | [], s => rfl
  | h :: hs, s => (tellL_all M hs _).trans (tellF_all M h s)

end Go.Proofs.YtboalmmpcfiicaaDoor
