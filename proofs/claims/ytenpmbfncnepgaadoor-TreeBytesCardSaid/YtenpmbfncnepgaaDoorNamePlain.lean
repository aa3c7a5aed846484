/- The plain sums under names: runes of a list of bytes, what is a name, what stands between slashes. No program in it. -/
import Derived.Lib.Bytealg
import Derived.Lib.DecodeN
import Derived.Lib.Strings
namespace Go.Proofs.YtenpmbfncnepgaaDoor
open Go.Lib
set_option linter.unusedVariables false

/-- the byte at place k; behind the end 0 -/
def bt (l : List UInt8) (k : Nat) : Nat := (l.getD k 0).toNat
theorem bt_lt (l : List UInt8) (k : Nat) : bt l k < 256 := (l.getD k 0).toNat_lt
/-- the rune that begins l, and its width -/
def decL (l : List UInt8) : Nat × Nat := decodeN l.length (bt l 0) (bt l 1) (bt l 2) (bt l 3)
/-- no rune begins l -/
def brkL (l : List UInt8) : Bool := (decL l).1 == 65533 && (decL l).2 == 1

theorem get_drop (s : ByteArray) (i k : Nat) : (s.get! (i + k)).toNat = bt (s.data.toList.drop i) k := by
  unfold bt
  congr 1
  cases s with
  | mk d =>
    show d[i + k]! = _
    rw [List.getD_eq_getElem?_getD, List.getElem?_drop, Array.getElem!_eq_getD, Array.getD_eq_getD_getElem?]
    simp
    rfl
theorem decode_drop (s : ByteArray) (i : Nat) : Utf8.decode s i = decL (s.data.toList.drop i) := by
  rw [decode_at]
  have e0 := get_drop s i 0
  rw [Nat.add_zero] at e0
  rw [e0, get_drop, get_drop, get_drop]
  unfold decL
  rw [List.length_drop, ← Lib.size_eq]

theorem decN_cases (n b0 b1 b2 b3 : Nat) : decodeN n b0 b1 b2 b3 = (65533, 1) ∨ (b0 < 128 ∧ decodeN n b0 b1 b2 b3 = (b0, 1)) ∨
    (∃ r, decodeN n b0 b1 b2 b3 = (r, 2) ∧ 128 ≤ r ∧ 2 ≤ n ∧ 128 ≤ b0 ∧ 128 ≤ b1) ∨ (∃ r, decodeN n b0 b1 b2 b3 = (r, 3) ∧ 128 ≤ r ∧ 3 ≤ n ∧ 128 ≤ b0 ∧ 128 ≤ b1 ∧ 128 ≤ b2) ∨
    (∃ r, decodeN n b0 b1 b2 b3 = (r, 4) ∧ 128 ≤ r ∧ 4 ≤ n ∧ 128 ≤ b0 ∧ 128 ≤ b1 ∧ 128 ≤ b2 ∧ 128 ≤ b3) := by
  unfold decodeN
  repeat' split
  all_goals first
    | exact .inl rfl
    | exact .inr (.inl ⟨by assumption, rfl⟩)
    | exact .inr (.inr (.inl ⟨_, rfl, by omega, by omega, by omega, by omega⟩))
    | exact .inr (.inr (.inr (.inl ⟨_, rfl, by omega, by omega, by omega, by omega, by omega⟩)))
    | exact .inr (.inr (.inr (.inr ⟨_, rfl, by omega, by omega, by omega, by omega, by omega, by omega⟩)))
theorem decN_facts (n b0 b1 b2 b3 : Nat) (hn : 1 ≤ n) (h : ¬ ((decodeN n b0 b1 b2 b3).1 = 65533 ∧ (decodeN n b0 b1 b2 b3).2 = 1)) :
    ((decodeN n b0 b1 b2 b3).2 = 1 ∧ (decodeN n b0 b1 b2 b3).1 = b0 ∧ b0 < 128) ∨
    ((decodeN n b0 b1 b2 b3).2 = 2 ∧ 2 ≤ n ∧ 128 ≤ (decodeN n b0 b1 b2 b3).1 ∧ 128 ≤ b0 ∧ 128 ≤ b1) ∨
    ((decodeN n b0 b1 b2 b3).2 = 3 ∧ 3 ≤ n ∧ 128 ≤ (decodeN n b0 b1 b2 b3).1 ∧ 128 ≤ b0 ∧ 128 ≤ b1 ∧ 128 ≤ b2) ∨
    ((decodeN n b0 b1 b2 b3).2 = 4 ∧ 4 ≤ n ∧ 128 ≤ (decodeN n b0 b1 b2 b3).1 ∧ 128 ≤ b0 ∧ 128 ≤ b1 ∧ 128 ≤ b2 ∧ 128 ≤ b3) := by
  rcases decN_cases n b0 b1 b2 b3 with e | ⟨h0, e⟩ | ⟨r, e, k⟩ | ⟨r, e, k⟩ | ⟨r, e, k⟩
  · rw [e] at h; exact absurd ⟨rfl, rfl⟩ h
  · rw [e]; exact .inl ⟨rfl, rfl, h0⟩
  · rw [e]; exact .inr (.inl ⟨rfl, k.2.1, k.1, k.2.2⟩)
  · rw [e]; exact .inr (.inr (.inl ⟨rfl, k.2.1, k.1, k.2.2⟩))
  · rw [e]; exact .inr (.inr (.inr ⟨rfl, k.2.1, k.1, k.2.2⟩))
theorem decN_head (n b0 b1 b2 b3 : Nat) (h0 : b0 < 256) (h : ¬ ((decodeN n b0 b1 b2 b3).1 = 65533 ∧ (decodeN n b0 b1 b2 b3).2 = 1)) : b0 / 64 ≠ 2 := by
  unfold decodeN at h
  repeat' split at h
  all_goals simp_all
  all_goals omega
theorem decN_pos (n b0 b1 b2 b3 : Nat) : 1 ≤ (decodeN n b0 b1 b2 b3).2 := by
  unfold decodeN
  repeat' split
  all_goals simp
theorem decN_more (n n' b0 b1 b2 b3 c1 c2 c3 : Nat) (hn : 1 ≤ n) (hnn : n ≤ n') (e1 : 1 < n → c1 = b1) (e2 : 2 < n → c2 = b2) (e3 : 3 < n → c3 = b3)
    (h : ¬ ((decodeN n b0 b1 b2 b3).1 = 65533 ∧ (decodeN n b0 b1 b2 b3).2 = 1)) : decodeN n' b0 c1 c2 c3 = decodeN n b0 b1 b2 b3 := by
  by_cases k1 : 1 < n
  · obtain rfl := e1 k1
    by_cases k2 : 2 < n
    · obtain rfl := e2 k2
      by_cases k3 : 3 < n
      · obtain rfl := e3 k3
        simp only [decodeN, k1, k2, k3, show 1 < n' by omega, show 2 < n' by omega, show 3 < n' by omega]
      · simp only [decodeN, k1, k2, k3, show 1 < n' by omega, show 2 < n' by omega, false_and, and_false, true_and, if_false] at h ⊢
        repeat' split at h
        all_goals simp_all
        all_goals omega
    · simp only [decodeN, k1, k2, show 1 < n' by omega, false_and, and_false, true_and, if_false] at h ⊢
      repeat' split at h
      all_goals simp_all
      all_goals omega
  · simp only [decodeN, k1, false_and, and_false, if_false] at h ⊢
    repeat' split at h
    all_goals simp_all
theorem decN_brk (n n' b0 b1 b2 b3 c1 c2 c3 : Nat) (hn : 1 ≤ n) (hnn : n ≤ n') (e1 : 1 < n → c1 = b1) (e2 : 2 < n → c2 = b2) (e3 : 3 < n → c3 = b3)
    (k1 : n = 1 → c1 / 64 ≠ 2) (k2 : n = 2 → c2 / 64 ≠ 2) (k3 : n = 3 → c3 / 64 ≠ 2)
    (h : (decodeN n b0 b1 b2 b3).1 = 65533 ∧ (decodeN n b0 b1 b2 b3).2 = 1) (hb : b0 < 256) : (decodeN n' b0 c1 c2 c3).1 = 65533 ∧ (decodeN n' b0 c1 c2 c3).2 = 1 := by
  have h128 : ¬ b0 < 128 := by
    intro h1
    simp only [decodeN, h1, if_true] at h
    omega
  by_cases j1 : n = 1
  · have := k1 j1
    simp [decodeN, h128, this]
  by_cases j2 : n = 2
  · have := k2 j2
    obtain rfl := e1 (by omega)
    subst j2
    simp only [decodeN, h128, this, show (1 : Nat) < 2 by omega, show ¬ (2 : Nat) < 2 by omega, show ¬ (3 : Nat) < 2 by omega, show 1 < n' by omega, false_and, and_false, true_and, if_false] at h ⊢
    exact h
  by_cases j3 : n = 3
  · have := k3 j3
    obtain rfl := e1 (by omega)
    obtain rfl := e2 (by omega)
    subst j3
    simp only [decodeN, h128, this, show (1 : Nat) < 3 by omega, show (2 : Nat) < 3 by omega, show ¬ (3 : Nat) < 3 by omega, show 1 < n' by omega, show 2 < n' by omega, false_and, and_false, true_and, if_false] at h ⊢
    exact h
  · obtain rfl := e1 (by omega)
    obtain rfl := e2 (by omega)
    obtain rfl := e3 (by omega)
    simp only [decodeN, show 1 < n by omega, show 2 < n by omega, show 3 < n by omega, show 1 < n' by omega, show 2 < n' by omega, show 3 < n' by omega] at h ⊢
    exact h

theorem brk_iff (l : List UInt8) : brkL l = true ↔ ((decL l).1 = 65533 ∧ (decL l).2 = 1) := by simp [brkL]
theorem brk_not (l : List UInt8) : brkL l = false ↔ ¬ ((decL l).1 = 65533 ∧ (decL l).2 = 1) := by
  rw [← brk_iff]; simp
theorem decL_pos (l : List UInt8) : 1 ≤ (decL l).2 := decN_pos _ _ _ _ _
theorem len_pos {l : List UInt8} (h : l ≠ []) : 1 ≤ l.length := by
  cases l with
  | nil => exact absurd rfl h
  | cons _ _ => simp
theorem decL_le {l : List UInt8} (h : l ≠ []) (hb : brkL l = false) : (decL l).2 ≤ l.length := by
  have := decN_facts l.length (bt l 0) (bt l 1) (bt l 2) (bt l 3) (len_pos h) ((brk_not l).1 hb)
  unfold decL
  have := len_pos h
  omega

/-- how many runes l has, if it is well formed -/
def runesF : Nat → List UInt8 → Option Nat
  | 0, _ => some 0
  | f + 1, l => if l = [] then some 0 else if brkL l then none else (runesF f (l.drop (decL l).2)).map (· + 1)
def runesL (l : List UInt8) : Option Nat := runesF l.length l
theorem runesF_fuel : ∀ (f g : Nat) (l : List UInt8), l.length ≤ f → l.length ≤ g → runesF f l = runesF g l
  | 0, 0, _, _, _ => rfl
  | 0, g + 1, l, h, _ => by
    have : l = [] := List.eq_nil_of_length_eq_zero (by omega)
    subst this; rfl
  | f + 1, 0, l, _, h => by
    have : l = [] := List.eq_nil_of_length_eq_zero (by omega)
    subst this; rfl
  | f + 1, g + 1, l, hf, hg => by
    have h1 := decL_pos l
    simp only [runesF]
    rw [runesF_fuel f g (l.drop (decL l).2) (by rw [List.length_drop]; omega) (by rw [List.length_drop]; omega)]
theorem runesL_nil : runesL [] = some 0 := rfl
theorem runesL_brk {l : List UInt8} (h : l ≠ []) (hb : brkL l = true) : runesL l = none := by
  unfold runesL
  have := len_pos h
  obtain ⟨k, hk⟩ : ∃ k, l.length = k + 1 := ⟨l.length - 1, by omega⟩
  rw [hk, runesF, if_neg h, if_pos hb]
theorem runesL_step {l : List UInt8} (h : l ≠ []) (hb : brkL l = false) : runesL l = (runesL (l.drop (decL l).2)).map (· + 1) := by
  unfold runesL
  have h1 := len_pos h
  have h2 := decL_pos l
  obtain ⟨k, hk⟩ : ∃ k, l.length = k + 1 := ⟨l.length - 1, by omega⟩
  rw [hk, runesF, if_neg h, if_neg (by rw [hb]; decide)]
  congr 1
  exact runesF_fuel _ _ _ (by rw [List.length_drop]; omega) (Nat.le_refl _)
theorem runesL_le : ∀ (f : Nat) (l : List UInt8) (n : Nat), runesF f l = some n → n ≤ f
  | 0, _, n, h => by cases h; exact Nat.le_refl _
  | f + 1, l, n, h => by
    simp only [runesF] at h
    split at h
    · cases h; omega
    · split at h
      · cases h
      · obtain ⟨m, hm, rfl⟩ := Option.map_eq_some_iff.1 h
        have := runesL_le f _ m hm
        omega

/-- may the rune stand in a name -/
def okRune (r : Nat) : Bool := decide (31 < r) && r != 127 && r != 47
/-- may the byte -/
def okByte (c : UInt8) : Bool := !(decide (c.toNat < 32) || c.toNat == 127 || c.toNat == 47)
def goodF : Nat → List UInt8 → Bool
  | 0, _ => true
  | f + 1, l => if l = [] then true else if brkL l then false else okRune (decL l).1 && goodF f (l.drop (decL l).2)
def goodL (l : List UInt8) : Bool := goodF l.length l
theorem goodF_fuel : ∀ (f g : Nat) (l : List UInt8), l.length ≤ f → l.length ≤ g → goodF f l = goodF g l
  | 0, 0, _, _, _ => rfl
  | 0, g + 1, l, h, _ => by
    have : l = [] := List.eq_nil_of_length_eq_zero (by omega)
    subst this; rfl
  | f + 1, 0, l, _, h => by
    have : l = [] := List.eq_nil_of_length_eq_zero (by omega)
    subst this; rfl
  | f + 1, g + 1, l, hf, hg => by
    have h1 := decL_pos l
    simp only [goodF]
    rw [goodF_fuel f g (l.drop (decL l).2) (by rw [List.length_drop]; omega) (by rw [List.length_drop]; omega)]
theorem goodL_nil : goodL [] = true := rfl
theorem goodL_brk {l : List UInt8} (h : l ≠ []) (hb : brkL l = true) : goodL l = false := by
  unfold goodL
  have := len_pos h
  obtain ⟨k, hk⟩ : ∃ k, l.length = k + 1 := ⟨l.length - 1, by omega⟩
  rw [hk, goodF, if_neg h, if_pos hb]
theorem goodL_step {l : List UInt8} (h : l ≠ []) (hb : brkL l = false) : goodL l = (okRune (decL l).1 && goodL (l.drop (decL l).2)) := by
  unfold goodL
  have h1 := len_pos h
  have h2 := decL_pos l
  obtain ⟨k, hk⟩ : ∃ k, l.length = k + 1 := ⟨l.length - 1, by omega⟩
  rw [hk, goodF, if_neg h, if_neg (by rw [hb]; decide)]
  congr 1
  exact goodF_fuel _ _ _ (by rw [List.length_drop]; omega) (Nat.le_refl _)

theorem okByte_high (c : UInt8) (h : 128 ≤ c.toNat) : okByte c = true := by
  simp [okByte]; omega
theorem bt_get (l : List UInt8) (k : Nat) (h : k < l.length) : bt l k = (l[k]).toNat := by
  unfold bt; rw [List.getD_eq_getElem?_getD, List.getElem?_eq_getElem h]; rfl
/-- the bytes of one rune -/
theorem ok_head {l : List UInt8} (h : l ≠ []) (hb : brkL l = false) : (l.take (decL l).2).all okByte = okRune (decL l).1 := by
  have hl := len_pos h
  have f := decN_facts l.length (bt l 0) (bt l 1) (bt l 2) (bt l 3) hl ((brk_not l).1 hb)
  have hd : decodeN l.length (bt l 0) (bt l 1) (bt l 2) (bt l 3) = decL l := rfl
  rw [hd] at f
  rcases f with ⟨hw, hr, hlt⟩ | ⟨hw, hn, hr, c0, c1⟩ | ⟨hw, hn, hr, c0, c1, c2⟩ | ⟨hw, hn, hr, c0, c1, c2, c3⟩
  · rw [hw, hr]
    cases l with
    | nil => exact absurd rfl h
    | cons c r =>
      have e : bt (c :: r) 0 = c.toNat := rfl
      rw [e]
      simp only [List.take_succ_cons, List.take_zero, List.all_cons, List.all_nil, Bool.and_true, okByte, okRune]
      rw [Bool.eq_iff_iff]
      simp
      omega
  all_goals
    have hk : okRune (decL l).1 = true := by simp [okRune]; omega
    rw [hk, hw, List.all_eq_true]
    intro x hx
    obtain ⟨k, hk1, rfl⟩ := List.mem_iff_getElem.1 hx
    have hk2 : k < l.length := by
      rw [List.length_take] at hk1; omega
    rw [List.getElem_take]
    apply okByte_high
    rw [← bt_get l k hk2]
    rw [List.length_take] at hk1
  · have : k = 0 ∨ k = 1 := by omega
    rcases this with rfl | rfl <;> assumption
  · have : k = 0 ∨ k = 1 ∨ k = 2 := by omega
    rcases this with rfl | rfl | rfl <;> assumption
  · have : k = 0 ∨ k = 1 ∨ k = 2 ∨ k = 3 := by omega
    rcases this with rfl | rfl | rfl | rfl <;> assumption
theorem goodF_eq : ∀ (n : Nat) (l : List UInt8), l.length ≤ n → goodL l = (l.all okByte && (runesL l).isSome)
  | 0, l, h => by
    have : l = [] := List.eq_nil_of_length_eq_zero (by omega)
    subst this; rfl
  | n + 1, l, h => by
    by_cases h0 : l = []
    · subst h0; rfl
    cases hb : brkL l
    · have hw := decL_pos l
      have ih := goodF_eq n (l.drop (decL l).2) (by rw [List.length_drop]; omega)
      rw [goodL_step h0 hb, runesL_step h0 hb, ih, Option.isSome_map]
      have e : l.all okByte = ((l.take (decL l).2).all okByte && (l.drop (decL l).2).all okByte) := by
        conv => lhs; rw [← List.take_append_drop (decL l).2 l, List.all_append]
      rw [e, ok_head h0 hb, Bool.and_assoc]
    · rw [goodL_brk h0 hb, runesL_brk h0 hb]; simp
theorem goodL_eq (l : List UInt8) : goodL l = (l.all okByte && (runesL l).isSome) := goodF_eq _ l (Nat.le_refl _)

/-- is it a name -/
def nameL (l : List UInt8) : Bool := !(l == []) && decide (l.length ≤ 32) && !(l == [46]) && !(l == [46, 46]) && goodL l

/-! ### one text behind another -/
theorem bt_left (a b : List UInt8) (k : Nat) (h : k < a.length) : bt (a ++ b) k = bt a k := by
  unfold bt; rw [List.getD_eq_getElem?_getD, List.getD_eq_getElem?_getD, List.getElem?_append_left h]
theorem bt_right (a b : List UInt8) (k : Nat) (h : a.length ≤ k) : bt (a ++ b) k = bt b (k - a.length) := by
  unfold bt; rw [List.getD_eq_getElem?_getD, List.getD_eq_getElem?_getD, List.getElem?_append_right h]
theorem decL_append {a : List UInt8} (b : List UInt8) (h : a ≠ []) (hb : brkL a = false) : decL (a ++ b) = decL a := by
  have hl := len_pos h
  unfold decL
  rw [bt_left a b 0 (by omega)]
  exact decN_more _ _ _ _ _ _ _ _ _ hl (by simp) (fun h => bt_left a b 1 h) (fun h => bt_left a b 2 h) (fun h => bt_left a b 3 h) ((brk_not a).1 hb)
theorem brkL_append {a b : List UInt8} (h : a ≠ []) (hb : brkL a = true) (hok : b = [] ∨ bt b 0 / 64 ≠ 2) : brkL (a ++ b) = true := by
  have hl := len_pos h
  rcases hok with rfl | hok
  · rw [List.append_nil]; exact hb
  rw [brk_iff]
  unfold decL
  rw [bt_left a b 0 (by omega)]
  refine decN_brk a.length _ _ (bt a 1) (bt a 2) (bt a 3) _ _ _ hl (by simp) (fun h => bt_left a b 1 h) (fun h => bt_left a b 2 h) (fun h => bt_left a b 3 h) ?_ ?_ ?_ ((brk_iff a).1 hb) (bt_lt a 0)
  all_goals
    intro e
    rw [bt_right a b _ (by omega), e]
    exact hok
theorem runes_ok : ∀ (n : Nat) (a b : List UInt8) (x : Nat), a.length ≤ n → runesL a = some x → runesL (a ++ b) = (runesL b).map (x + ·)
  | 0, a, b, x, h, hx => by
    have : a = [] := List.eq_nil_of_length_eq_zero (by omega)
    subst this
    rw [runesL_nil] at hx
    cases hx
    rw [List.nil_append]
    cases runesL b <;> simp
  | n + 1, a, b, x, h, hx => by
    by_cases h0 : a = []
    · subst h0
      rw [runesL_nil] at hx
      cases hx
      rw [List.nil_append]
      cases runesL b <;> simp
    cases hb : brkL a
    · have hw := decL_pos a
      have hle := decL_le h0 hb
      rw [runesL_step h0 hb] at hx
      obtain ⟨y, hy, rfl⟩ := Option.map_eq_some_iff.1 hx
      have e := decL_append b h0 hb
      have hb' : brkL (a ++ b) = false := by
        unfold brkL at hb ⊢; rw [e]; exact hb
      rw [runesL_step (by simp [h0]) hb', e, List.drop_append_of_le_length hle, runes_ok n (a.drop (decL a).2) b y (by rw [List.length_drop]; omega) hy]
      cases runesL b <;> simp <;> omega
    · rw [runesL_brk h0 hb] at hx; cases hx
theorem runes_no : ∀ (n : Nat) (a b : List UInt8), a.length ≤ n → runesL a = none → (b = [] ∨ bt b 0 / 64 ≠ 2) → runesL (a ++ b) = none
  | 0, a, b, h, hx, _ => by
    have : a = [] := List.eq_nil_of_length_eq_zero (by omega)
    subst this
    cases hx
  | n + 1, a, b, h, hx, hok => by
    by_cases h0 : a = []
    · subst h0; cases hx
    cases hb : brkL a
    · have hw := decL_pos a
      have hle := decL_le h0 hb
      rw [runesL_step h0 hb, Option.map_eq_none_iff] at hx
      have e := decL_append b h0 hb
      have hb' : brkL (a ++ b) = false := by
        unfold brkL at hb ⊢; rw [e]; exact hb
      rw [runesL_step (by simp [h0]) hb', e, List.drop_append_of_le_length hle, runes_no n (a.drop (decL a).2) b (by rw [List.length_drop]; omega) hx hok]
      rfl
    · exact runesL_brk (by simp [h0]) (brkL_append h0 hb hok)
theorem head_ok {b : List UInt8} {y : Nat} (h : runesL b = some y) : b = [] ∨ bt b 0 / 64 ≠ 2 := by
  by_cases h0 : b = []
  · exact .inl h0
  refine .inr ?_
  cases hb : brkL b
  · exact decN_head _ _ _ _ _ (bt_lt b 0) ((brk_not b).1 hb)
  · rw [runesL_brk h0 hb] at h; cases h
/-- both well formed: the sum; one of them: none -/
theorem runes_both {a b : List UInt8} {x y : Nat} (ha : runesL a = some x) (hb : runesL b = some y) : runesL (a ++ b) = some (x + y) := by
  rw [runes_ok _ a b x (Nat.le_refl _) ha, hb]; rfl
theorem runes_left {a b : List UInt8} {x : Nat} (ha : runesL a = some x) (hb : runesL b = none) : runesL (a ++ b) = none := by
  rw [runes_ok _ a b x (Nat.le_refl _) ha, hb]; rfl
theorem runes_right {a b : List UInt8} {y : Nat} (ha : runesL a = none) (hb : runesL b = some y) : runesL (a ++ b) = none :=
  runes_no _ a b (Nat.le_refl _) ha (head_ok hb)

/-! ### between slashes -/
def splitL : List UInt8 → List (List UInt8)
  | [] => [[]]
  | c :: r => if c = 47 then [] :: splitL r else match splitL r with | [] => [[c]] | p :: q => (c :: p) :: q
def joinL : List (List UInt8) → List UInt8
  | [] => []
  | [p] => p
  | p :: q :: r => p ++ 47 :: joinL (q :: r)
theorem splitL_ne (l : List UInt8) : splitL l ≠ [] := by
  cases l with
  | nil => simp [splitL]
  | cons c r =>
    simp only [splitL]
    split
    · simp
    · split <;> simp
theorem join_split : ∀ l : List UInt8, joinL (splitL l) = l
  | [] => rfl
  | c :: r => by
    have ih := join_split r
    have hne := splitL_ne r
    simp only [splitL]
    split
    · rename_i h
      subst h
      cases hs : splitL r with
      | nil => exact absurd hs hne
      | cons p q =>
        rw [hs] at ih
        simp only [joinL, List.nil_append, ih]
    · cases hs : splitL r with
      | nil => exact absurd hs hne
      | cons p q =>
        rw [hs] at ih
        cases q with
        | nil => simp only [joinL] at ih ⊢; rw [ih]
        | cons u v => simp only [joinL, List.cons_append] at ih ⊢; rw [ih]
theorem split_part : ∀ (p : List UInt8) (r : List UInt8), (∀ c ∈ p, c ≠ 47) → splitL (p ++ 47 :: r) = p :: splitL r
  | [], r, _ => by simp [splitL]
  | c :: p, r, h => by
    have hc : c ≠ 47 := h c List.mem_cons_self
    rw [List.cons_append]
    simp only [splitL]
    rw [if_neg hc, split_part p r (fun x hx => h x (List.mem_cons_of_mem _ hx))]
theorem split_last : ∀ (p : List UInt8), (∀ c ∈ p, c ≠ 47) → splitL p = [p]
  | [], _ => rfl
  | c :: p, h => by
    have hc : c ≠ 47 := h c List.mem_cons_self
    simp only [splitL]
    rw [if_neg hc, split_last p (fun x hx => h x (List.mem_cons_of_mem _ hx))]
theorem split_join : ∀ (l : List (List UInt8)), l ≠ [] → (∀ p ∈ l, ∀ c ∈ p, c ≠ 47) → splitL (joinL l) = l
  | [], h, _ => absurd rfl h
  | [p], _, h => split_last p (h p List.mem_cons_self)
  | p :: q :: r, _, h => by
    simp only [joinL]
    rw [split_part p _ (h p List.mem_cons_self), split_join (q :: r) (by simp) (fun x hx => h x (List.mem_cons_of_mem _ hx))]
theorem name_noslash {l : List UInt8} (h : nameL l = true) : ∀ c ∈ l, c ≠ 47 := by
  intro c hc e
  subst e
  simp only [nameL, Bool.and_eq_true, goodL_eq] at h
  have := List.all_eq_true.1 h.2.1 _ hc
  simp [okByte] at this
theorem name_ne {l : List UInt8} (h : nameL l = true) : l ≠ [] := by
  intro e; subst e; simp [nameL] at h
theorem join_ne {l : List (List UInt8)} (h : l ≠ []) (hn : ∀ p ∈ l, p ≠ []) : joinL l ≠ [] := by
  match l, h with
  | [p], _ => exact hn p List.mem_cons_self
  | p :: q :: r, _ => simp [joinL]

/-- is it a path -/
def mayL (l : List (List UInt8)) : Bool := decide (l.length ≤ 4) && l.all nameL
/-- the names of a text: and the error -/
def pathL (s : List UInt8) : List (List UInt8) × Int :=
  if s = [] then ([], 0) else if (splitL s).all nameL = false then ([], 5) else if 4 < (splitL s).length then ([], 3) else (splitL s, 0)
def writeL (l : List (List UInt8)) : List UInt8 × Int := if mayL l = true then (joinL l, 0) else ([], 2)

theorem path_write {l : List (List UInt8)} (h : mayL l = true) : pathL (joinL l) = (l, 0) := by
  simp only [mayL, Bool.and_eq_true, decide_eq_true_eq] at h
  obtain ⟨h4, ha⟩ := h
  by_cases h0 : l = []
  · subst h0; rfl
  have hn : ∀ p ∈ l, nameL p = true := List.all_eq_true.1 ha
  unfold pathL
  rw [if_neg (join_ne h0 (fun p hp => name_ne (hn p hp))), split_join l h0 (fun p hp => name_noslash (hn p hp)), if_neg (by rw [ha]; decide), if_neg (by omega)]
theorem write_path {s : List UInt8} (h : (pathL s).2 = 0) : mayL (pathL s).1 = true ∧ joinL (pathL s).1 = s := by
  unfold pathL at h ⊢
  split
  · rename_i h0; subst h0; exact ⟨rfl, rfl⟩
  · rename_i h0
    rw [if_neg h0] at h
    split
    · rename_i h1; rw [if_pos h1] at h; cases h
    · rename_i h1
      rw [if_neg h1] at h
      split
      · rename_i h2; rw [if_pos h2] at h; cases h
      · rename_i h2
        refine ⟨?_, join_split s⟩
        simp only [mayL, Bool.and_eq_true, decide_eq_true_eq]
        exact ⟨by omega, by simpa using h1⟩

end Go.Proofs.YtenpmbfncnepgaaDoor
