/- The reference of layer 2: point. -/
import Derived.Test.YtboalmmpcfiicaaDoorNameIs
namespace Go.Proofs.YtboalmmpcfiicaaDoor
open Go.RowKit Go.Shelf Go.Lib Go.ChangeShapes Go.WideShapes Go.ChangeAt
set_option linter.unusedVariables false

/-- what point answers at a place -/
def pointV (d : List UInt8) : Value := if brkL d then .tuple #[.int .i64 0, .int .i64 0] else .tuple #[.int .i64 ((decL d).1 : Int), .int .i64 ((decL d).2 : Int)]
theorem pointV_brk {d : List UInt8} (h : decL d = (65533, 1)) : pointV d = .tuple #[.int .i64 0, .int .i64 0] := by
  unfold pointV
  rw [if_pos (by rw [brk_iff, h]; exact ⟨rfl, rfl⟩)]
theorem pointV_ok {d : List UInt8} {r w : Nat} (h : decL d = (r, w)) (hw : 2 ≤ w) : pointV d = .tuple #[.int .i64 (r : Int), .int .i64 (w : Int)] := by
  unfold pointV
  rw [if_neg (by rw [brk_iff, h]; dsimp only; omega), h]

/-- the number after k bytes more -/
def accZ (n0 : Int) (d : List UInt8) : Nat → Int
  | 0 => n0
  | k + 1 => 64 * accZ n0 d k + (bt d (k + 1) : Int) - 128
/-- k bytes go on with a rune -/
def contN (d : List UInt8) (k : Nat) : Prop := ∀ j, 1 ≤ j → j ≤ k → 128 ≤ bt d j ∧ bt d j < 192

theorem accZ_succ (n0 : Int) (d : List UInt8) (k : Nat) : accZ n0 d (k + 1) = 64 * accZ n0 d k + (bt d (k + 1) : Int) - 128 := rfl
theorem accZ_1 (n0 : Int) (d : List UInt8) : accZ n0 d 1 = 64 * n0 + (bt d 1 : Int) - 128 := rfl
theorem accZ_2 (n0 : Int) (d : List UInt8) : accZ n0 d 2 = 64 * (64 * n0 + (bt d 1 : Int) - 128) + (bt d 2 : Int) - 128 := rfl
theorem accZ_3 (n0 : Int) (d : List UInt8) : accZ n0 d 3 = 64 * (64 * (64 * n0 + (bt d 1 : Int) - 128) + (bt d 2 : Int) - 128) + (bt d 3 : Int) - 128 := rfl
theorem accZ_bd (n0 : Int) (d : List UInt8) (k : Nat) (hk : k ≤ 3) (h0 : 0 ≤ n0) (h1 : n0 ≤ 31) (hc : contN d k) : 0 ≤ accZ n0 d k ∧ accZ n0 d k ≤ 8388607 := by
  have a0 : accZ n0 d 0 = n0 := rfl
  have a1 := accZ_1 n0 d
  have a2 := accZ_2 n0 d
  have a3 := accZ_3 n0 d
  have c1 := hc 1
  have c2 := hc 2
  have c3 := hc 3
  have : k = 0 ∨ k = 1 ∨ k = 2 ∨ k = 3 := by omega
  rcases this with rfl | rfl | rfl | rfl
  · omega
  · have := c1 (by omega) (by omega); omega
  · have := c1 (by omega) (by omega); have := c2 (by omega) (by omega); omega
  · have := c1 (by omega) (by omega); have := c2 (by omega) (by omega); have := c3 (by omega) (by omega); omega
theorem contN_succ {d : List UInt8} {k : Nat} (h : contN d k) (h0 : 128 ≤ bt d (k + 1)) (h1 : bt d (k + 1) < 192) : contN d (k + 1) := by
  intro j j0 j1
  by_cases e : j = k + 1
  · subst e; exact ⟨h0, h1⟩
  · exact h j j0 (by omega)

/-! ### the classes of lead bytes -/
theorem brk_other (n b0 b1 b2 b3 : Nat) (h : (128 ≤ b0 ∧ b0 < 192) ∨ 248 ≤ b0) : decodeN n b0 b1 b2 b3 = (65533, 1) := by
  unfold decodeN
  repeat' split
  all_goals first | rfl | (exfalso; omega)
theorem brk_2 (n b0 b1 b2 b3 : Nat) (h0 : 192 ≤ b0) (h1 : b0 < 224) (h : n < 2 ∨ b1 < 128 ∨ (192 ≤ b1 ∧ b1 < 256) ∨ (b0 - 192) * 64 + (b1 - 128) < 128) : decodeN n b0 b1 b2 b3 = (65533, 1) := by
  unfold decodeN
  repeat' split
  all_goals first | rfl | (exfalso; omega)
theorem ok_2 (n b0 b1 b2 b3 : Nat) (h0 : 192 ≤ b0) (h1 : b0 < 224) (hn : 2 ≤ n) (c1 : 128 ≤ b1 ∧ b1 < 192) (h : 128 ≤ (b0 - 192) * 64 + (b1 - 128)) : decodeN n b0 b1 b2 b3 = ((b0 - 192) * 64 + (b1 - 128), 2) := by
  unfold decodeN
  repeat' split
  all_goals first | (exfalso; omega) | (apply Prod.ext <;> simp only <;> omega)
theorem brk_3 (n b0 b1 b2 b3 : Nat) (h0 : 224 ≤ b0) (h1 : b0 < 240) (h : n < 3 ∨ b1 < 128 ∨ (192 ≤ b1 ∧ b1 < 256) ∨ b2 < 128 ∨ (192 ≤ b2 ∧ b2 < 256) ∨ ((b0 - 224) * 64 + (b1 - 128)) * 64 + (b2 - 128) < 2048 ∨ (55296 ≤ ((b0 - 224) * 64 + (b1 - 128)) * 64 + (b2 - 128) ∧ ((b0 - 224) * 64 + (b1 - 128)) * 64 + (b2 - 128) ≤ 57343)) : decodeN n b0 b1 b2 b3 = (65533, 1) := by
  unfold decodeN
  repeat' split
  all_goals first | rfl | (exfalso; omega)
theorem ok_3 (n b0 b1 b2 b3 : Nat) (h0 : 224 ≤ b0) (h1 : b0 < 240) (hn : 3 ≤ n) (c1 : 128 ≤ b1 ∧ b1 < 192) (c2 : 128 ≤ b2 ∧ b2 < 192) (h : 2048 ≤ ((b0 - 224) * 64 + (b1 - 128)) * 64 + (b2 - 128)) (hh : ((b0 - 224) * 64 + (b1 - 128)) * 64 + (b2 - 128) < 55296 ∨ 57343 < ((b0 - 224) * 64 + (b1 - 128)) * 64 + (b2 - 128)) : decodeN n b0 b1 b2 b3 = (((b0 - 224) * 64 + (b1 - 128)) * 64 + (b2 - 128), 3) := by
  unfold decodeN
  repeat' split
  all_goals first | (exfalso; omega) | (apply Prod.ext <;> simp only <;> omega)
theorem brk_4 (n b0 b1 b2 b3 : Nat) (h0 : 240 ≤ b0) (h1 : b0 < 248) (h : n < 4 ∨ b1 < 128 ∨ (192 ≤ b1 ∧ b1 < 256) ∨ b2 < 128 ∨ (192 ≤ b2 ∧ b2 < 256) ∨ b3 < 128 ∨ (192 ≤ b3 ∧ b3 < 256) ∨ (((b0 - 240) * 64 + (b1 - 128)) * 64 + (b2 - 128)) * 64 + (b3 - 128) < 65536 ∨ 1114111 < (((b0 - 240) * 64 + (b1 - 128)) * 64 + (b2 - 128)) * 64 + (b3 - 128)) : decodeN n b0 b1 b2 b3 = (65533, 1) := by
  unfold decodeN
  repeat' split
  all_goals first | rfl | (exfalso; omega)
theorem ok_4 (n b0 b1 b2 b3 : Nat) (h0 : 240 ≤ b0) (h1 : b0 < 248) (hn : 4 ≤ n) (c1 : 128 ≤ b1 ∧ b1 < 192) (c2 : 128 ≤ b2 ∧ b2 < 192) (c3 : 128 ≤ b3 ∧ b3 < 192) (h : 65536 ≤ (((b0 - 240) * 64 + (b1 - 128)) * 64 + (b2 - 128)) * 64 + (b3 - 128)) (hh : (((b0 - 240) * 64 + (b1 - 128)) * 64 + (b2 - 128)) * 64 + (b3 - 128) ≤ 1114111) : decodeN n b0 b1 b2 b3 = ((((b0 - 240) * 64 + (b1 - 128)) * 64 + (b2 - 128)) * 64 + (b3 - 128), 4) := by
  unfold decodeN
  repeat' split
  all_goals first | (exfalso; omega) | (apply Prod.ext <;> simp only <;> omega)
/-- what the last test asks -/
def badZ (least v : Int) : Prop := v < least ∨ 1114111 < v ∨ (55296 ≤ v ∧ v ≤ 57343)

theorem no_2 (d : List UInt8) (k : Nat) (hk : k + 1 < 2) (h0 : 192 ≤ bt d 0) (h1 : bt d 0 < 224) (h : bt d (k + 1) < 128 ∨ 192 ≤ bt d (k + 1)) : pointV d = .tuple #[.int .i64 0, .int .i64 0] := by
  have w1 := bt_lt d 1
  have w2 := bt_lt d 2
  have w3 := bt_lt d 3
  apply pointV_brk
  have : k = 0 ∨ k = 1 ∨ k = 2 := by omega
  rcases this with rfl | rfl | rfl
  · first | (exfalso; omega) | (have h' : bt d 1 < 128 ∨ 192 ≤ bt d 1 := h; exact brk_2 _ _ _ _ _ h0 h1 (by omega))
  · first | (exfalso; omega) | (have h' : bt d 2 < 128 ∨ 192 ≤ bt d 2 := h; exact brk_2 _ _ _ _ _ h0 h1 (by omega))
  · first | (exfalso; omega) | (have h' : bt d 3 < 128 ∨ 192 ≤ bt d 3 := h; exact brk_2 _ _ _ _ _ h0 h1 (by omega))
theorem fin_2 (d : List UInt8) (h0 : 192 ≤ bt d 0) (h1 : bt d 0 < 224) (hn : 2 ≤ d.length) (hcn : contN d 1) :
    (badZ 128 (accZ ((bt d 0 : Int) - 192) d 1) → pointV d = .tuple #[.int .i64 0, .int .i64 0]) ∧
    (¬ badZ 128 (accZ ((bt d 0 : Int) - 192) d 1) → pointV d = .tuple #[.int .i64 (accZ ((bt d 0 : Int) - 192) d 1), .int .i64 2]) := by
  have c1 := hcn 1 (by omega) (by omega)
  rw [accZ_1]
  unfold badZ
  constructor
  · intro h
    exact pointV_brk (brk_2 _ _ _ _ _ h0 h1 (by omega))
  · intro h
    rw [pointV_ok (ok_2 _ _ _ _ _ h0 h1 hn c1 (by omega)) (by omega)]
    congr 3
    congr 1
    omega

theorem no_3 (d : List UInt8) (k : Nat) (hk : k + 1 < 3) (h0 : 224 ≤ bt d 0) (h1 : bt d 0 < 240) (h : bt d (k + 1) < 128 ∨ 192 ≤ bt d (k + 1)) : pointV d = .tuple #[.int .i64 0, .int .i64 0] := by
  have w1 := bt_lt d 1
  have w2 := bt_lt d 2
  have w3 := bt_lt d 3
  apply pointV_brk
  have : k = 0 ∨ k = 1 ∨ k = 2 := by omega
  rcases this with rfl | rfl | rfl
  · first | (exfalso; omega) | (have h' : bt d 1 < 128 ∨ 192 ≤ bt d 1 := h; exact brk_3 _ _ _ _ _ h0 h1 (by omega))
  · first | (exfalso; omega) | (have h' : bt d 2 < 128 ∨ 192 ≤ bt d 2 := h; exact brk_3 _ _ _ _ _ h0 h1 (by omega))
  · first | (exfalso; omega) | (have h' : bt d 3 < 128 ∨ 192 ≤ bt d 3 := h; exact brk_3 _ _ _ _ _ h0 h1 (by omega))
theorem fin_3 (d : List UInt8) (h0 : 224 ≤ bt d 0) (h1 : bt d 0 < 240) (hn : 3 ≤ d.length) (hcn : contN d 2) :
    (badZ 2048 (accZ ((bt d 0 : Int) - 224) d 2) → pointV d = .tuple #[.int .i64 0, .int .i64 0]) ∧
    (¬ badZ 2048 (accZ ((bt d 0 : Int) - 224) d 2) → pointV d = .tuple #[.int .i64 (accZ ((bt d 0 : Int) - 224) d 2), .int .i64 3]) := by
  have c1 := hcn 1 (by omega) (by omega)
  have c2 := hcn 2 (by omega) (by omega)
  rw [accZ_2]
  unfold badZ
  constructor
  · intro h
    exact pointV_brk (brk_3 _ _ _ _ _ h0 h1 (by omega))
  · intro h
    rw [pointV_ok (ok_3 _ _ _ _ _ h0 h1 hn c1 c2 (by omega) (by omega)) (by omega)]
    congr 3
    congr 1
    omega

theorem no_4 (d : List UInt8) (k : Nat) (hk : k + 1 < 4) (h0 : 240 ≤ bt d 0) (h1 : bt d 0 < 248) (h : bt d (k + 1) < 128 ∨ 192 ≤ bt d (k + 1)) : pointV d = .tuple #[.int .i64 0, .int .i64 0] := by
  have w1 := bt_lt d 1
  have w2 := bt_lt d 2
  have w3 := bt_lt d 3
  apply pointV_brk
  have : k = 0 ∨ k = 1 ∨ k = 2 := by omega
  rcases this with rfl | rfl | rfl
  · first | (exfalso; omega) | (have h' : bt d 1 < 128 ∨ 192 ≤ bt d 1 := h; exact brk_4 _ _ _ _ _ h0 h1 (by omega))
  · first | (exfalso; omega) | (have h' : bt d 2 < 128 ∨ 192 ≤ bt d 2 := h; exact brk_4 _ _ _ _ _ h0 h1 (by omega))
  · first | (exfalso; omega) | (have h' : bt d 3 < 128 ∨ 192 ≤ bt d 3 := h; exact brk_4 _ _ _ _ _ h0 h1 (by omega))
theorem fin_4 (d : List UInt8) (h0 : 240 ≤ bt d 0) (h1 : bt d 0 < 248) (hn : 4 ≤ d.length) (hcn : contN d 3) :
    (badZ 65536 (accZ ((bt d 0 : Int) - 240) d 3) → pointV d = .tuple #[.int .i64 0, .int .i64 0]) ∧
    (¬ badZ 65536 (accZ ((bt d 0 : Int) - 240) d 3) → pointV d = .tuple #[.int .i64 (accZ ((bt d 0 : Int) - 240) d 3), .int .i64 4]) := by
  have c1 := hcn 1 (by omega) (by omega)
  have c2 := hcn 2 (by omega) (by omega)
  have c3 := hcn 3 (by omega) (by omega)
  rw [accZ_3]
  unfold badZ
  constructor
  · intro h
    exact pointV_brk (brk_4 _ _ _ _ _ h0 h1 (by omega))
  · intro h
    rw [pointV_ok (ok_4 _ _ _ _ _ h0 h1 hn c1 c2 c3 (by omega) (by omega)) (by omega)]
    congr 3
    congr 1
    omega

theorem get_bt (s : ByteArray) (i k : Nat) (h : i + k < s.size) : (s[i + k].toNat : Int) = (bt ((L s).drop i) k : Int) := by
  have := get_drop s i k
  rw [Utf8W.get!_of_lt s (i + k) h] at this
  rw [this]

set_option maxRecDepth 100000 in
set_option maxHeartbeats 1000000 in
theorem point_short2 (s : ByteArray) (i : Nat) (hs : s.size ≤ 281474976710656) (hi : i < s.size) (w : World) (c0 : 192 ≤ bt ((L s).drop i) 0) (c1 : bt ((L s).drop i) 0 < 224) (hl : s.size < i + 2) :
    Calls Tryd.prog 73 #[.string s, .int .i64 i] w fun e w' => e = .returned (pointV ((L s).drop i)) ∧ w = w' := by
  have hlen : ((L s).drop i).length < 2 := by rw [List.length_drop, ← L_size]; omega
  have hfin := pointV_brk (brk_2 ((L s).drop i).length (bt ((L s).drop i) 0) (bt ((L s).drop i) 1) (bt ((L s).drop i) 2) (bt ((L s).drop i) 3) c0 c1 (.inl hlen))
  have hb := get_bt s i 0 (by omega)
  simp only [Nat.add_zero] at hb
  generalize (L s).drop i = d at *
  generalize hc : bt d 0 = c at *
  have z0 : (192 : Int) ≤ (c : Int) := by omega
  have z1 : (c : Int) < 224 := by omega
  have t1 : decide ((c : Int) < 128) = false := by simp; omega
  have t2 : decide ((192 : Int) ≤ (c : Int)) = true := by simp; omega
  have t3 : decide ((c : Int) < 224) = true := by simp; omega
  have t4 : (s.size : Int) < (i : Int) + 2 := by omega
  have HF := Lib.hid hfin
  clear hfin hc hlen
  go_enter Tryd.func73, Tryd.ntmps73
  go_wp2
  go_ret2
  exact ⟨by rw [HF.out]; first | done | rfl, rfl⟩

set_option maxRecDepth 100000 in
set_option maxHeartbeats 2000000 in
theorem point_long2 (s : ByteArray) (i : Nat) (hs : s.size ≤ 281474976710656) (hi : i < s.size) (w : World) (c0 : 192 ≤ bt ((L s).drop i) 0) (c1 : bt ((L s).drop i) 0 < 224) (hl : i + 2 ≤ s.size) :
    Calls Tryd.prog 73 #[.string s, .int .i64 i] w fun e w' => e = .returned (pointV ((L s).drop i)) ∧ w = w' := by
  have hlen : 2 ≤ ((L s).drop i).length := by rw [List.length_drop, ← L_size]; omega
  have hb := get_bt s i 0 (by omega)
  simp only [Nat.add_zero] at hb
  have hbs : ∀ j (h : i + j < s.size), (s[i + j].toNat : Int) = (bt ((L s).drop i) j : Int) := fun j h => get_bt s i j h
  generalize (L s).drop i = d at *
  have hfin := fun h => fin_2 d c0 c1 hlen h
  have hnon := fun k hk h => no_2 d k hk c0 c1 h
  generalize hc : bt d 0 = c at *
  have z0 : (192 : Int) ≤ (c : Int) := by omega
  have z1 : (c : Int) < 224 := by omega
  have t1 : decide ((c : Int) < 128) = false := by simp; omega
  have t2 : decide ((192 : Int) ≤ (c : Int)) = true := by simp; omega
  have t3 : decide ((c : Int) < 224) = true := by simp; omega
  have t4 : decide ((s.size : Int) < (i : Int) + 2) = false := by simp; omega
  have HF := Lib.hid hfin
  have HNO := Lib.hid hnon
  have HBS := Lib.hid hbs
  clear hfin hnon hbs hc hlen
  go_enter Tryd.func73, Tryd.ntmps73
  go_wp2
  clear t4 t1 t2 t3
  generalize hn0 : (c : Int) - 192 = n0 at *
  have HN := Lib.hid hn0
  clear hn0 hb
  go_loop [8, 10] (fun n j => ∃ k : Nat, k + 1 ≤ 2 ∧ n = .int .i64 (accZ n0 d k) ∧ j = .int .i64 ((k + 1 : Nat) : Int) ∧ contN d k) (fun _ j => (2 - RowKit.intOf j).toNat)
  case atStart => exact ⟨0, by omega, rfl, rfl, fun j h1 h2 => by omega⟩
  case round =>
    obtain ⟨k, hk, rfl, rfl, hcn⟩ := hrel
    by_cases hk2 : k + 1 < 2
    · have hx := HBS.out (k + 1) (by omega)
      have hx1 := bt_lt d (k + 1)
      have hcs := accZ_succ n0 d k
      have hbd := accZ_bd n0 d k (by omega) (by have := HN.out; omega) (by have := HN.out; omega) hcn
      have hnx := contN_succ hcn
      have hno := HNO.out k hk2
      generalize bt d (k + 1) = x at *
      have hx2 : (x : Int) < 256 := by omega
      have HCS := Lib.hid hcs
      have HNX := Lib.hid hnx
      have HNP := Lib.hid hno
      clear hcs hnx hno hcn
      generalize accZ n0 d k = acc at *
      obtain ⟨hbd0, hbd1⟩ := hbd
      by_cases x0 : (x : Int) < 128
      · have hv := Lib.hid (HNP.out (.inl (by omega)))
        go_wp2
        go_ret2
        exact ⟨by rw [hv.out]; first | done | rfl, rfl⟩
      · by_cases x1 : (192 : Int) ≤ (x : Int)
        · have y0 : decide ((x : Int) < 128) = false := by simp; omega
          have hv := Lib.hid (HNP.out (.inr (by omega)))
          go_wp2
          go_ret2
          exact ⟨by rw [hv.out]; first | done | rfl, rfl⟩
        · have y0 : decide ((x : Int) < 128) = false := by simp; omega
          have y1 : decide ((192 : Int) ≤ (x : Int)) = false := by simp; omega
          go_wp2
          go_round
          case rel => exact ⟨k + 1, by omega, by rw [HCS.out], by go_num, HNX.out (by omega) (by omega)⟩
          case measure => simp [RowKit.intOf]; omega
    · obtain rfl : k = 1 := by omega
      have hbd := accZ_bd n0 d 1 (by omega) (by have := HN.out; omega) (by have := HN.out; omega) hcn
      have hf := HF.out hcn
      try rw [HN.out] at hf
      have HV := Lib.hid hf
      clear hf hcn
      generalize accZ n0 d 1 = v at *
      obtain ⟨hbd0, hbd1⟩ := hbd
      by_cases v1 : v < 128
      · have hv := Lib.hid (HV.out.1 (.inl v1))
        have q1 : decide (v < 128) = true := by simpa using v1
        go_wp2
        go_ret2
        exact ⟨by rw [hv.out]; first | done | rfl, rfl⟩
      have q1 : decide (v < 128) = false := by simpa using v1
      by_cases v2 : 1114111 < v
      · have hv := Lib.hid (HV.out.1 (.inr (.inl v2)))
        have q2 : decide (1114111 < v) = true := by simpa using v2
        go_wp2
        go_ret2
        exact ⟨by rw [hv.out]; first | done | rfl, rfl⟩
      have q2 : decide (1114111 < v) = false := by simpa using v2
      by_cases v3 : 55296 ≤ v
      · have q3 : decide (55296 ≤ v) = true := by simpa using v3
        by_cases v4 : v ≤ 57343
        · have q4 : decide (v ≤ 57343) = true := by simpa using v4
          have hv := Lib.hid (HV.out.1 (.inr (.inr ⟨v3, v4⟩)))
          go_wp2
          go_ret2
          exact ⟨by rw [hv.out]; first | done | rfl, rfl⟩
        · have q4 : decide (v ≤ 57343) = false := by simpa using v4
          have hv := Lib.hid (HV.out.2 (by unfold badZ; omega))
          go_wp2
          go_ret2
          exact ⟨by rw [hv.out]; first | done | rfl, rfl⟩
      · have q3 : decide (55296 ≤ v) = false := by simpa using v3
        have hv := Lib.hid (HV.out.2 (by unfold badZ; omega))
        go_wp2
        go_ret2
        exact ⟨by rw [hv.out]; first | done | rfl, rfl⟩

set_option maxRecDepth 100000 in
set_option maxHeartbeats 1000000 in
theorem point_short3 (s : ByteArray) (i : Nat) (hs : s.size ≤ 281474976710656) (hi : i < s.size) (w : World) (c0 : 224 ≤ bt ((L s).drop i) 0) (c1 : bt ((L s).drop i) 0 < 240) (hl : s.size < i + 3) :
    Calls Tryd.prog 73 #[.string s, .int .i64 i] w fun e w' => e = .returned (pointV ((L s).drop i)) ∧ w = w' := by
  have hlen : ((L s).drop i).length < 3 := by rw [List.length_drop, ← L_size]; omega
  have hfin := pointV_brk (brk_3 ((L s).drop i).length (bt ((L s).drop i) 0) (bt ((L s).drop i) 1) (bt ((L s).drop i) 2) (bt ((L s).drop i) 3) c0 c1 (.inl hlen))
  have hb := get_bt s i 0 (by omega)
  simp only [Nat.add_zero] at hb
  generalize (L s).drop i = d at *
  generalize hc : bt d 0 = c at *
  have z0 : (224 : Int) ≤ (c : Int) := by omega
  have z1 : (c : Int) < 240 := by omega
  have t1 : decide ((c : Int) < 128) = false := by simp; omega
  have t2 : decide ((192 : Int) ≤ (c : Int)) = true := by simp; omega
  have t3 : decide ((c : Int) < 224) = false := by simp; omega
  have t5 : decide ((224 : Int) ≤ (c : Int)) = true := by simp; omega
  have t6 : decide ((c : Int) < 240) = true := by simp; omega
  have t4 : (s.size : Int) < (i : Int) + 3 := by omega
  have HF := Lib.hid hfin
  clear hfin hc hlen
  go_enter Tryd.func73, Tryd.ntmps73
  go_wp2
  go_ret2
  exact ⟨by rw [HF.out]; first | done | rfl, rfl⟩

set_option maxRecDepth 100000 in
set_option maxHeartbeats 2000000 in
theorem point_long3 (s : ByteArray) (i : Nat) (hs : s.size ≤ 281474976710656) (hi : i < s.size) (w : World) (c0 : 224 ≤ bt ((L s).drop i) 0) (c1 : bt ((L s).drop i) 0 < 240) (hl : i + 3 ≤ s.size) :
    Calls Tryd.prog 73 #[.string s, .int .i64 i] w fun e w' => e = .returned (pointV ((L s).drop i)) ∧ w = w' := by
  have hlen : 3 ≤ ((L s).drop i).length := by rw [List.length_drop, ← L_size]; omega
  have hb := get_bt s i 0 (by omega)
  simp only [Nat.add_zero] at hb
  have hbs : ∀ j (h : i + j < s.size), (s[i + j].toNat : Int) = (bt ((L s).drop i) j : Int) := fun j h => get_bt s i j h
  generalize (L s).drop i = d at *
  have hfin := fun h => fin_3 d c0 c1 hlen h
  have hnon := fun k hk h => no_3 d k hk c0 c1 h
  generalize hc : bt d 0 = c at *
  have z0 : (224 : Int) ≤ (c : Int) := by omega
  have z1 : (c : Int) < 240 := by omega
  have t1 : decide ((c : Int) < 128) = false := by simp; omega
  have t2 : decide ((192 : Int) ≤ (c : Int)) = true := by simp; omega
  have t3 : decide ((c : Int) < 224) = false := by simp; omega
  have t5 : decide ((224 : Int) ≤ (c : Int)) = true := by simp; omega
  have t6 : decide ((c : Int) < 240) = true := by simp; omega
  have t4 : decide ((s.size : Int) < (i : Int) + 3) = false := by simp; omega
  have HF := Lib.hid hfin
  have HNO := Lib.hid hnon
  have HBS := Lib.hid hbs
  clear hfin hnon hbs hc hlen
  go_enter Tryd.func73, Tryd.ntmps73
  go_wp2
  clear t4 t1 t2 t3 t5 t6
  generalize hn0 : (c : Int) - 224 = n0 at *
  have HN := Lib.hid hn0
  clear hn0 hb
  go_loop [8, 10] (fun n j => ∃ k : Nat, k + 1 ≤ 3 ∧ n = .int .i64 (accZ n0 d k) ∧ j = .int .i64 ((k + 1 : Nat) : Int) ∧ contN d k) (fun _ j => (3 - RowKit.intOf j).toNat)
  case atStart => exact ⟨0, by omega, rfl, rfl, fun j h1 h2 => by omega⟩
  case round =>
    obtain ⟨k, hk, rfl, rfl, hcn⟩ := hrel
    by_cases hk2 : k + 1 < 3
    · have hx := HBS.out (k + 1) (by omega)
      have hx1 := bt_lt d (k + 1)
      have hcs := accZ_succ n0 d k
      have hbd := accZ_bd n0 d k (by omega) (by have := HN.out; omega) (by have := HN.out; omega) hcn
      have hnx := contN_succ hcn
      have hno := HNO.out k hk2
      generalize bt d (k + 1) = x at *
      have hx2 : (x : Int) < 256 := by omega
      have HCS := Lib.hid hcs
      have HNX := Lib.hid hnx
      have HNP := Lib.hid hno
      clear hcs hnx hno hcn
      generalize accZ n0 d k = acc at *
      obtain ⟨hbd0, hbd1⟩ := hbd
      by_cases x0 : (x : Int) < 128
      · have hv := Lib.hid (HNP.out (.inl (by omega)))
        go_wp2
        go_ret2
        exact ⟨by rw [hv.out]; first | done | rfl, rfl⟩
      · by_cases x1 : (192 : Int) ≤ (x : Int)
        · have y0 : decide ((x : Int) < 128) = false := by simp; omega
          have hv := Lib.hid (HNP.out (.inr (by omega)))
          go_wp2
          go_ret2
          exact ⟨by rw [hv.out]; first | done | rfl, rfl⟩
        · have y0 : decide ((x : Int) < 128) = false := by simp; omega
          have y1 : decide ((192 : Int) ≤ (x : Int)) = false := by simp; omega
          go_wp2
          go_round
          case rel => exact ⟨k + 1, by omega, by rw [HCS.out], by go_num, HNX.out (by omega) (by omega)⟩
          case measure => simp [RowKit.intOf]; omega
    · obtain rfl : k = 2 := by omega
      have hbd := accZ_bd n0 d 2 (by omega) (by have := HN.out; omega) (by have := HN.out; omega) hcn
      have hf := HF.out hcn
      try rw [HN.out] at hf
      have HV := Lib.hid hf
      clear hf hcn
      generalize accZ n0 d 2 = v at *
      obtain ⟨hbd0, hbd1⟩ := hbd
      by_cases v1 : v < 2048
      · have hv := Lib.hid (HV.out.1 (.inl v1))
        have q1 : decide (v < 2048) = true := by simpa using v1
        go_wp2
        go_ret2
        exact ⟨by rw [hv.out]; first | done | rfl, rfl⟩
      have q1 : decide (v < 2048) = false := by simpa using v1
      by_cases v2 : 1114111 < v
      · have hv := Lib.hid (HV.out.1 (.inr (.inl v2)))
        have q2 : decide (1114111 < v) = true := by simpa using v2
        go_wp2
        go_ret2
        exact ⟨by rw [hv.out]; first | done | rfl, rfl⟩
      have q2 : decide (1114111 < v) = false := by simpa using v2
      by_cases v3 : 55296 ≤ v
      · have q3 : decide (55296 ≤ v) = true := by simpa using v3
        by_cases v4 : v ≤ 57343
        · have q4 : decide (v ≤ 57343) = true := by simpa using v4
          have hv := Lib.hid (HV.out.1 (.inr (.inr ⟨v3, v4⟩)))
          go_wp2
          go_ret2
          exact ⟨by rw [hv.out]; first | done | rfl, rfl⟩
        · have q4 : decide (v ≤ 57343) = false := by simpa using v4
          have hv := Lib.hid (HV.out.2 (by unfold badZ; omega))
          go_wp2
          go_ret2
          exact ⟨by rw [hv.out]; first | done | rfl, rfl⟩
      · have q3 : decide (55296 ≤ v) = false := by simpa using v3
        have hv := Lib.hid (HV.out.2 (by unfold badZ; omega))
        go_wp2
        go_ret2
        exact ⟨by rw [hv.out]; first | done | rfl, rfl⟩

set_option maxRecDepth 100000 in
set_option maxHeartbeats 1000000 in
theorem point_short4 (s : ByteArray) (i : Nat) (hs : s.size ≤ 281474976710656) (hi : i < s.size) (w : World) (c0 : 240 ≤ bt ((L s).drop i) 0) (c1 : bt ((L s).drop i) 0 < 248) (hl : s.size < i + 4) :
    Calls Tryd.prog 73 #[.string s, .int .i64 i] w fun e w' => e = .returned (pointV ((L s).drop i)) ∧ w = w' := by
  have hlen : ((L s).drop i).length < 4 := by rw [List.length_drop, ← L_size]; omega
  have hfin := pointV_brk (brk_4 ((L s).drop i).length (bt ((L s).drop i) 0) (bt ((L s).drop i) 1) (bt ((L s).drop i) 2) (bt ((L s).drop i) 3) c0 c1 (.inl hlen))
  have hb := get_bt s i 0 (by omega)
  simp only [Nat.add_zero] at hb
  generalize (L s).drop i = d at *
  generalize hc : bt d 0 = c at *
  have z0 : (240 : Int) ≤ (c : Int) := by omega
  have z1 : (c : Int) < 248 := by omega
  have t1 : decide ((c : Int) < 128) = false := by simp; omega
  have t2 : decide ((192 : Int) ≤ (c : Int)) = true := by simp; omega
  have t3 : decide ((c : Int) < 224) = false := by simp; omega
  have t5 : decide ((224 : Int) ≤ (c : Int)) = true := by simp; omega
  have t6 : decide ((c : Int) < 240) = false := by simp; omega
  have t7 : decide ((240 : Int) ≤ (c : Int)) = true := by simp; omega
  have t8 : decide ((c : Int) < 248) = true := by simp; omega
  have t4 : (s.size : Int) < (i : Int) + 4 := by omega
  have HF := Lib.hid hfin
  clear hfin hc hlen
  go_enter Tryd.func73, Tryd.ntmps73
  go_wp2
  go_ret2
  exact ⟨by rw [HF.out]; first | done | rfl, rfl⟩

set_option maxRecDepth 100000 in
set_option maxHeartbeats 2000000 in
theorem point_long4 (s : ByteArray) (i : Nat) (hs : s.size ≤ 281474976710656) (hi : i < s.size) (w : World) (c0 : 240 ≤ bt ((L s).drop i) 0) (c1 : bt ((L s).drop i) 0 < 248) (hl : i + 4 ≤ s.size) :
    Calls Tryd.prog 73 #[.string s, .int .i64 i] w fun e w' => e = .returned (pointV ((L s).drop i)) ∧ w = w' := by
  have hlen : 4 ≤ ((L s).drop i).length := by rw [List.length_drop, ← L_size]; omega
  have hb := get_bt s i 0 (by omega)
  simp only [Nat.add_zero] at hb
  have hbs : ∀ j (h : i + j < s.size), (s[i + j].toNat : Int) = (bt ((L s).drop i) j : Int) := fun j h => get_bt s i j h
  generalize (L s).drop i = d at *
  have hfin := fun h => fin_4 d c0 c1 hlen h
  have hnon := fun k hk h => no_4 d k hk c0 c1 h
  generalize hc : bt d 0 = c at *
  have z0 : (240 : Int) ≤ (c : Int) := by omega
  have z1 : (c : Int) < 248 := by omega
  have t1 : decide ((c : Int) < 128) = false := by simp; omega
  have t2 : decide ((192 : Int) ≤ (c : Int)) = true := by simp; omega
  have t3 : decide ((c : Int) < 224) = false := by simp; omega
  have t5 : decide ((224 : Int) ≤ (c : Int)) = true := by simp; omega
  have t6 : decide ((c : Int) < 240) = false := by simp; omega
  have t7 : decide ((240 : Int) ≤ (c : Int)) = true := by simp; omega
  have t8 : decide ((c : Int) < 248) = true := by simp; omega
  have t4 : decide ((s.size : Int) < (i : Int) + 4) = false := by simp; omega
  have HF := Lib.hid hfin
  have HNO := Lib.hid hnon
  have HBS := Lib.hid hbs
  clear hfin hnon hbs hc hlen
  go_enter Tryd.func73, Tryd.ntmps73
  go_wp2
  clear t4 t1 t2 t3 t5 t6 t7 t8
  generalize hn0 : (c : Int) - 240 = n0 at *
  have HN := Lib.hid hn0
  clear hn0 hb
  go_loop [8, 10] (fun n j => ∃ k : Nat, k + 1 ≤ 4 ∧ n = .int .i64 (accZ n0 d k) ∧ j = .int .i64 ((k + 1 : Nat) : Int) ∧ contN d k) (fun _ j => (4 - RowKit.intOf j).toNat)
  case atStart => exact ⟨0, by omega, rfl, rfl, fun j h1 h2 => by omega⟩
  case round =>
    obtain ⟨k, hk, rfl, rfl, hcn⟩ := hrel
    by_cases hk2 : k + 1 < 4
    · have hx := HBS.out (k + 1) (by omega)
      have hx1 := bt_lt d (k + 1)
      have hcs := accZ_succ n0 d k
      have hbd := accZ_bd n0 d k (by omega) (by have := HN.out; omega) (by have := HN.out; omega) hcn
      have hnx := contN_succ hcn
      have hno := HNO.out k hk2
      generalize bt d (k + 1) = x at *
      have hx2 : (x : Int) < 256 := by omega
      have HCS := Lib.hid hcs
      have HNX := Lib.hid hnx
      have HNP := Lib.hid hno
      clear hcs hnx hno hcn
      generalize accZ n0 d k = acc at *
      obtain ⟨hbd0, hbd1⟩ := hbd
      by_cases x0 : (x : Int) < 128
      · have hv := Lib.hid (HNP.out (.inl (by omega)))
        go_wp2
        go_ret2
        exact ⟨by rw [hv.out]; first | done | rfl, rfl⟩
      · by_cases x1 : (192 : Int) ≤ (x : Int)
        · have y0 : decide ((x : Int) < 128) = false := by simp; omega
          have hv := Lib.hid (HNP.out (.inr (by omega)))
          go_wp2
          go_ret2
          exact ⟨by rw [hv.out]; first | done | rfl, rfl⟩
        · have y0 : decide ((x : Int) < 128) = false := by simp; omega
          have y1 : decide ((192 : Int) ≤ (x : Int)) = false := by simp; omega
          go_wp2
          go_round
          case rel => exact ⟨k + 1, by omega, by rw [HCS.out], by go_num, HNX.out (by omega) (by omega)⟩
          case measure => simp [RowKit.intOf]; omega
    · obtain rfl : k = 3 := by omega
      have hbd := accZ_bd n0 d 3 (by omega) (by have := HN.out; omega) (by have := HN.out; omega) hcn
      have hf := HF.out hcn
      try rw [HN.out] at hf
      have HV := Lib.hid hf
      clear hf hcn
      generalize accZ n0 d 3 = v at *
      obtain ⟨hbd0, hbd1⟩ := hbd
      by_cases v1 : v < 65536
      · have hv := Lib.hid (HV.out.1 (.inl v1))
        have q1 : decide (v < 65536) = true := by simpa using v1
        go_wp2
        go_ret2
        exact ⟨by rw [hv.out]; first | done | rfl, rfl⟩
      have q1 : decide (v < 65536) = false := by simpa using v1
      by_cases v2 : 1114111 < v
      · have hv := Lib.hid (HV.out.1 (.inr (.inl v2)))
        have q2 : decide (1114111 < v) = true := by simpa using v2
        go_wp2
        go_ret2
        exact ⟨by rw [hv.out]; first | done | rfl, rfl⟩
      have q2 : decide (1114111 < v) = false := by simpa using v2
      by_cases v3 : 55296 ≤ v
      · have q3 : decide (55296 ≤ v) = true := by simpa using v3
        by_cases v4 : v ≤ 57343
        · have q4 : decide (v ≤ 57343) = true := by simpa using v4
          have hv := Lib.hid (HV.out.1 (.inr (.inr ⟨v3, v4⟩)))
          go_wp2
          go_ret2
          exact ⟨by rw [hv.out]; first | done | rfl, rfl⟩
        · have q4 : decide (v ≤ 57343) = false := by simpa using v4
          have hv := Lib.hid (HV.out.2 (by unfold badZ; omega))
          go_wp2
          go_ret2
          exact ⟨by rw [hv.out]; first | done | rfl, rfl⟩
      · have q3 : decide (55296 ≤ v) = false := by simpa using v3
        have hv := Lib.hid (HV.out.2 (by unfold badZ; omega))
        go_wp2
        go_ret2
        exact ⟨by rw [hv.out]; first | done | rfl, rfl⟩

set_option maxRecDepth 100000 in
set_option maxHeartbeats 1000000 in
theorem point_ascii (s : ByteArray) (i : Nat) (hi : i < s.size) (hs : s.size ≤ 281474976710656) (w : World) (c0 : bt ((L s).drop i) 0 < 128) :
    Calls Tryd.prog 73 #[.string s, .int .i64 i] w fun e w' => e = .returned (pointV ((L s).drop i)) ∧ w = w' := by
  have hd : decL ((L s).drop i) = (bt ((L s).drop i) 0, 1) := by
    unfold decL decodeN
    rw [if_pos c0]
  have hfin : pointV ((L s).drop i) = .tuple #[.int .i64 (bt ((L s).drop i) 0 : Int), .int .i64 1] := by
    unfold pointV
    rw [if_neg (by rw [brk_iff, hd]; dsimp only; omega), hd]
    rfl
  have hb := get_bt s i 0 (by omega)
  simp only [Nat.add_zero] at hb
  generalize (L s).drop i = d at *
  generalize hc : bt d 0 = c at *
  have z1 : (c : Int) < 128 := by omega
  have HF := Lib.hid hfin
  clear hfin hc hd
  go_enter Tryd.func73, Tryd.ntmps73
  go_wp2
  go_ret2
  exact ⟨by rw [HF.out]; first | done | rfl, rfl⟩
set_option maxRecDepth 100000 in
set_option maxHeartbeats 1000000 in
theorem point_mid (s : ByteArray) (i : Nat) (hi : i < s.size) (hs : s.size ≤ 281474976710656) (w : World) (c0 : 128 ≤ bt ((L s).drop i) 0) (c1 : bt ((L s).drop i) 0 < 192) :
    Calls Tryd.prog 73 #[.string s, .int .i64 i] w fun e w' => e = .returned (pointV ((L s).drop i)) ∧ w = w' := by
  have hfin := pointV_brk (brk_other ((L s).drop i).length (bt ((L s).drop i) 0) (bt ((L s).drop i) 1) (bt ((L s).drop i) 2) (bt ((L s).drop i) 3) (.inl ⟨c0, c1⟩))
  have hb := get_bt s i 0 (by omega)
  simp only [Nat.add_zero] at hb
  generalize (L s).drop i = d at *
  generalize hc : bt d 0 = c at *
  have z0 : (128 : Int) ≤ (c : Int) := by omega
  have z1 : (c : Int) < 192 := by omega
  have t1 : decide ((c : Int) < 128) = false := by simp; omega
  have t2 : decide ((192 : Int) ≤ (c : Int)) = false := by simp; omega
  have t3 : decide ((224 : Int) ≤ (c : Int)) = false := by simp; omega
  have t5 : decide ((240 : Int) ≤ (c : Int)) = false := by simp; omega
  have HF := Lib.hid hfin
  clear hfin hc
  go_enter Tryd.func73, Tryd.ntmps73
  go_wp2
  go_ret2
  exact ⟨by rw [HF.out]; first | done | rfl, rfl⟩
set_option maxRecDepth 100000 in
set_option maxHeartbeats 1000000 in
theorem point_high (s : ByteArray) (i : Nat) (hi : i < s.size) (hs : s.size ≤ 281474976710656) (w : World) (c0 : 248 ≤ bt ((L s).drop i) 0) :
    Calls Tryd.prog 73 #[.string s, .int .i64 i] w fun e w' => e = .returned (pointV ((L s).drop i)) ∧ w = w' := by
  have hfin := pointV_brk (brk_other ((L s).drop i).length (bt ((L s).drop i) 0) (bt ((L s).drop i) 1) (bt ((L s).drop i) 2) (bt ((L s).drop i) 3) (.inr c0))
  have c1 := bt_lt ((L s).drop i) 0
  have hb := get_bt s i 0 (by omega)
  simp only [Nat.add_zero] at hb
  generalize (L s).drop i = d at *
  generalize hc : bt d 0 = c at *
  have z0 : (248 : Int) ≤ (c : Int) := by omega
  have z1 : (c : Int) < 256 := by omega
  have t1 : decide ((c : Int) < 128) = false := by simp; omega
  have t2 : decide ((192 : Int) ≤ (c : Int)) = true := by simp; omega
  have t3 : decide ((c : Int) < 224) = false := by simp; omega
  have t5 : decide ((224 : Int) ≤ (c : Int)) = true := by simp; omega
  have t6 : decide ((c : Int) < 240) = false := by simp; omega
  have t7 : decide ((240 : Int) ≤ (c : Int)) = true := by simp; omega
  have t8 : decide ((c : Int) < 248) = false := by simp; omega
  have HF := Lib.hid hfin
  clear hfin hc
  go_enter Tryd.func73, Tryd.ntmps73
  go_wp2
  go_ret2
  exact ⟨by rw [HF.out]; first | done | rfl, rfl⟩

theorem point_ref (s : ByteArray) (i : Nat) (hi : i < s.size) (hs : s.size ≤ 281474976710656) (w : World) :
    Calls Tryd.prog 73 #[.string s, .int .i64 i] w fun e w' => e = .returned (pointV ((L s).drop i)) ∧ w = w' := by
  by_cases h1 : bt ((L s).drop i) 0 < 128
  · exact point_ascii s i hi hs w h1
  by_cases h2 : bt ((L s).drop i) 0 < 192
  · exact point_mid s i hi hs w (by omega) h2
  by_cases h3 : bt ((L s).drop i) 0 < 224
  · by_cases hl : i + 2 ≤ s.size
    · exact point_long2 s i hs hi w (by omega) h3 hl
    · exact point_short2 s i hs hi w (by omega) h3 (by omega)
  by_cases h4 : bt ((L s).drop i) 0 < 240
  · by_cases hl : i + 3 ≤ s.size
    · exact point_long3 s i hs hi w (by omega) h4 hl
    · exact point_short3 s i hs hi w (by omega) h4 (by omega)
  by_cases h5 : bt ((L s).drop i) 0 < 248
  · by_cases hl : i + 4 ≤ s.size
    · exact point_long4 s i hs hi w (by omega) h5 hl
    · exact point_short4 s i hs hi w (by omega) h5 (by omega)
  · exact point_high s i hi hs w (by omega)
end Go.Proofs.YtboalmmpcfiicaaDoor
