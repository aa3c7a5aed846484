/- The reference: are the fields as said? -/
import Derived.Test.YthfaemcpheecfaaDoorCalR1
namespace Go.Proofs.YthfaemcpheecfaaDoor
open Go.RowKit Go.Shelf
set_option linter.unusedVariables false
set_option maxRecDepth 100000
set_option linter.unusedSimpArgs false

set_option maxHeartbeats 4000000 in
theorem fields_2 (c1 c2 c3 c5 c6 : Nat) (c7 : ByteArray) (c8 c9 : Nat) (c10 : ByteArray) (c11 c12 : Nat) (c13 : List UInt8) (A : Option Addr) (cp : Nat) (w : World) : Calls Tryd.prog 38 #[.agg (calCells (CX c1 c2 c3 2 c5 c6 c7 c8 c9 c10 c11 c12 c13) (.slice A c13.length cp)).toArray] w fun e w' => e = .returned (.bool (decide (c12 ≤ 4096))) ∧ Below w.heap.size w w' := by
  have HI := Lib.hid Is_ref
  have h1 := nat_le c12 4096
  have h2 := nat_le c11 4096
  have h3 := nat_le c12 64
  have h4 := nat_le c11 4032
  have h5 := nat_le 1 c13.length
  have h6 := nat_le c13.length 64
  have H := Lib.hid (And.intro h1 (And.intro h2 (And.intro h3 (And.intro h4 (And.intro h5 h6)))))
  clear h1 h2 h3 h4 h5 h6
  rw [H.out.1]
  change Calls Tryd.prog _ #[.agg #[.int .u8 (c1 : Int), .int .u32 (c2 : Int), .int .u64 (c3 : Int), .int .u8 2, .int .u32 (c5 : Int), .int .u32 (c6 : Int), .string c7, .int .u32 (c8 : Int), .int .u32 (c9 : Int), .string c10, .int .u32 (c11 : Int), .int .u32 (c12 : Int), .slice A c13.length cp]] w _
  go_enter Tryd.func38, Tryd.ntmps38
  go_wp2_with fail
  go_ret
  exact ⟨rfl, below_new1 _ _⟩
set_option maxHeartbeats 4000000 in
theorem fields_3 (c1 c2 c3 c5 c6 : Nat) (c7 : ByteArray) (c8 c9 : Nat) (c10 : ByteArray) (c11 c12 : Nat) (c13 : List UInt8) (A : Option Addr) (cp : Nat) (w : World) : Calls Tryd.prog 38 #[.agg (calCells (CX c1 c2 c3 3 c5 c6 c7 c8 c9 c10 c11 c12 c13) (.slice A c13.length cp)).toArray] w fun e w' => e = .returned (.bool (nameL (L c7))) ∧ Below w.heap.size w w' := by
  have HI := Lib.hid Is_ref
  have h1 := nat_le c12 4096
  have h2 := nat_le c11 4096
  have h3 := nat_le c12 64
  have h4 := nat_le c11 4032
  have h5 := nat_le 1 c13.length
  have h6 := nat_le c13.length 64
  have H := Lib.hid (And.intro h1 (And.intro h2 (And.intro h3 (And.intro h4 (And.intro h5 h6)))))
  clear h1 h2 h3 h4 h5 h6
  change Calls Tryd.prog _ #[.agg #[.int .u8 (c1 : Int), .int .u32 (c2 : Int), .int .u64 (c3 : Int), .int .u8 3, .int .u32 (c5 : Int), .int .u32 (c6 : Int), .string c7, .int .u32 (c8 : Int), .int .u32 (c9 : Int), .string c10, .int .u32 (c11 : Int), .int .u32 (c12 : Int), .slice A c13.length cp]] w _
  go_enter Tryd.func38, Tryd.ntmps38
  go_wp2_with fail
  refine (HI.out _ _).mono ?_
  rintro e w1 ⟨rfl, rfl⟩
  go_wp2_with fail
  go_ret
  exact ⟨rfl, below_new1 _ _⟩
set_option maxHeartbeats 4000000 in
theorem fields_7 (c1 c2 c3 c5 c6 : Nat) (c7 : ByteArray) (c8 c9 : Nat) (c10 : ByteArray) (c11 c12 : Nat) (c13 : List UInt8) (A : Option Addr) (cp : Nat) (w : World) : Calls Tryd.prog 38 #[.agg (calCells (CX c1 c2 c3 7 c5 c6 c7 c8 c9 c10 c11 c12 c13) (.slice A c13.length cp)).toArray] w fun e w' => e = .returned (.bool (nameL (L c7))) ∧ Below w.heap.size w w' := by
  have HI := Lib.hid Is_ref
  have h1 := nat_le c12 4096
  have h2 := nat_le c11 4096
  have h3 := nat_le c12 64
  have h4 := nat_le c11 4032
  have h5 := nat_le 1 c13.length
  have h6 := nat_le c13.length 64
  have H := Lib.hid (And.intro h1 (And.intro h2 (And.intro h3 (And.intro h4 (And.intro h5 h6)))))
  clear h1 h2 h3 h4 h5 h6
  change Calls Tryd.prog _ #[.agg #[.int .u8 (c1 : Int), .int .u32 (c2 : Int), .int .u64 (c3 : Int), .int .u8 7, .int .u32 (c5 : Int), .int .u32 (c6 : Int), .string c7, .int .u32 (c8 : Int), .int .u32 (c9 : Int), .string c10, .int .u32 (c11 : Int), .int .u32 (c12 : Int), .slice A c13.length cp]] w _
  go_enter Tryd.func38, Tryd.ntmps38
  go_wp2_with fail
  refine (HI.out _ _).mono ?_
  rintro e w1 ⟨rfl, rfl⟩
  go_wp2_with fail
  go_ret
  exact ⟨rfl, below_new1 _ _⟩
set_option maxHeartbeats 4000000 in
theorem fields_8 (c1 c2 c3 c5 c6 : Nat) (c7 : ByteArray) (c8 c9 : Nat) (c10 : ByteArray) (c11 c12 : Nat) (c13 : List UInt8) (A : Option Addr) (cp : Nat) (w : World) : Calls Tryd.prog 38 #[.agg (calCells (CX c1 c2 c3 8 c5 c6 c7 c8 c9 c10 c11 c12 c13) (.slice A c13.length cp)).toArray] w fun e w' => e = .returned (.bool (nameL (L c7))) ∧ Below w.heap.size w w' := by
  have HI := Lib.hid Is_ref
  have h1 := nat_le c12 4096
  have h2 := nat_le c11 4096
  have h3 := nat_le c12 64
  have h4 := nat_le c11 4032
  have h5 := nat_le 1 c13.length
  have h6 := nat_le c13.length 64
  have H := Lib.hid (And.intro h1 (And.intro h2 (And.intro h3 (And.intro h4 (And.intro h5 h6)))))
  clear h1 h2 h3 h4 h5 h6
  change Calls Tryd.prog _ #[.agg #[.int .u8 (c1 : Int), .int .u32 (c2 : Int), .int .u64 (c3 : Int), .int .u8 8, .int .u32 (c5 : Int), .int .u32 (c6 : Int), .string c7, .int .u32 (c8 : Int), .int .u32 (c9 : Int), .string c10, .int .u32 (c11 : Int), .int .u32 (c12 : Int), .slice A c13.length cp]] w _
  go_enter Tryd.func38, Tryd.ntmps38
  go_wp2_with fail
  refine (HI.out _ _).mono ?_
  rintro e w1 ⟨rfl, rfl⟩
  go_wp2_with fail
  go_ret
  exact ⟨rfl, below_new1 _ _⟩
set_option maxHeartbeats 4000000 in
theorem fields_9 (c1 c2 c3 c5 c6 : Nat) (c7 : ByteArray) (c8 c9 : Nat) (c10 : ByteArray) (c11 c12 : Nat) (c13 : List UInt8) (A : Option Addr) (cp : Nat) (w : World) : Calls Tryd.prog 38 #[.agg (calCells (CX c1 c2 c3 9 c5 c6 c7 c8 c9 c10 c11 c12 c13) (.slice A c13.length cp)).toArray] w fun e w' => e = .returned (.bool (nameL (L c7))) ∧ Below w.heap.size w w' := by
  have HI := Lib.hid Is_ref
  have h1 := nat_le c12 4096
  have h2 := nat_le c11 4096
  have h3 := nat_le c12 64
  have h4 := nat_le c11 4032
  have h5 := nat_le 1 c13.length
  have h6 := nat_le c13.length 64
  have H := Lib.hid (And.intro h1 (And.intro h2 (And.intro h3 (And.intro h4 (And.intro h5 h6)))))
  clear h1 h2 h3 h4 h5 h6
  change Calls Tryd.prog _ #[.agg #[.int .u8 (c1 : Int), .int .u32 (c2 : Int), .int .u64 (c3 : Int), .int .u8 9, .int .u32 (c5 : Int), .int .u32 (c6 : Int), .string c7, .int .u32 (c8 : Int), .int .u32 (c9 : Int), .string c10, .int .u32 (c11 : Int), .int .u32 (c12 : Int), .slice A c13.length cp]] w _
  go_enter Tryd.func38, Tryd.ntmps38
  go_wp2_with fail
  refine (HI.out _ _).mono ?_
  rintro e w1 ⟨rfl, rfl⟩
  go_wp2_with fail
  go_ret
  exact ⟨rfl, below_new1 _ _⟩
set_option maxHeartbeats 4000000 in
theorem fields_10 (c1 c2 c3 c5 c6 : Nat) (c7 : ByteArray) (c8 c9 : Nat) (c10 : ByteArray) (c11 c12 : Nat) (c13 : List UInt8) (A : Option Addr) (cp : Nat) (w : World) : Calls Tryd.prog 38 #[.agg (calCells (CX c1 c2 c3 10 c5 c6 c7 c8 c9 c10 c11 c12 c13) (.slice A c13.length cp)).toArray] w fun e w' => e = .returned (.bool (nameL (L c7))) ∧ Below w.heap.size w w' := by
  have HI := Lib.hid Is_ref
  have h1 := nat_le c12 4096
  have h2 := nat_le c11 4096
  have h3 := nat_le c12 64
  have h4 := nat_le c11 4032
  have h5 := nat_le 1 c13.length
  have h6 := nat_le c13.length 64
  have H := Lib.hid (And.intro h1 (And.intro h2 (And.intro h3 (And.intro h4 (And.intro h5 h6)))))
  clear h1 h2 h3 h4 h5 h6
  change Calls Tryd.prog _ #[.agg #[.int .u8 (c1 : Int), .int .u32 (c2 : Int), .int .u64 (c3 : Int), .int .u8 10, .int .u32 (c5 : Int), .int .u32 (c6 : Int), .string c7, .int .u32 (c8 : Int), .int .u32 (c9 : Int), .string c10, .int .u32 (c11 : Int), .int .u32 (c12 : Int), .slice A c13.length cp]] w _
  go_enter Tryd.func38, Tryd.ntmps38
  go_wp2_with fail
  refine (HI.out _ _).mono ?_
  rintro e w1 ⟨rfl, rfl⟩
  go_wp2_with fail
  go_ret
  exact ⟨rfl, below_new1 _ _⟩
set_option maxHeartbeats 4000000 in
theorem fields_4 (c1 c2 c3 c5 c6 : Nat) (c7 : ByteArray) (c8 c9 : Nat) (c10 : ByteArray) (c11 c12 : Nat) (c13 : List UInt8) (A : Option Addr) (cp : Nat) (w : World) : Calls Tryd.prog 38 #[.agg (calCells (CX c1 c2 c3 4 c5 c6 c7 c8 c9 c10 c11 c12 c13) (.slice A c13.length cp)).toArray] w fun e w' => e = .returned (.bool (decide (c11 ≤ 4096) && decide (c12 ≤ 64))) ∧ Below w.heap.size w w' := by
  have HI := Lib.hid Is_ref
  have h1 := nat_le c12 4096
  have h2 := nat_le c11 4096
  have h3 := nat_le c12 64
  have h4 := nat_le c11 4032
  have h5 := nat_le 1 c13.length
  have h6 := nat_le c13.length 64
  have H := Lib.hid (And.intro h1 (And.intro h2 (And.intro h3 (And.intro h4 (And.intro h5 h6)))))
  clear h1 h2 h3 h4 h5 h6
  rw [H.out.2.1, H.out.2.2.1]
  rcases hb : decide ((c11 : Int) ≤ ((4096 : Nat) : Int)) with _ | _
  all_goals
    have hb : decide ((c11 : Int) ≤ 4096) = _ := hb
    change Calls Tryd.prog _ #[.agg #[.int .u8 (c1 : Int), .int .u32 (c2 : Int), .int .u64 (c3 : Int), .int .u8 4, .int .u32 (c5 : Int), .int .u32 (c6 : Int), .string c7, .int .u32 (c8 : Int), .int .u32 (c9 : Int), .string c10, .int .u32 (c11 : Int), .int .u32 (c12 : Int), .slice A c13.length cp]] w _
    go_enter Tryd.func38, Tryd.ntmps38
    go_wp2_with fail
    go_ret
    exact ⟨rfl, below_new1 _ _⟩
set_option maxHeartbeats 4000000 in
theorem fields_5 (c1 c2 c3 c5 c6 : Nat) (c7 : ByteArray) (c8 c9 : Nat) (c10 : ByteArray) (c11 c12 : Nat) (c13 : List UInt8) (A : Option Addr) (cp : Nat) (w : World) : Calls Tryd.prog 38 #[.agg (calCells (CX c1 c2 c3 5 c5 c6 c7 c8 c9 c10 c11 c12 c13) (.slice A c13.length cp)).toArray] w fun e w' => e = .returned (.bool ((decide (c11 ≤ 4032) && decide (1 ≤ c13.length)) && decide (c13.length ≤ 64))) ∧ Below w.heap.size w w' := by
  have HI := Lib.hid Is_ref
  have h1 := nat_le c12 4096
  have h2 := nat_le c11 4096
  have h3 := nat_le c12 64
  have h4 := nat_le c11 4032
  have h5 := nat_le 1 c13.length
  have h6 := nat_le c13.length 64
  have H := Lib.hid (And.intro h1 (And.intro h2 (And.intro h3 (And.intro h4 (And.intro h5 h6)))))
  clear h1 h2 h3 h4 h5 h6
  rw [H.out.2.2.2.1, H.out.2.2.2.2.1, H.out.2.2.2.2.2]
  obtain ⟨n, hn⟩ : ∃ n, n = c13.length := ⟨_, rfl⟩
  rw [← hn]
  have HN := Lib.hid hn
  clear H hn
  rcases hb : decide ((c11 : Int) ≤ ((4032 : Nat) : Int)) with _ | _
  · have hb : decide ((c11 : Int) ≤ 4032) = _ := hb
    change Calls Tryd.prog _ #[.agg #[.int .u8 (c1 : Int), .int .u32 (c2 : Int), .int .u64 (c3 : Int), .int .u8 5, .int .u32 (c5 : Int), .int .u32 (c6 : Int), .string c7, .int .u32 (c8 : Int), .int .u32 (c9 : Int), .string c10, .int .u32 (c11 : Int), .int .u32 (c12 : Int), .slice A n cp]] w _
    go_enter Tryd.func38, Tryd.ntmps38
    go_wp2_with fail
    go_ret
    exact ⟨rfl, below_new1 _ _⟩
  · have hb : decide ((c11 : Int) ≤ 4032) = _ := hb
    by_cases hz : n = 0
    · subst hz
      have he : decide (((1 : Nat) : Int) ≤ ((0 : Nat) : Int)) = false := by decide
      rw [he]
      change Calls Tryd.prog _ #[.agg #[.int .u8 (c1 : Int), .int .u32 (c2 : Int), .int .u64 (c3 : Int), .int .u8 5, .int .u32 (c5 : Int), .int .u32 (c6 : Int), .string c7, .int .u32 (c8 : Int), .int .u32 (c9 : Int), .string c10, .int .u32 (c11 : Int), .int .u32 (c12 : Int), .slice A 0 cp]] w _
      go_enter Tryd.func38, Tryd.ntmps38
      go_wp2_with fail
      go_ret
      exact ⟨rfl, below_new1 _ _⟩
    · have hp : 1 ≤ n := by omega
      have he : decide (((1 : Nat) : Int) ≤ (n : Int)) = true := decide_eq_true (by omega)
      have he' : decide ((1 : Int) ≤ (n : Int)) = true := he
      rw [he]
      change Calls Tryd.prog _ #[.agg #[.int .u8 (c1 : Int), .int .u32 (c2 : Int), .int .u64 (c3 : Int), .int .u8 5, .int .u32 (c5 : Int), .int .u32 (c6 : Int), .string c7, .int .u32 (c8 : Int), .int .u32 (c9 : Int), .string c10, .int .u32 (c11 : Int), .int .u32 (c12 : Int), .slice A n cp]] w _
      go_enter Tryd.func38, Tryd.ntmps38
      go_wp2_with fail
      go_ret
      exact ⟨rfl, below_new1 _ _⟩
set_option maxHeartbeats 4000000 in
theorem fields_11 (c1 c2 c3 c5 c6 : Nat) (c7 : ByteArray) (c8 c9 : Nat) (c10 : ByteArray) (c11 c12 : Nat) (c13 : List UInt8) (A : Option Addr) (cp : Nat) (w : World) : Calls Tryd.prog 38 #[.agg (calCells (CX c1 c2 c3 11 c5 c6 c7 c8 c9 c10 c11 c12 c13) (.slice A c13.length cp)).toArray] w fun e w' => e = .returned (.bool (nameL (L c7) && nameL (L c10))) ∧ Below w.heap.size w w' := by
  have HI := Lib.hid Is_ref
  have h1 := nat_le c12 4096
  have h2 := nat_le c11 4096
  have h3 := nat_le c12 64
  have h4 := nat_le c11 4032
  have h5 := nat_le 1 c13.length
  have h6 := nat_le c13.length 64
  have H := Lib.hid (And.intro h1 (And.intro h2 (And.intro h3 (And.intro h4 (And.intro h5 h6)))))
  clear h1 h2 h3 h4 h5 h6
  change Calls Tryd.prog _ #[.agg #[.int .u8 (c1 : Int), .int .u32 (c2 : Int), .int .u64 (c3 : Int), .int .u8 11, .int .u32 (c5 : Int), .int .u32 (c6 : Int), .string c7, .int .u32 (c8 : Int), .int .u32 (c9 : Int), .string c10, .int .u32 (c11 : Int), .int .u32 (c12 : Int), .slice A c13.length cp]] w _
  go_enter Tryd.func38, Tryd.ntmps38
  go_wp2_with fail
  refine (HI.out _ _).mono ?_
  rintro e w1 ⟨rfl, rfl⟩
  rcases hb : nameL (L c7) with _ | _
  · have HB := Lib.hid hb
    go_wp2_with fail
    go_ret
    exact ⟨by rw [HB.out]; rfl, below_new1 _ _⟩
  · have HB := Lib.hid hb
    go_wp2_with fail
    refine (HI.out _ _).mono ?_
    rintro e w1 ⟨rfl, rfl⟩
    go_wp2_with fail
    go_ret
    exact ⟨by rw [HB.out]; rfl, below_new1 _ _⟩
set_option maxHeartbeats 4000000 in
theorem fields_rest (c : CallX) (h : c.kind ≠ 2 ∧ c.kind ≠ 3 ∧ c.kind ≠ 4 ∧ c.kind ≠ 5 ∧ c.kind ≠ 7 ∧ c.kind ≠ 8 ∧ c.kind ≠ 9 ∧ c.kind ≠ 10 ∧ c.kind ≠ 11) (A : Option Addr) (n cp : Nat) (w : World) : Calls Tryd.prog 38 #[.agg (calCells c (.slice A n cp)).toArray] w fun e w' => e = .returned (.bool true) ∧ Below w.heap.size w w' := by
  obtain ⟨h2, h3, h4, h5, h7, h8, h9, h10, h11⟩ := h
  have e2 : ((c.kind : Int) == 2) = false := by rw [beq_eq_false_iff_ne]; omega
  have e3 : ((c.kind : Int) == 3) = false := by rw [beq_eq_false_iff_ne]; omega
  have e4 : ((c.kind : Int) == 4) = false := by rw [beq_eq_false_iff_ne]; omega
  have e5 : ((c.kind : Int) == 5) = false := by rw [beq_eq_false_iff_ne]; omega
  have e7 : ((c.kind : Int) == 7) = false := by rw [beq_eq_false_iff_ne]; omega
  have e8 : ((c.kind : Int) == 8) = false := by rw [beq_eq_false_iff_ne]; omega
  have e9 : ((c.kind : Int) == 9) = false := by rw [beq_eq_false_iff_ne]; omega
  have e10 : ((c.kind : Int) == 10) = false := by rw [beq_eq_false_iff_ne]; omega
  have e11 : ((c.kind : Int) == 11) = false := by rw [beq_eq_false_iff_ne]; omega
  clear h2 h3 h4 h5 h7 h8 h9 h10 h11
  unfold calCells
  go_enter Tryd.func38, Tryd.ntmps38
  go_wp2_with fail
  go_ret
  exact ⟨rfl, below_new1 _ _⟩
/-- are the fields that the row names as said? -/
def fieldsX (c : CallX) : Bool :=
  if c.kind = 2 then decide (c.size ≤ 4096)
  else if c.kind = 3 ∨ c.kind = 7 ∨ c.kind = 8 ∨ c.kind = 9 ∨ c.kind = 10 then nameL (L c.name)
  else if c.kind = 4 then decide (c.off ≤ 4096) && decide (c.size ≤ 64)
  else if c.kind = 5 then (decide (c.off ≤ 4032) && decide (1 ≤ c.data.length)) && decide (c.data.length ≤ 64)
  else if c.kind = 11 then nameL (L c.name) && nameL (L c.toname)
  else true
theorem fields_v (c : CallX) (A : Option Addr) (cp : Nat) (w : World) : Calls Tryd.prog 38 #[.agg (calCells c (.slice A c.data.length cp)).toArray] w fun e w' => e = .returned (.bool (fieldsX c)) ∧ Below w.heap.size w w' := by
  obtain ⟨c1, c2, c3, k, c5, c6, c7, c8, c9, c10, c11, c12, c13⟩ := c
  by_cases h2 : k = 2
  · subst h2; exact fields_2 c1 c2 c3 c5 c6 c7 c8 c9 c10 c11 c12 c13 A cp w
  by_cases h3 : k = 3 ∨ k = 7 ∨ k = 8 ∨ k = 9 ∨ k = 10
  · rcases h3 with rfl | rfl | rfl | rfl | rfl
    · exact fields_3 c1 c2 c3 c5 c6 c7 c8 c9 c10 c11 c12 c13 A cp w
    · exact fields_7 c1 c2 c3 c5 c6 c7 c8 c9 c10 c11 c12 c13 A cp w
    · exact fields_8 c1 c2 c3 c5 c6 c7 c8 c9 c10 c11 c12 c13 A cp w
    · exact fields_9 c1 c2 c3 c5 c6 c7 c8 c9 c10 c11 c12 c13 A cp w
    · exact fields_10 c1 c2 c3 c5 c6 c7 c8 c9 c10 c11 c12 c13 A cp w
  by_cases h4 : k = 4
  · subst h4; exact fields_4 c1 c2 c3 c5 c6 c7 c8 c9 c10 c11 c12 c13 A cp w
  by_cases h5 : k = 5
  · subst h5; exact fields_5 c1 c2 c3 c5 c6 c7 c8 c9 c10 c11 c12 c13 A cp w
  by_cases h6 : k = 11
  · subst h6; exact fields_11 c1 c2 c3 c5 c6 c7 c8 c9 c10 c11 c12 c13 A cp w
  have e : fieldsX ⟨c1, c2, c3, k, c5, c6, c7, c8, c9, c10, c11, c12, c13⟩ = true := by
    unfold fieldsX
    dsimp only
    rw [if_neg h2, if_neg h3, if_neg h4, if_neg h5, if_neg h6]
  rw [e]
  exact fields_rest _ ⟨h2, by dsimp only; omega, h4, h5, by dsimp only; omega, by dsimp only; omega, by dsimp only; omega, by dsimp only; omega, h6⟩ A _ cp w

end Go.Proofs.YthfaemcpheecfaaDoor
