/- The reference of num.Put: what it hands back is its own. -/
import Derived.Test.YtboalmmpcfiicaaDoorNPutRef
namespace Go.Proofs.YtboalmmpcfiicaaDoor
open Go.RowKit Go.Shelf
set_option linter.unusedVariables false
set_option maxRecDepth 100000

/-- what the reference hands back: bytes of its own -/
def PutOwn (x : Int) (k : Nat) (w : World) (e : Ending) (W' : World) : Prop :=
  ∃ v, e = .returned (.tuple #[v, .int .i64 0]) ∧ W'.ownsRow w.heap.size 5 1 v k (cellsOf (beL x k)) ∧ Below w.heap.size w W'
set_option maxHeartbeats 1000000 in
theorem PutRefO_loop (x : Int) (k : Nat) (hx : 0 ≤ x) (hx' : x ≤ 18446744073709551615) (hk0 : 1 ≤ k) (hk : k ≤ 8) (w : World) (hsize : ∀ W, Calls Tryd.prog 66 #[.int .i64 (k : Int)] W fun e w' => e = .returned (.bool true) ∧ W = w')
    (hfit : ((k : Int) < 8 ∧ ((x : Int) < IntKind.u64.wrap (2 ^ (8 * k)))) ∨ decide ((k : Int) < 8) = false) :
    Calls Tryd.prog 53 #[.int .u64 x, .int .i64 (k : Int)] w fun e W' => PutOwn x k w e W' := by
  obtain ⟨i0, hi, hz0, hz1, hz2⟩ := info_parts Try_info5
  rcases hfit with ⟨h8, hf⟩ | h8
  all_goals (
    go_enter Tryd.func53, Tryd.ntmps53
    go_wp2_with (go_at_call 66; refine (hsize _).mono ?_; rintro e w' ⟨rfl, rfl⟩)
    go_loopw [6, 7] (fun b i wr => PutRel x k w b i wr) (fun _ i _ => (intOf i + 1).toNat)
    case atStart => exact ⟨k, Nat.le_refl _, rfl, by rw [Nat.sub_self]; exact World.ownsRow_nil _ _ _ _, Below.refl _ _⟩
    case round =>
      obtain ⟨r, hr, rfl, hown, hb⟩ := hrel
      rcases r with _ | r
      · rw [show (((0 : Nat) : Int) - 1) = -1 from rfl]
        rw [Nat.sub_zero, List.take_of_length_le (by rw [beL_length]; exact Nat.le_refl _)] at hown
        obtain ⟨k', rfl⟩ : ∃ k', k = k' + 1 := ⟨k - 1, by omega⟩
        obtain ⟨g, cap, hv⟩ := ownsRow_succ hown
        rw [hv] at hown ⊢
        clear hv
        go_wp2
        go_ret2
        exact ⟨_, rfl, hown, hb⟩
      · rw [show (((r + 1 : Nat) : Int) - 1) = (r : Int) by omega]
        have hlen : k - (r + 1) ≤ 8 := by omega
        have hsz := hb.size
        have hsn := Lib.hid (beL_take_snoc x k r hr)
        have hbc := Lib.hid (byte_cell x r)
        go_wp2_with (at_builtin; (refine wpList_append_own _ rfl (.tmp 29) (.tmp 36) 28 rfl w.heap.size 5 i0 (.int .u8 0) 1 1 Tryd.underlying28 hi hz0 hz1 hz2 rfl (by decide) u6 _ _ rfl (hown.alloc _) ⟨wr.heap.size, 0, none⟩ 1 1 [.int .u8 (x / 2 ^ (8 * r) % 256)] rfl rfl (cell_one_new _ _ _) (by simp [Value.oneCell']) (by simp only [maxLen]; omega) (by omega) (by simp; omega) ?_; intro v' w2 hown2 hgrow2 _))
        refine ⟨⟨r, by omega, rfl, ?_, (hb.alloc hsz _).grown hgrow2 (by simp; omega) (own_base hown)⟩, by simp [intOf]⟩
        rw [show k - (r + 1) + 1 = k - r by omega, ← hbc.out, ← cellsOf_append, ← hsn.out] at hown2
        exact hown2)
theorem PutRefO_ok (x : Int) (k : Nat) (hs : sizeB k = true) (hx : 0 ≤ x) (hx' : x ≤ 18446744073709551615) (w : World) (hfit : fitsB x k = true) :
    Calls Tryd.prog 53 #[.int .u64 x, .int .i64 (k : Int)] w fun e W' => PutOwn x k w e W' := by
  have hk := size_bd hs
  have hsize := size_ref k
  rw [hs] at hsize
  refine PutRefO_loop x k hx hx' (by omega) (by omega) w hsize ?_
  rcases size_cases hs with rfl | rfl | rfl | rfl
  · refine .inl ⟨by omega, ?_⟩
    have : x < 256 := by simpa [fitsB, lim] using hfit
    rw [IntKind.wrap_u64]
    simp
    omega
  · refine .inl ⟨by omega, ?_⟩
    have : x < 65536 := by simpa [fitsB, lim] using hfit
    rw [IntKind.wrap_u64]
    simp
    omega
  · refine .inl ⟨by omega, ?_⟩
    have : x < 4294967296 := by simpa [fitsB, lim] using hfit
    rw [IntKind.wrap_u64]
    simp
    omega
  · exact .inr (by decide)

end Go.Proofs.YtboalmmpcfiicaaDoor
