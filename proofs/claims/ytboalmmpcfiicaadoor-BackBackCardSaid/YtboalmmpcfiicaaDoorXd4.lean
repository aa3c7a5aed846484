/- A reader: Bytes; of none, and of a zero one. -/
import Derived.Test.YtboalmmpcfiicaaDoorXd3
namespace Go.Proofs.YtboalmmpcfiicaaDoor
open Go.RowKit Go.Shelf
set_option linter.unusedVariables false
set_option maxRecDepth 100000
set_option linter.unusedSimpArgs false

theorem BsV.slice {w : World} {F : Nat → Prop} {v : Value} {l : List UInt8} (h : BsV w F v l) : ∃ A m c, v = .slice A m c := by
  obtain ⟨A, c, h, -⟩ := h
  exact ⟨_, _, _, h⟩
/-- what tells bytes in new memory, and leaves the reader as s -/
def ToldB (rb : Nat) (s : RS) (F : Nat → Prop) (l : List UInt8) (w : World) (e : Ending) (w' : World) : Prop :=
  ∃ v, e = .returned v ∧ BsV w' (w.heap.size ≤ ·) v l ∧ TyB w' v ∧ (∀ k, v.ownBlock = some k → w.heap.size ≤ k) ∧ RdAt w' rb s F ∧ Turn w w' (· = rb)
theorem ToldB.nil {rb : Nat} {s : RS} {F : Nat → Prop} {w w' : World} (h : RdAt w' rb s F) (ht : Turn w w' (· = rb)) : ToldB rb s F [] w (.returned (.slice none 0 0)) w' := ⟨_, rfl, BsV.nil _ _, .inl rfl, (fun k h => by cases h), h, ht⟩
/-- what Bytes tells, behind the number n, in t -/
def bytesN (n : Nat) (t : RS) (most : Int) : List UInt8 × RS :=
  if t.err ≠ 0 then ([], t)
  else if max most 0 < (n : Int) then ([], ⟨t.all, t.pos, 3⟩)
  else if padE t.all t.pos n = 0 then ((t.all.drop t.pos).take n, ⟨t.all, t.pos + (n + padN n), 0⟩)
  else ([], ⟨t.all, t.pos, padE t.all t.pos n⟩)
theorem bytesR_is (s : RS) (most : Int) : bytesR s most = bytesN (numR s 4).1.toNat (numR s 4).2 most := by
  unfold bytesR bytesN padE
  generalize (numR s 4).1.toNat = n
  generalize (numR s 4).2 = t
  dsimp only
  by_cases h1 : t.err ≠ 0
  · rw [if_pos h1, if_pos h1]
  rw [if_neg h1, if_neg h1]
  by_cases h2 : max most 0 < (n : Int)
  · rw [if_pos h2, if_pos h2]
  rw [if_neg h2, if_neg h2]
  by_cases h3 : t.all.length < t.pos + (n + padN n)
  · rw [if_pos h3, if_pos h3, if_neg (by decide)]
  rw [if_neg h3, if_neg h3]
  by_cases h4 : allZ t.all (t.pos + n) (padN n) = true
  · rw [if_pos h4, if_pos h4, if_pos rfl]
  · rw [if_neg h4, if_neg h4, if_neg (by decide)]
set_option maxHeartbeats 4000000 in
theorem Bytes_r {w : World} {rb : Nat} {s : RS} {F : Nat → Prop} (most : Int) (hm0 : -9223372036854775808 ≤ most) (hm1 : most ≤ 9223372036854775807) (hlen : s.all.length ≤ 140737488355328) (h : RdAt w rb s F) :
    Calls Tryd.prog 58 #[.pointer (some ⟨rb, 0, none⟩), .int .i64 most] w fun e w' => ToldB rb (bytesR s most).2 F (bytesR s most).1 w e w' := by
  have hn := Number_r h
  obtain ⟨h0, h1⟩ := numR_four s
  have hal := numR_all s 4
  rw [bytesR_is]
  clear h
  generalize (numR s 4).1 = nn at *
  generalize (numR s 4).2 = t at *
  obtain ⟨n, rfl⟩ := Int.eq_ofNat_of_zero_le h0
  rw [Int.toNat_natCast]
  have hn' : (n : Int) ≤ 4294967295 := h1
  have hn2 : n ≤ 4294967295 := by omega
  rw [← hal] at hlen
  have HLEN := Lib.hid hlen
  clear h0 h1 hal hlen
  have HN := Lib.hid hn
  clear hn
  by_cases he : t.err = 0
  · have hmx : 0 ≤ max most 0 := by omega
    have hmx' : max most 0 ≤ 9223372036854775807 := by omega
    unfold bytesN
    rw [if_neg (by simpa using he)]
    have herr := fun u (h : RdAt u rb t F) => Error_r h
    rw [he] at herr
    have HERR := Lib.hid herr
    clear herr
    by_cases hlim : max most 0 < (n : Int)
    · rw [if_pos hlim]
      have HE := Lib.hid he
      clear he
      go_enter Tryd.func58, Tryd.ntmps58
      go_wp2_with fail
      refine HN.out.mono ?_
      rintro e w1 ⟨rfl, h, ht⟩
      obtain ⟨c3, f3⟩ := h.f3
      have H := Lib.hid h
      have HT := Lib.hid ht
      clear h ht
      go_wp2_with fail
      refine (HERR.out _ H.out).mono ?_
      rintro e w' ⟨rfl, rfl⟩
      go_wp2_with fail
      go_ret
      exact ToldB.nil (H.out.fail 3) (HT.out.trans (Turn.setAt w1 rb 3 _) fun _ _ h => h)
    · rw [if_neg hlim]
      have hlim' : (n : Int) ≤ max most 0 := by omega
      have HE := Lib.hid he
      clear he hlim
      by_cases hpe : padE t.all t.pos n = 0
      · rw [if_pos hpe]
        have HPE := Lib.hid hpe
        clear hpe
        go_enter Tryd.func58, Tryd.ntmps58
        go_wp2_with fail
        refine HN.out.mono ?_
        rintro e w1 ⟨rfl, h, ht⟩
        have H := Lib.hid h
        have HT := Lib.hid ht
        clear h ht
        go_wp2_with fail
        refine (HERR.out _ H.out).mono ?_
        rintro e w' ⟨rfl, rfl⟩
        go_wp2_with fail
        refine (padded_r n hn2 HLEN.out H.out).mono ?_
        rintro e w2 hpad
        obtain ⟨-, v, rfl, hv, hty, hown, hr, ht⟩ := hpad.resolve_left fun h => h.1 HPE.out
        rw [HE.out] at hr
        obtain ⟨A3, N3, c3, rfl⟩ := hv.slice
        have K := Lib.hid (And.intro hv (And.intro hty (And.intro hown (And.intro hr ht))))
        clear hpad hv hty hown hr ht
        go_wp2_with fail
        go_ret
        have hs := HT.out.size
        exact ⟨_, rfl, K.out.1.mono fun k _ h => by omega, K.out.2.1, fun k hk => by have := K.out.2.2.1 k hk; omega, K.out.2.2.2.1, HT.out.trans K.out.2.2.2.2 fun _ _ h => h⟩
      · rw [if_neg hpe]
        have HPE := Lib.hid hpe
        have e0 : (padE t.all t.pos n == 0) = false := by simpa using hpe
        have e1 : (padE t.all t.pos n != 0) = true := by rw [bne, e0]; rfl
        clear hpe
        go_enter Tryd.func58, Tryd.ntmps58
        go_wp2_with fail
        refine HN.out.mono ?_
        rintro e w1 ⟨rfl, h, ht⟩
        have H := Lib.hid h
        have HT := Lib.hid ht
        clear h ht
        go_wp2_with fail
        refine (HERR.out _ H.out).mono ?_
        rintro e w' ⟨rfl, rfl⟩
        go_wp2_with fail
        refine (padded_r n hn2 HLEN.out H.out).mono ?_
        rintro e w2 hpad
        obtain ⟨-, rfl, hr, hb⟩ := hpad.resolve_right fun h => HPE.out h.1
        obtain ⟨c3, f3⟩ := hr.f3
        have hr3 := hr.fail (padE t.all t.pos n)
        have HR3 := Lib.hid hr3
        have HB := Lib.hid hb
        clear hpad hr hr3 hb
        go_wp2_with fail
        go_ret
        exact ToldB.nil HR3.out ((HT.out.trans (Turn.of_below HB.out _) fun _ _ h => h).trans (Turn.setAt w2 rb 3 _) fun _ _ h => h)
  · have e0 : (t.err == 0) = false := by simpa using he
    have e1 : (t.err != 0) = true := by rw [bne, e0]; rfl
    unfold bytesN
    rw [if_pos he]
    have herr := fun u (h : RdAt u rb t F) => Error_r h
    obtain ⟨tall, tpos, terr⟩ := t
    dsimp only at herr e0 e1
    have HERR := Lib.hid herr
    clear he herr
    go_enter Tryd.func58, Tryd.ntmps58
    go_wp2_with fail
    refine HN.out.mono ?_
    rintro e w1 ⟨rfl, h, ht⟩
    have H := Lib.hid h
    have HT := Lib.hid ht
    clear h ht
    go_wp2_with fail
    refine (HERR.out _ H.out).mono ?_
    rintro e w' ⟨rfl, rfl⟩
    go_wp2_with fail
    go_ret
    exact ToldB.nil H.out HT.out
/-- a reader of none, or one that no call made -/
def NoR (w : World) (v : Value) : Prop := v = .pointer none ∨ ∃ rb, v = .pointer (some ⟨rb, 0, none⟩) ∧ Cs w rb 82 #[.bool false, .slice none 0 0, .int .i64 0, .int .i64 0]
theorem Error_no {w : World} {v : Value} (h : NoR w v) : Calls Tryd.prog 60 #[v] w fun e w' => e = .returned (.int .i64 4) ∧ w = w' := by
  rcases h with rfl | ⟨rb, rfl, hc⟩
  · go_enter Tryd.func60, Tryd.ntmps60
    go_wp2
    go_ret
    exact ⟨rfl, rfl⟩
  · have c0 := hc.cell 0 rfl
    clear hc
    go_enter Tryd.func60, Tryd.ntmps60
    go_wp2
    go_ret
    exact ⟨rfl, rfl⟩
theorem End_no {w : World} {v : Value} (h : NoR w v) : Calls Tryd.prog 37 #[v] w fun e w' => e = .returned (.int .i64 4) ∧ w = w' := by
  have he := Error_no h
  rcases h with rfl | ⟨rb, rfl, -⟩
  all_goals
    go_enter Tryd.func37, Tryd.ntmps37
    go_wp2_with fail
    refine he.mono ?_
    clear he
    rintro e w' ⟨rfl, rfl⟩
    go_wp2_with fail
    go_ret
    exact ⟨rfl, rfl⟩
theorem num_no {w : World} {v : Value} (h : NoR w v) (k : Int) : Calls Tryd.prog 59 #[v, .int .i64 k] w fun e w' => e = .returned (.int .u64 0) ∧ w = w' := by
  have he := Error_no h
  rcases h with rfl | ⟨rb, rfl, -⟩
  all_goals
    go_enter Tryd.func59, Tryd.ntmps59
    go_wp2_with fail
    refine he.mono ?_
    clear he
    rintro e w' ⟨rfl, rfl⟩
    go_wp2_with fail
    go_ret
    exact ⟨rfl, rfl⟩
theorem Number_no {w : World} {v : Value} (h : NoR w v) : Calls Tryd.prog 35 #[v] w fun e w' => e = .returned (.int .u32 0) ∧ w = w' := by
  have he := num_no h 4
  rcases h with rfl | ⟨rb, rfl, -⟩
  all_goals
    go_enter Tryd.func35, Tryd.ntmps35
    go_wp2_with fail
    refine he.mono ?_
    clear he
    rintro e w' ⟨rfl, rfl⟩
    go_wp2_with fail
    go_ret
    exact ⟨rfl, rfl⟩
theorem Great_no {w : World} {v : Value} (h : NoR w v) : Calls Tryd.prog 56 #[v] w fun e w' => e = .returned (.int .u64 0) ∧ w = w' := by
  have he := num_no h 8
  rcases h with rfl | ⟨rb, rfl, -⟩
  all_goals
    go_enter Tryd.func56, Tryd.ntmps56
    go_wp2_with fail
    refine he.mono ?_
    clear he
    rintro e w' ⟨rfl, rfl⟩
    go_wp2_with fail
    go_ret
    exact ⟨rfl, rfl⟩
theorem Truth_no {w : World} {v : Value} (h : NoR w v) : Calls Tryd.prog 67 #[v] w fun e w' => e = .returned (.bool false) ∧ w = w' := by
  have he := Number_no h
  rcases h with rfl | ⟨rb, rfl, -⟩
  all_goals
    go_enter Tryd.func67, Tryd.ntmps67
    go_wp2_with fail
    refine he.mono ?_
    clear he
    rintro e w' ⟨rfl, rfl⟩
    go_wp2_with fail
    go_ret
    exact ⟨rfl, rfl⟩
theorem Bytes_no {w : World} {v : Value} (h : NoR w v) (most : Int) : Calls Tryd.prog 58 #[v, .int .i64 most] w fun e w' => e = .returned (.slice none 0 0) ∧ w = w' := by
  have he := Number_no h
  have hr := Error_no h
  rcases h with rfl | ⟨rb, rfl, -⟩
  all_goals
    go_enter Tryd.func58, Tryd.ntmps58
    go_wp2_with fail
    refine he.mono ?_
    clear he
    rintro e w' ⟨rfl, rfl⟩
    go_wp2_with fail
    refine hr.mono ?_
    clear hr
    rintro e w' ⟨rfl, rfl⟩
    go_wp2_with fail
    go_ret
    exact ⟨rfl, rfl⟩

end Go.Proofs.YtboalmmpcfiicaaDoor
