/- Write, on all its ways. -/
import Derived.Test.YtnhbhfnpcbmjkaaDiskWrite
namespace Go.Proofs.Ytnhbhfnpcbmjkaa
open Go.RowKit Go.Shelf Go.Maps
set_option linter.unusedVariables false
set_option linter.unusedSimpArgs false

theorem DPost.kept {w W : World} {p : DP} {s : DS} (h : DiskAt W p s) (hb : Below w.heap.size w W) (v : Value) : DPost w p s v (.returned v) W := DPost.below hb (DPost.same h v)
set_option maxHeartbeats 1000000 in
theorem Write_disk {w : World} {p : DP} {s : DS} (h : DiskAt w p s) (n : Int) (l : Blk) (hl : l.length = 64) (hs : s.steps + 1 < 4611686018427387904) (hq : s.q.length < 1099511627776) :
    Calls Try.prog 8 #[.pointer (some ⟨p.db, 0, none⟩), .int .i64 n, bv l] w fun e w' => DPost w p (writeS s n l) (.int .i64 (writeE s n)) e w' := by
  cases hd : s.dark
  · cases hn : inB s n
    · rw [show writeS s n l = s from by simp [writeS, hd, hn], show writeE s n = 2 from by simp [writeE, hd, hn]]
      have H0 := Lib.hid h
      have HD := Lib.hid hd
      have HN := Lib.hid hn
      clear h hl hs hq hd hn
      go_enter Try.func8, Try.ntmps8
      go_wp2_with (refine wpList_box_blk rfl (.tmp 2) rfl l rfl ?_; intro g5 W0 hk5 hb5 hg5; go_frame; have B5 := Lib.hid hb5; clear hk5 hb5 hg5)
      have HW0 := Lib.hid (H0.out.below B5.out)
      have c1 := refused_disk HW0.out
      rw [HD.out, if_neg (by decide)] at c1
      refine c1.mono ?_
      clear c1
      rintro e _ ⟨rfl, rfl⟩
      go_wp2_with fail
      have c2 := isBlock_disk HW0.out n
      rw [show decide (0 ≤ n ∧ n < (s.blocks : Int)) = false from HN.out] at c2
      refine c2.mono ?_
      clear c2
      rintro e _ ⟨rfl, rfl⟩
      go_wp2_with fail
      go_ret
      exact DPost.kept HW0.out B5.out _
    · by_cases h1 : s.left = 1
      · rw [show writeS s n l = gone s from by simp [writeS, hd, hn, h1], show writeE s n = 9 from by simp [writeE, hd, hn, h1]]
        have H0 := Lib.hid h
        have HD := Lib.hid hd
        have HN := Lib.hid hn
        have HS := Lib.hid hs
        have H1 := Lib.hid h1
        clear h hl hs hq hd hn h1
        go_enter Try.func8, Try.ntmps8
        go_wp2_with (refine wpList_box_blk rfl (.tmp 2) rfl l rfl ?_; intro g5 W0 hk5 hb5 hg5; go_frame; have B5 := Lib.hid hb5; clear hk5 hb5 hg5)
        have HW0 := Lib.hid (H0.out.below B5.out)
        have c1 := refused_disk HW0.out
        rw [HD.out, if_neg (by decide)] at c1
        refine c1.mono ?_
        clear c1
        rintro e _ ⟨rfl, rfl⟩
        go_wp2_with fail
        have c2 := isBlock_disk HW0.out n
        rw [show decide (0 ≤ n ∧ n < (s.blocks : Int)) = true from HN.out] at c2
        refine c2.mono ?_
        clear c2
        rintro e _ ⟨rfl, rfl⟩
        go_wp2_with fail
        have c3 := work_disk HW0.out HS.out
        rw [decide_eq_false (by rw [H1.out]; decide), show workS s = gone s from if_pos H1.out] at c3
        refine c3.mono ?_
        clear c3
        rintro e W ⟨rfl, hW, hT⟩
        have HW := Lib.hid hW
        have HT := Lib.hid hT
        clear hW hT
        go_wp2_with fail
        go_ret
        exact DPost.below B5.out ⟨rfl, p, HW.out, rfl, HT.out.mono fun i _ e => .inl e, fun k hk => .inl hk⟩
      · rw [show writeS s n l = wrote s n l from by simp [writeS, hd, hn, h1], show writeE s n = 0 from by simp [writeE, hd, hn, h1]]
        exact Write_ok h n l hl hs hq hd hn h1
  · rw [show writeS s n l = s from by simp [writeS, hd], show writeE s n = 9 from by simp [writeE, hd]]
    have H0 := Lib.hid h
    have HD := Lib.hid hd
    clear h hl hs hq hd
    go_enter Try.func8, Try.ntmps8
    go_wp2_with (refine wpList_box_blk rfl (.tmp 2) rfl l rfl ?_; intro g5 W0 hk5 hb5 hg5; go_frame; have B5 := Lib.hid hb5; clear hk5 hb5 hg5)
    have HW0 := Lib.hid (H0.out.below B5.out)
    have c1 := refused_disk HW0.out
    rw [HD.out, if_pos rfl] at c1
    refine c1.mono ?_
    clear c1
    rintro e _ ⟨rfl, rfl⟩
    go_wp2_with fail
    go_ret
    exact DPost.kept HW0.out B5.out _

end Go.Proofs.Ytnhbhfnpcbmjkaa
