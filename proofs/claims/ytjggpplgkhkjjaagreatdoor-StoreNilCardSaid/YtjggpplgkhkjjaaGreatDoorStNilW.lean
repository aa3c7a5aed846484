/- SWEPT -/
/- Of no disk, and of no store, all is refused, or nothing: the law's walk. -/
import Derived.Test.YtjggpplgkhkjjaaGreatDoorStLivesW
import Derived.Test.YtjggpplgkhkjjaaGreatDoorStMake
import Derived.Test.YtjggpplgkhkjjaaGreatDoorStOpen
namespace Go.Proofs.YtjggpplgkhkjjaaGreatDoor
open Go.RowKit Go.Shelf
set_option linter.unusedVariables false
set_option maxRecDepth 100000
set_option linter.unusedSimpArgs false

/-- what is handed back of no disk -/
def NoneRet (w : World) (e : Ending) (w' : World) : Prop := ∃ ev, e = .returned (.tuple #[.agg #[.pointer none, .slice none 0 0], ev]) ∧ ErV w' (w.heap.size ≤ ·) ev 1 ∧ Below w.heap.size w w'
theorem JMake_none {w : World} {a : Option Addr} (h : NoDisk w a) (v : Value) : Calls Tryz.prog 24 #[.pointer a, v] w fun e w' => e = .returned (.tuple #[.pointer none, .int .i64 1]) ∧ w = w' := by
  have hr := refusedJ_none h
  clear h
  go_enter Tryz.func24, Tryz.ntmps24
  go_wp2_with fail
  refine hr.mono ?_
  rintro e w' ⟨rfl, rfl⟩
  go_wp2_with fail
  go_ret2
  exact ⟨rfl, rfl⟩
theorem JOpen_none {w : World} {a : Option Addr} (h : NoDisk w a) : Calls Tryz.prog 87 #[.pointer a] w fun e w' => e = .returned (.tuple #[.pointer none, .int .i64 1]) ∧ w = w' := by
  have hr := refusedJ_none h
  clear h
  go_enter Tryz.func87, Tryz.ntmps87
  go_wp2_with fail
  refine hr.mono ?_
  rintro e w' ⟨rfl, rfl⟩
  go_wp2_with fail
  go_ret2
  exact ⟨rfl, rfl⟩
set_option maxHeartbeats 4000000 in
theorem sblank_none {w : World} {a : Option Addr} (h : NoDisk w a) : Calls Tryz.prog 36 #[.pointer a] w fun e w' => NoneRet w e w' := by
  have hb1 := (Below.refl w.heap.size w).alloc (Nat.le_refl _) (.cells #[.pointer none, .slice none 0 0] 85)
  have hk1 := Cs.new w 85 #[.pointer none, .slice none 0 0]
  have hmk := JMake_none (h.below hb1) (.slice none 0 0)
  have HM := Lib.hid hmk
  have B1 := Lib.hid hb1
  have K1 := Lib.hid hk1
  have hs1 : (w.alloc (.cells #[.pointer none, .slice none 0 0] 85)).heap.size = w.heap.size + 1 := by simp
  clear h hb1 hk1 hmk
  go_enter Tryz.func36, Tryz.ntmps36
  go_wp2_with fail
  generalize w.alloc (.cells #[.pointer none, .slice none 0 0] 85) = w1 at *
  refine HM.out.mono ?_
  rintro e w2 ⟨rfl, rfl⟩
  have HW := Lib.hid (fun t => wrap_v t 1 w1)
  clear HM
  go_wp2_with fail
  refine (HW.out _).mono ?_
  rintro e w3 ⟨ev, rfl, he, hb3⟩
  have hev := he.one
  have k3 := K1.out.below hb3 K1.out.lt
  have f0 := k3.frozen 0
  have f1 := k3.frozen 1
  have c0 := k3.cell 0 rfl
  have c1 := k3.cell 1 rfl
  have E3 := Lib.hid he
  have B3 := Lib.hid hb3
  have K3 := Lib.hid k3
  clear he hb3 k3
  go_wp2_with fail
  have t4 := turn_set2 w3 w.heap.size (.pointer none) (.slice none 0 0)
  have k4 := K3.out.set2 (.pointer none) (.slice none 0 0)
  have hb4 := (below_chain B1.out B3.out).setCell (p := ⟨w.heap.size, 0, none⟩) (Nat.le_refl _) (.pointer none)
  have hb5 := hb4.setCell (p := ⟨w.heap.size, 1, none⟩) (Nat.le_refl _) (.slice none 0 0)
  generalize (w3.setCell ⟨w.heap.size, 0, none⟩ (.pointer none)).setCell ⟨w.heap.size, 1, none⟩ (.slice none 0 0) = w4 at *
  exact bodyPost_ret (blank_end k4 rfl rfl) rfl ⟨ev, rfl, (E3.out.turn (t4.mono (G := fun k => k = w.heap.size) fun k _ e => e) fun k hk hh => by omega).mono fun k _ hk => by omega, hb5⟩
set_option maxHeartbeats 4000000 in
theorem sread_none {w : World} {a : Option Addr} (h : NoDisk w a) : Calls Tryz.prog 40 #[.pointer a] w fun e w' => NoneRet w e w' := by
  have hb1 := (Below.refl w.heap.size w).alloc (Nat.le_refl _) (.cells #[.pointer none, .slice none 0 0] 85)
  have hk1 := Cs.new w 85 #[.pointer none, .slice none 0 0]
  have hmk := JOpen_none (h.below hb1)
  have HM := Lib.hid hmk
  have B1 := Lib.hid hb1
  have K1 := Lib.hid hk1
  have hs1 : (w.alloc (.cells #[.pointer none, .slice none 0 0] 85)).heap.size = w.heap.size + 1 := by simp
  clear h hb1 hk1 hmk
  go_enter Tryz.func40, Tryz.ntmps40
  go_wp2_with fail
  generalize w.alloc (.cells #[.pointer none, .slice none 0 0] 85) = w1 at *
  refine HM.out.mono ?_
  rintro e w2 ⟨rfl, rfl⟩
  have HW := Lib.hid (fun t => wrap_v t 1 w1)
  clear HM
  go_wp2_with fail
  refine (HW.out _).mono ?_
  rintro e w3 ⟨ev, rfl, he, hb3⟩
  have hev := he.one
  have k3 := K1.out.below hb3 K1.out.lt
  have f0 := k3.frozen 0
  have f1 := k3.frozen 1
  have c0 := k3.cell 0 rfl
  have c1 := k3.cell 1 rfl
  have E3 := Lib.hid he
  have B3 := Lib.hid hb3
  have K3 := Lib.hid k3
  clear he hb3 k3
  go_wp2_with fail
  have t4 := turn_set2 w3 w.heap.size (.pointer none) (.slice none 0 0)
  have k4 := K3.out.set2 (.pointer none) (.slice none 0 0)
  have hb4 := (below_chain B1.out B3.out).setCell (p := ⟨w.heap.size, 0, none⟩) (Nat.le_refl _) (.pointer none)
  have hb5 := hb4.setCell (p := ⟨w.heap.size, 1, none⟩) (Nat.le_refl _) (.slice none 0 0)
  generalize (w3.setCell ⟨w.heap.size, 0, none⟩ (.pointer none)).setCell ⟨w.heap.size, 1, none⟩ (.slice none 0 0) = w4 at *
  exact bodyPost_ret (read_end k4 rfl rfl) rfl ⟨ev, rfl, (E3.out.turn (t4.mono (G := fun k => k = w.heap.size) fun k _ e => e) fun k hk hh => by omega).mono fun k _ hk => by omega, hb5⟩
def RefusedS (w : World) (e : Ending) (w' : World) : Prop := e = .returned (.tuple #[.pointer none, .int .i64 1]) ∧ Below w.heap.size w w'
set_option maxHeartbeats 4000000 in
theorem storeOn_noneB {w : World} {a : Option Addr} (hg : LaidErr w) (hb : Calls Tryz.prog 36 #[.pointer a] w fun e w' => NoneRet w e w') :
    Calls Tryz.prog 35 #[.pointer a, .func (.func 36) #[] #[]] w fun e w' => RefusedS w e w' := by
  have HG := Lib.hid hg
  have HB := Lib.hid hb
  clear hg hb
  go_enter Tryz.func35, Tryz.ntmps35
  go_wp2_with fail
  refine HB.out.mono ?_
  rintro e w1 ⟨ev, rfl, he, hb1⟩
  obtain ⟨ge, hge⟩ : ∃ g, ev = .iface 181 (.pointer (some ⟨g, 0, none⟩)) := by
    rcases he with ⟨h, _⟩ | ⟨_, g, h, _⟩
    · exact absurd h (by decide)
    · exact ⟨g, h⟩
  subst hge
  have hb2 := (Below.refl w1.heap.size w1).alloc (Nat.le_refl _) (.cells #[.pointer none, .slice none 0 0] 85)
  have NU := Lib.hid (number_v _ 1 _ ((HG.out.below hb1).below hb2) (he.below hb2))
  have B2 := Lib.hid (below_chain hb1 hb2)
  clear he hb1 hb2 HB
  go_wp2_with fail
  refine NU.out.mono ?_
  rintro e w3 ⟨rfl, hb3⟩
  have B3 := Lib.hid (below_chain B2.out hb3)
  clear hb3
  go_wp2_with fail
  go_ret2
  exact ⟨rfl, B3.out⟩
set_option maxHeartbeats 4000000 in
theorem storeOn_noneR {w : World} {a : Option Addr} (hg : LaidErr w) (hb : Calls Tryz.prog 40 #[.pointer a] w fun e w' => NoneRet w e w') :
    Calls Tryz.prog 35 #[.pointer a, .func (.func 40) #[] #[]] w fun e w' => RefusedS w e w' := by
  have HG := Lib.hid hg
  have HB := Lib.hid hb
  clear hg hb
  go_enter Tryz.func35, Tryz.ntmps35
  go_wp2_with fail
  refine HB.out.mono ?_
  rintro e w1 ⟨ev, rfl, he, hb1⟩
  obtain ⟨ge, hge⟩ : ∃ g, ev = .iface 181 (.pointer (some ⟨g, 0, none⟩)) := by
    rcases he with ⟨h, _⟩ | ⟨_, g, h, _⟩
    · exact absurd h (by decide)
    · exact ⟨g, h⟩
  subst hge
  have hb2 := (Below.refl w1.heap.size w1).alloc (Nat.le_refl _) (.cells #[.pointer none, .slice none 0 0] 85)
  have NU := Lib.hid (number_v _ 1 _ ((HG.out.below hb1).below hb2) (he.below hb2))
  have B2 := Lib.hid (below_chain hb1 hb2)
  clear he hb1 hb2 HB
  go_wp2_with fail
  refine NU.out.mono ?_
  rintro e w3 ⟨rfl, hb3⟩
  have B3 := Lib.hid (below_chain B2.out hb3)
  clear hb3
  go_wp2_with fail
  go_ret2
  exact ⟨rfl, B3.out⟩
theorem MakeS_none {w : World} {a : Option Addr} (h : NoDisk w a) (hg : LaidErr w) : Calls Tryz.prog 10 #[.pointer a] w fun e w' => RefusedS w e w' := by
  have hb := storeOn_noneB hg (sblank_none h)
  clear h hg
  unfold RefusedS at *
  go_enter Tryz.func10, Tryz.ntmps10
  go_wp2_with fail
  refine hb.mono ?_
  rintro e w1 ⟨rfl, hb1⟩
  have B1 := Lib.hid hb1
  clear hb hb1
  go_wp2_with fail
  go_ret2
  exact ⟨rfl, B1.out⟩
theorem OpenS_none {w : World} {a : Option Addr} (h : NoDisk w a) (hg : LaidErr w) : Calls Tryz.prog 15 #[.pointer a] w fun e w' => RefusedS w e w' := by
  have hb := storeOn_noneR hg (sread_none h)
  clear h hg
  unfold RefusedS at *
  go_enter Tryz.func15, Tryz.ntmps15
  go_wp2_with fail
  refine hb.mono ?_
  rintro e w1 ⟨rfl, hb1⟩
  have B1 := Lib.hid hb1
  clear hb hb1
  go_wp2_with fail
  go_ret2
  exact ⟨rfl, B1.out⟩
/-- no store: none, or one of 0s -/
def NoS (w : World) (a : Option Addr) : Prop := a = none ∨ ∃ z, a = some ⟨z, 0, none⟩ ∧ w.cell? ⟨z, 0, none⟩ = some (.pointer none)
theorem NoS.below {w w' : World} {a : Option Addr} (h : NoS w a) (hb : Below w.heap.size w w') : NoS w' a := by
  rcases h with rfl | ⟨z, rfl, hc⟩
  · exact .inl rfl
  · exact .inr ⟨z, rfl, (hb.cell (cell_lt hc)).trans hc⟩
theorem NoS.calls {w : World} {a : Option Addr} (h : NoS w a) : Calls Tryz.prog 44 #[.pointer a] w fun e w' => e = .returned (.bool true) ∧ w = w' := by
  rcases h with rfl | ⟨z, rfl, hc⟩
  · exact isNoneS_nil w
  · exact isNoneS_zero z w hc
theorem CommitS_none {w : World} {a : Option Addr} (h : NoS w a) (v : Value) : Calls Tryz.prog 18 #[.pointer a, v] w fun e w' => e = .returned (.int .i64 1) ∧ w = w' := by
  have hr := h.calls
  clear h
  go_enter Tryz.func18, Tryz.ntmps18
  go_wp2_with fail
  refine hr.mono ?_
  rintro e w' ⟨rfl, rfl⟩
  go_wp2_with fail
  go_ret
  exact ⟨rfl, rfl⟩
theorem RoomS_none {w : World} {a : Option Addr} (h : NoS w a) : Calls Tryz.prog 34 #[.pointer a] w fun e w' => e = .returned (.int .i64 0) ∧ w = w' := by
  have hr := h.calls
  clear h
  go_enter Tryz.func34, Tryz.ntmps34
  go_wp2_with fail
  refine hr.mono ?_
  rintro e w' ⟨rfl, rfl⟩
  go_wp2_with fail
  go_ret
  exact ⟨rfl, rfl⟩
theorem RowsS_none {w : World} {a : Option Addr} (h : NoS w a) : Calls Tryz.prog 30 #[.pointer a] w fun e w' => e = .returned (.slice none 0 0) ∧ w = w' := by
  have hr := h.calls
  clear h
  go_enter Tryz.func30, Tryz.ntmps30
  go_wp2_with fail
  refine hr.mono ?_
  rintro e w' ⟨rfl, rfl⟩
  go_wp2_with fail
  go_ret
  exact ⟨rfl, rfl⟩
theorem nil8_walk (K : K7) (A : Option Addr) (n c : Nat) (z : Bool) (w : World) (hg : LaidErr w) : Calls Tryz.prog 7 #[.slice A n c, .bool z] w fun e w' => e = .returned (.bool true) ∧ Below w.heap.size w w' := by
  have GG := Lib.hid hg
  have KK := Lib.hid K
  have C := Lib.hid (fun (a b : Option Addr) (w : World) (hd : NoDisk w a) (hs : NoS w b) (hg : LaidErr w) => (⟨MakeS_none hd hg, OpenS_none hd hg, CommitS_none hs (.slice A n c), RoomS_none hs, RowsS_none hs, livesS_any KK.out w hg⟩ : _ ∧ _ ∧ _ ∧ _ ∧ _ ∧ _))
  clear hg K
  cases z with
  | false =>
    have D := Lib.hid (fun w => C.out none none w (.inl rfl) (.inl rfl))
    clear C
    go_enter Tryz.func7, Tryz.ntmps7
    go_wp2_with fail
    refine (D.out w GG.out).1.mono ?_
    rintro e w1 ⟨rfl, hb1⟩
    have B1 := Lib.hid hb1
    clear hb1
    go_wp2_with fail
    refine (D.out w1 (GG.out.below B1.out)).2.1.mono ?_
    rintro e w2 ⟨rfl, hb2⟩
    have B2 := Lib.hid (below_chain B1.out hb2)
    clear hb2 B1
    have D := Lib.hid (D.out w2 (GG.out.below B2.out))
    go_wp2_with fail
    refine D.out.2.2.1.mono ?_
    rintro e w' ⟨rfl, rfl⟩
    go_wp2_with fail
    refine D.out.2.2.2.1.mono ?_
    rintro e w' ⟨rfl, rfl⟩
    go_wp2_with fail
    refine D.out.2.2.2.2.1.mono ?_
    rintro e w' ⟨rfl, rfl⟩
    go_wp2_with fail
    refine D.out.2.2.2.2.2.mono ?_
    rintro e w' ⟨rfl, hb⟩
    have HB := Lib.hid hb
    clear hb
    go_wp2_with fail
    go_ret
    exact ⟨rfl, below_chain B2.out HB.out⟩
  | true =>
    go_enter Tryz.func7, Tryz.ntmps7
    go_wp2_with fail
    have kd := Cs.new w 83 #[.int .i64 0, .map none, .map none, .slice none 0 0, .int .i64 0, .int .i64 0, .bool false]
    have b1 := (Below.refl w.heap.size w).alloc (Nat.le_refl _) (.cells #[.int .i64 0, .map none, .map none, .slice none 0 0, .int .i64 0, .int .i64 0, .bool false] 83)
    have s1 : (w.alloc (.cells #[.int .i64 0, .map none, .map none, .slice none 0 0, .int .i64 0, .int .i64 0, .bool false] 83)).heap.size = w.heap.size + 1 := by simp
    generalize w.alloc (.cells #[.int .i64 0, .map none, .map none, .slice none 0 0, .int .i64 0, .int .i64 0, .bool false] 83) = w1 at *
    have kj := Cs.new w1 87 #[.pointer none, .pointer none, .slice none 0 0, .bool false]
    have b2 := (Below.refl w1.heap.size w1).alloc (Nat.le_refl _) (.cells #[.pointer none, .pointer none, .slice none 0 0, .bool false] 87)
    rw [s1] at kj
    generalize w1.alloc (.cells #[.pointer none, .pointer none, .slice none 0 0, .bool false] 87) = w2 at *
    have d0 : NoDisk w2 (some ⟨w.heap.size, 0, none⟩) := .inr ⟨_, rfl, (kd.below b2 kd.lt).cell 0 rfl⟩
    have j0 : NoS w2 (some ⟨w.heap.size + 1, 0, none⟩) := .inr ⟨_, rfl, kj.cell 0 rfl⟩
    have B2 := Lib.hid (below_chain b1 b2)
    have D := Lib.hid (fun w3 (hb : Below w2.heap.size w2 w3) => C.out _ _ w3 (d0.below hb) (j0.below hb) ((GG.out.below B2.out).below hb))
    clear C d0 j0 kd b1 s1 kj b2
    refine (D.out w2 (Below.refl _ _)).1.mono ?_
    rintro e w3 ⟨rfl, hb3⟩
    have B3 := Lib.hid hb3
    clear hb3
    go_wp2_with fail
    refine (D.out w3 B3.out).2.1.mono ?_
    rintro e w4 ⟨rfl, hb4⟩
    have B4 := Lib.hid (below_chain B3.out hb4)
    clear hb4 B3
    have D := Lib.hid (D.out w4 B4.out)
    go_wp2_with fail
    refine D.out.2.2.1.mono ?_
    rintro e w' ⟨rfl, rfl⟩
    go_wp2_with fail
    refine D.out.2.2.2.1.mono ?_
    rintro e w' ⟨rfl, rfl⟩
    go_wp2_with fail
    refine D.out.2.2.2.2.1.mono ?_
    rintro e w' ⟨rfl, rfl⟩
    go_wp2_with fail
    refine D.out.2.2.2.2.2.mono ?_
    rintro e w' ⟨rfl, hb⟩
    have HB := Lib.hid hb
    clear hb
    go_wp2_with fail
    go_ret
    exact ⟨rfl, below_chain B2.out (below_chain B4.out HB.out)⟩

end Go.Proofs.YtjggpplgkhkjjaaGreatDoor
