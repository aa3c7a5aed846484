/- SWEPT -/
import Derived.Test.YtfgbpinfplllgaaGreatDoorZJourCK
import Derived.Test.YtfgbpinfplllgaaGreatDoorZJourCutsP
import Derived.Test.YtfgbpinfplllgaaGreatDoorZStCommit
set_option linter.unusedVariables false
set_option linter.unusedSimpArgs false
open Go.Lib (hid)
namespace Go.Proofs.YtfgbpinfplllgaaGreatDoor
open Go.RowKit Go.Shelf
set_option maxRecDepth 100000
theorem blank_end {w : World} {g : Nat} {a b v : Value} {tmps : Array Value} (hc : Cs w g 85 #[a, b]) (hp : tmps.getD 2 undef = .pointer (some ⟨g, 0, none⟩)) (hv : tmps.getD 3 undef = v) : (results Tryz.f36 tmps).run Tryz.prog w = .ok (.tuple #[.agg #[a, b], v]) w := by
  rw [results_agg_tmp (p := 2) (u := 3) (ty := 85) rfl tmps w g 0 [a, b] hp (At.whole hc) _ Tryz.underlying85 rfl (by kernel_rfl), hv]
theorem read_end {w : World} {g : Nat} {a b v : Value} {tmps : Array Value} (hc : Cs w g 85 #[a, b]) (hp : tmps.getD 2 undef = .pointer (some ⟨g, 0, none⟩)) (hv : tmps.getD 3 undef = v) : (results Tryz.f40 tmps).run Tryz.prog w = .ok (.tuple #[.agg #[a, b], v]) w := by
  rw [results_agg_tmp (p := 2) (u := 3) (ty := 85) rfl tmps w g 0 [a, b] hp (At.whole hc) _ Tryz.underlying85 rfl (by kernel_rfl), hv]
def BlankRet (d : Nat) (j : JS) (r : DS × Int) (H : Nat) (F : Nat → Prop) (w : World) (e : Ending) (w' : World) : Prop := Turn w w' F ∧
  ((r.2 ≠ 0 ∧ (∃ ev, e = .returned (.tuple #[.agg #[.pointer none, .slice none 0 0], ev]) ∧ ErV w' (w.heap.size ≤ ·) ev r.2) ∧ DiskV w' d r.1 F) ∨
    (r.2 = 0 ∧ ∃ jb v, e = .returned (.tuple #[.agg #[.pointer (some ⟨jb, 0, none⟩), .slice none 0 0], .nilIface]) ∧ OnJ w' jb d v j r.1 H F))
set_option maxHeartbeats 4000000 in
theorem blank_v {w : World} {d H : Nat} {s : DS} {F : Nat → Prop} (h : DiskV w d s F) (hH : s.blocks = 2 * H) (hnx : nextToV s s.blocks + 1 ≤ 2147483649) (hF : ∀ k, w.heap.size ≤ k → F k)
    (hst : s.steps + 30000 < 4611686018427387904) (hq : s.q.length + 30000 < 1099511627776) :
    Calls Tryz.prog 36 #[.pointer (some ⟨d, 0, none⟩)] w fun e w' => BlankRet d (makJ s []) (makR s H []) H F w e w' := by
  have hb1 := (Below.refl w.heap.size w).alloc (Nat.le_refl _) (.cells #[.pointer none, .slice none 0 0] 85)
  have hk1 := Cs.new w 85 #[.pointer none, .slice none 0 0]
  have hz : (w.alloc (.cells #[.pointer none, .slice none 0 0] 85)).heap.size = w.heap.size + 1 := by simp
  have hmk := Make_v (w := w.alloc (.cells #[.pointer none, .slice none 0 0] 85)) (A := none) (c := 0) (Hf := H) (F := fun k => F k ∧ k ≠ w.heap.size) [] ((h.within (G := fun k => F k ∧ k ≠ w.heap.size) fun k hk hl => ⟨hk, by omega⟩).below hb1) hH hnx (fun k hk => ⟨hF k (by omega), by omega⟩) (.inl rfl) (fun _ => ⟨rfl, rfl⟩) (Nat.le_refl _) (Nat.zero_le _) hst hq
  have HM := hid hmk
  have B1 := hid hb1
  have K1 := hid hk1
  have HF := hid hF
  clear h hH hnx hF hst hq hb1 hk1 hmk
  generalize makJ s [] = j at *
  generalize makR s H [] = r at *
  go_enter Tryz.func36, Tryz.ntmps36
  go_wp2_with fail
  generalize w.alloc (.cells #[.pointer none, .slice none 0 0] 85) = w1 at *
  refine HM.out.mono ?_
  rintro e w2 ⟨ht, hh⟩
  have k2 := K1.out.turn ht fun hn => hn.2 rfl
  have T2 := hid ht
  have hs2 := ht.size
  have TT := hid ((Turn.of_below B1.out F).trans (ht.mono fun k _ hk => hk.1) fun _ _ h => h)
  clear ht HM K1
  rcases hh with ⟨h0, rfl, hd⟩ | ⟨h0, jb, v, rfl, hjb, ho⟩
  · have hq0 : (r.2 == 0) = false := by simpa using h0
    have HW := hid (fun t => wrap_v t r.2 w2)
    have H0 := hid h0
    have D2 := hid hd
    have K2 := hid k2
    clear h0 hd k2
    go_wp2_with fail
    refine (HW.out _).mono ?_
    rintro e w3 ⟨ev, rfl, he, hb3⟩
    have hev := he.one
    have k3 := K2.out.below hb3 K2.out.lt
    have f0 := k3.frozen 0
    have f1 := k3.frozen 1
    have c0 := k3.cell 0 rfl
    have c1 := k3.cell 1 rfl
    have E3 := hid he
    have B3 := hid hb3
    have K3 := hid k3
    clear he hb3 k3
    go_wp2_with fail
    have t4 := turn_set2 w3 w.heap.size (.pointer none) (.slice none 0 0)
    have k4 := K3.out.set2 (.pointer none) (.slice none 0 0)
    generalize (w3.setCell ⟨w.heap.size, 0, none⟩ (.pointer none)).setCell ⟨w.heap.size, 1, none⟩ (.slice none 0 0) = w4 at *
    refine bodyPost_ret (blank_end k4 rfl rfl) rfl ⟨(TT.out.trans (Turn.of_below B3.out F) fun _ _ h => h).trans (t4.mono fun k _ hk => HF.out k (by omega)) fun _ _ h => h, .inl ⟨H0.out, ⟨ev, rfl, (E3.out.turn (t4.mono (G := fun k => k = w.heap.size ∧ ¬ w2.heap.size ≤ k) fun k _ e => ⟨e, by omega⟩) fun k hk hh => hh.2 hk).mono fun k _ hk => by omega⟩, ((D2.out.below B3.out).turn t4 fun k hk e => hk.2 e).within fun k hk _ => hk.1⟩⟩
  · have f0 := k2.frozen 0
    have f1 := k2.frozen 1
    have c0 := k2.cell 0 rfl
    have c1 := k2.cell 1 rfl
    have H0 := hid h0
    have O2 := hid ho
    have K2 := hid k2
    clear h0 ho k2
    go_wp2_with fail
    have t4 := turn_set2 w2 w.heap.size (.pointer (some ⟨jb, 0, none⟩)) (.slice none 0 0)
    have k4 := K2.out.set2 (.pointer (some ⟨jb, 0, none⟩)) (.slice none 0 0)
    generalize (w2.setCell ⟨w.heap.size, 0, none⟩ (.pointer (some ⟨jb, 0, none⟩))).setCell ⟨w.heap.size, 1, none⟩ (.slice none 0 0) = w4 at *
    refine bodyPost_ret (blank_end k4 rfl rfl) rfl ⟨TT.out.trans (t4.mono fun k _ hk => HF.out k (by omega)) fun _ _ h => h, .inr ⟨H0.out, jb, v, rfl, (O2.out.turn t4 fun k hk e => hk.2 e).mono fun k _ hk => hk.1⟩⟩
def MakeSRet (d : Nat) (j : JS) (r : DS × Int) (H : Nat) (F : Nat → Prop) (w : World) (e : Ending) (w' : World) : Prop := Turn w w' F ∧
  ((r.2 ≠ 0 ∧ e = .returned (.tuple #[.pointer none, .int .i64 r.2]) ∧ DiskV w' d r.1 F) ∨ (r.2 = 0 ∧ ∃ sb, e = .returned (.tuple #[.pointer (some ⟨sb, 0, none⟩), .int .i64 0]) ∧ w.heap.size ≤ sb ∧ OnS w' sb d j r.1 [] false H F))
set_option maxHeartbeats 4000000 in
theorem storeOnB_v {w : World} {d H : Nat} {s : DS} {F : Nat → Prop} (h : DiskV w d s F) (hg : LaidErr w) (hF0 : ¬ F 0) (hH : s.blocks = 2 * H) (hnx : nextToV s s.blocks + 1 ≤ 2147483649) (hF : ∀ k, w.heap.size ≤ k → F k)
    (hst : s.steps + 30000 < 4611686018427387904) (hq : s.q.length + 30000 < 1099511627776) :
    Calls Tryz.prog 35 #[.pointer (some ⟨d, 0, none⟩), .func (.func 36) #[] #[]] w fun e w' => MakeSRet d (makJ s []) (makR s H []) H F w e w' := by
  have hb := blank_v h hH hnx hF hst hq
  have HG := hid hg
  have H0 := hid hF0
  have HF := hid hF
  clear h hH hnx hF hst hq hg hF0
  generalize makJ s [] = j at *
  generalize makR s H [] = r at *
  go_enter Tryz.func35, Tryz.ntmps35
  go_wp2_with fail
  refine hb.mono ?_
  clear hb
  rintro e w1 ⟨ht, hh⟩
  have T1 := hid ht
  have hs1 := ht.size
  have hg1 : LaidErr w1 := (World.cell?_of_block (w := w) (ht.block 0 HG.out.pos H0.out)).trans HG.out
  have G1 := hid hg1
  clear ht hg1
  rcases hh with ⟨h0, ⟨ev, rfl, he⟩, hd⟩ | ⟨h0, jb, v, rfl, ho⟩
  · have hne : ev ≠ .nilIface := by
      rcases he with ⟨h, _⟩ | ⟨_, g, h, _⟩
      · exact absurd h h0
      · rw [h]; intro e; cases e
    obtain ⟨ge, hge⟩ : ∃ g, ev = .iface 181 (.pointer (some ⟨g, 0, none⟩)) := by
      rcases he with ⟨h, _⟩ | ⟨_, g, h, _⟩
      · exact absurd h h0
      · exact ⟨g, h⟩
    subst hge
    have hb2 := (Below.refl w1.heap.size w1).alloc (Nat.le_refl _) (.cells #[.pointer none, .slice none 0 0] 85)
    have NU := hid (number_v _ r.2 _ (G1.out.below hb2) (he.below hb2))
    have RH := hid h0
    have D1 := hid hd
    have B2 := hid hb2
    clear h0 he hd hb2 hne
    go_wp2_with fail
    refine NU.out.mono ?_
    rintro e w3 ⟨rfl, hb3⟩
    have B3 := hid (below_chain B2.out hb3)
    clear hb3
    go_wp2_with fail
    go_ret2
    exact ⟨T1.out.trans (Turn.of_below B3.out F) fun _ _ h => h, .inl ⟨RH.out, rfl, D1.out.below B3.out⟩⟩
  · have RH := hid h0
    have O1 := hid ho.tight
    clear h0 ho
    go_wp2_with fail
    have hb2 := (Below.refl w1.heap.size w1).alloc (Nat.le_refl _) (.cells #[.pointer (some ⟨jb, 0, none⟩), .slice none 0 0] 85)
    have hz2 : (w1.alloc (.cells #[.pointer (some ⟨jb, 0, none⟩), .slice none 0 0] 85)).heap.size = w1.heap.size + 1 := by simp
    generalize w1.alloc (.cells #[.pointer (some ⟨jb, 0, none⟩), .slice none 0 0] 85) = w2 at *
    have hb3 := (Below.refl w2.heap.size w2).alloc (Nat.le_refl _) (.cells #[.pointer (some ⟨d, 0, none⟩), .pointer (some ⟨jb, 0, none⟩), .slice none 0 0, .bool false] 87)
    have k3 := Cs.new w2 87 #[.pointer (some ⟨d, 0, none⟩), .pointer (some ⟨jb, 0, none⟩), .slice none 0 0, .bool false]
    have hz3 : (w2.alloc (.cells #[.pointer (some ⟨d, 0, none⟩), .pointer (some ⟨jb, 0, none⟩), .slice none 0 0, .bool false] 87)).heap.size = w2.heap.size + 1 := by simp
    rw [hz2] at k3
    go_ret2
    generalize w2.alloc (.cells #[.pointer (some ⟨d, 0, none⟩), .pointer (some ⟨jb, 0, none⟩), .slice none 0 0, .bool false] 87) = w3 at *
    have hb := below_chain hb2 hb3
    refine ⟨T1.out.trans (Turn.of_below hb F) fun _ _ h => h, .inr ⟨RH.out, _, rfl, by omega, jb, v, none, 0, 0, fun i => F i ∧ i < w1.heap.size, fun _ => False, k3, O1.out.below hb, LsV.nil _ _, fun k hk => ⟨hk.1, fun h => h, by have := hk.2; omega, by have := hk.2; omega⟩, fun k hk => hk.elim, HF.out _ (by omega)⟩⟩
theorem MakeS_v {w : World} {d H : Nat} {s : DS} {F : Nat → Prop} (h : DiskV w d s F) (hg : LaidErr w) (hF0 : ¬ F 0) (hH : s.blocks = 2 * H) (hnx : nextToV s s.blocks + 1 ≤ 2147483649) (hF : ∀ k, w.heap.size ≤ k → F k)
    (hst : s.steps + 30000 < 4611686018427387904) (hq : s.q.length + 30000 < 1099511627776) :
    Calls Tryz.prog 10 #[.pointer (some ⟨d, 0, none⟩)] w fun e w' => MakeSRet d (makJ s []) (makR s H []) H F w e w' := by
  have hb := storeOnB_v h hg hF0 hH hnx hF hst hq
  clear h hH hnx hF hst hq hg hF0
  unfold MakeSRet at *
  generalize makJ s [] = j at *
  generalize makR s H [] = r at *
  go_enter Tryz.func10, Tryz.ntmps10
  go_wp2_with fail
  refine hb.mono ?_
  clear hb
  rintro e w1 ⟨ht, hh⟩
  have T1 := hid ht
  clear ht
  rcases hh with ⟨h0, rfl, hd⟩ | ⟨h0, sb, rfl, hsb, ho⟩
  · have R0 := hid (And.intro h0 hd)
    clear h0 hd
    go_wp2_with fail
    go_ret2
    exact ⟨T1.out, .inl ⟨R0.out.1, rfl, R0.out.2⟩⟩
  · have R0 := hid (And.intro h0 (And.intro hsb ho))
    clear h0 hsb ho
    go_wp2_with fail
    go_ret2
    exact ⟨T1.out, .inr ⟨R0.out.1, sb, rfl, R0.out.2⟩⟩
end Go.Proofs.YtfgbpinfplllgaaGreatDoor
