/- SWEPT -/
import Derived.Test.YtfgbpinfplllgaaGreatDoorZStWith2
set_option linter.unusedVariables false
set_option linter.unusedSimpArgs false
open Go.Lib (hid)
namespace Go.Proofs.YtfgbpinfplllgaaGreatDoor
open Go.RowKit Go.Shelf
set_option maxRecDepth 100000
def OnS (w : World) (sb d : Nat) (j : JS) (s : DS) (rows : List Rw) (cut : Bool) (H : Nat) (F : Nat → Prop) : Prop :=
  ∃ jb v A n c FJ FR, Cs w sb 87 #[.pointer (some ⟨d, 0, none⟩), .pointer (some ⟨jb, 0, none⟩), .slice A n c, .bool cut] ∧ OnJ w jb d v j s H FJ ∧ LsV rowE w FR (.slice A n c) rows ∧ (∀ k, FJ k → F k ∧ ¬ FR k ∧ k ≠ sb ∧ k < w.heap.size) ∧ (∀ k, FR k → F k ∧ k ≠ sb ∧ k < w.heap.size) ∧ F sb
theorem OnS.turn {w w' : World} {sb d : Nat} {j : JS} {s : DS} {rows : List Rw} {cut : Bool} {H : Nat} {F G : Nat → Prop} (h : OnS w sb d j s rows cut H F) (ht : Turn w w' G) (hG : ∀ k, F k → ¬ G k) : OnS w' sb d j s rows cut H F := by
  obtain ⟨jb, v, A, n, c, FJ, FR, h1, h2, h3, h4, h5, h6⟩ := h
  have hs := ht.size
  exact ⟨jb, v, A, n, c, FJ, FR, h1.turn ht (hG _ h6), h2.turn ht fun k hk => hG k (h4 k hk).1, h3.turn ht fun k hk => hG k (h5 k hk).1, fun k hk => by obtain ⟨a, b, c, e⟩ := h4 k hk; exact ⟨a, b, c, by omega⟩, fun k hk => by obtain ⟨a, b, c⟩ := h5 k hk; exact ⟨a, b, by omega⟩, h6⟩
theorem OnS.below {w w' : World} {sb d : Nat} {j : JS} {s : DS} {rows : List Rw} {cut : Bool} {H : Nat} {F : Nat → Prop} (h : OnS w sb d j s rows cut H F) (hb : Below w.heap.size w w') : OnS w' sb d j s rows cut H F := h.turn (Turn.of_below hb fun _ => False) fun _ _ h => h
theorem OnS.lt {w : World} {sb d : Nat} {j : JS} {s : DS} {rows : List Rw} {cut : Bool} {H : Nat} {F : Nat → Prop} (h : OnS w sb d j s rows cut H F) : sb < w.heap.size := by
  obtain ⟨jb, v, A, n, c, FJ, FR, h1, _⟩ := h
  exact h1.lt
theorem OnS.mono {w : World} {sb d : Nat} {j : JS} {s : DS} {rows : List Rw} {cut : Bool} {H : Nat} {F G : Nat → Prop} (h : OnS w sb d j s rows cut H F) (hG : ∀ k, k < w.heap.size → F k → G k) : OnS w sb d j s rows cut H G := by
  have hl := h.lt
  obtain ⟨jb, v, A, n, c, FJ, FR, h1, h2, h3, h4, h5, h6⟩ := h
  exact ⟨jb, v, A, n, c, FJ, FR, h1, h2, h3, fun k hk => by obtain ⟨a, b, c, e⟩ := h4 k hk; exact ⟨hG k e a, b, c, e⟩, fun k hk => by obtain ⟨a, b, c⟩ := h5 k hk; exact ⟨hG k c a, b, c⟩, hG _ hl h6⟩
theorem OnS.disk {w : World} {sb d : Nat} {j : JS} {s : DS} {rows : List Rw} {cut : Bool} {H : Nat} {F : Nat → Prop} (h : OnS w sb d j s rows cut H F) : DiskV w d s F := by
  obtain ⟨jb, v, A, n, c, FJ, FR, h1, h2, h3, h4, h5, h6⟩ := h
  exact h2.disk.within fun k hk _ => (h4 k hk).1
theorem isNoneS_some (sb d : Nat) (w : World) (h : w.cell? ⟨sb, 0, none⟩ = some (.pointer (some ⟨d, 0, none⟩))) : Calls Tryz.prog 44 #[.pointer (some ⟨sb, 0, none⟩)] w fun e w' => e = .returned (.bool false) ∧ w = w' := by
  go_enter Tryz.func44, Tryz.ntmps44
  go_wp2
  go_ret
  exact ⟨rfl, rfl⟩
theorem now_end {w : World} {g : Nat} {a b v : Value} {tmps : Array Value} (hc : Cs w g 85 #[a, b]) (hp : tmps.getD 2 undef = .pointer (some ⟨g, 0, none⟩)) (hv : tmps.getD 3 undef = v) : (results Tryz.f94 tmps).run Tryz.prog w = .ok (.tuple #[.agg #[a, b], v]) w := by
  rw [results_agg_tmp (p := 2) (u := 3) (ty := 85) rfl tmps w g 0 [a, b] hp (At.whole hc) _ Tryz.underlying85 rfl (by kernel_rfl), hv]
theorem now_v {w : World} {sb d jb : Nat} {A : Option Addr} {n c : Nat} (h : Cs w sb 87 #[.pointer (some ⟨d, 0, none⟩), .pointer (some ⟨jb, 0, none⟩), .slice A n c, .bool false]) :
    Calls Tryz.prog 94 #[.pointer (some ⟨sb, 0, none⟩)] w fun e w' => e = .returned (.tuple #[.agg #[.pointer (some ⟨jb, 0, none⟩), .slice A n c], .nilIface]) ∧ Below w.heap.size w w' := by
  have hlt := h.lt
  have c1 : w.cell? ⟨sb, 0 + 1, none⟩ = some (.pointer (some ⟨jb, 0, none⟩)) := h.cell 1 rfl
  have c2 : w.cell? ⟨sb, 0 + 2, none⟩ = some (.slice A n c) := h.cell 2 rfl
  have c3 : w.cell? ⟨sb, 0 + 3, none⟩ = some (.bool false) := h.cell 3 rfl
  have hb1 := (Below.refl w.heap.size w).alloc (Nat.le_refl _) (.cells #[.pointer none, .slice none 0 0] 85)
  have d1 := (hb1.cell (p := ⟨sb, 0 + 1, none⟩) hlt).trans c1
  have d2 := (hb1.cell (p := ⟨sb, 0 + 2, none⟩) hlt).trans c2
  have d3 := (hb1.cell (p := ⟨sb, 0 + 3, none⟩) hlt).trans c3
  have K1 := Cs.new w 85 #[.pointer none, .slice none 0 0]
  clear c1 c2 c3 h
  go_enter Tryz.func94, Tryz.ntmps94
  go_wp2
  exact bodyPost_ret (now_end (Cs.new w 85 #[.pointer (some ⟨jb, 0, none⟩), .slice A n c]) rfl rfl) rfl ⟨rfl, (Below.refl _ _).alloc (Nat.le_refl _) _⟩
theorem RoomS_v {w : World} {sb d : Nat} {j : JS} {s : DS} {rows : List Rw} {cut : Bool} {H : Nat} {F : Nat → Prop} (h : OnS w sb d j s rows cut H F) :
    Calls Tryz.prog 34 #[.pointer (some ⟨sb, 0, none⟩)] w fun e w' => e = .returned (.int .i64 ((H : Int) - (j.used : Int))) ∧ Below w.heap.size w w' := by
  obtain ⟨jb, v, A, n, c, FJ, FR, h1, h2, h3, h4, h5, h6⟩ := h
  have c0 : w.cell? ⟨sb, 0, none⟩ = some (.pointer (some ⟨d, 0, none⟩)) := h1.cell 0 rfl
  have c1 : w.cell? ⟨sb, 0 + 1, none⟩ = some (.pointer (some ⟨jb, 0, none⟩)) := h1.cell 1 rfl
  have hn := isNoneS_some sb d w c0
  have hr := Room_v h2
  generalize (H : Int) - (j.used : Int) = r at *
  clear h1 h2 h3 h4 h5 h6 c0
  go_enter Tryz.func34, Tryz.ntmps34
  go_wp2_with fail
  refine hn.mono ?_
  rintro e w' ⟨rfl, rfl⟩
  go_wp2_with fail
  refine hr.mono ?_
  rintro e w' ⟨rfl, hb⟩
  go_wp2_with fail
  go_ret
  exact ⟨rfl, hb⟩
theorem Rows_v (K : K7) {w : World} {sb d : Nat} {j : JS} {s : DS} {rows : List Rw} {cut : Bool} {H : Nat} {F : Nat → Prop} (h : OnS w sb d j s rows cut H F) (hm : mayP rows = true) (hl : rows.length ≤ 20000) :
    Calls Tryz.prog 30 #[.pointer (some ⟨sb, 0, none⟩)] w fun e w' => ∃ A c, e = .returned (.slice A rows.length c) ∧ LsV rowN w' (w.heap.size ≤ ·) (.slice A rows.length c) rows ∧ Below w.heap.size w w' := by
  obtain ⟨jb, v, A, n, c, FJ, FR, h1, h2, h3, h4, h5, h6⟩ := h
  have c0 : w.cell? ⟨sb, 0, none⟩ = some (.pointer (some ⟨d, 0, none⟩)) := h1.cell 0 rfl
  have c2 : w.cell? ⟨sb, 0 + 1 + 1, none⟩ = some (.slice A n c) := h1.cell 2 rfl
  have c2' : w.cell? ⟨sb, 0 + (1 + 1), none⟩ = some (.slice A n c) := h1.cell 2 rfl
  have hn := isNoneS_some sb d w c0
  have ha := (K.apply rows [] (.slice A n c) (.slice none 0 0) FR anyB w (small_rows hm (by omega)) ⟨Nat.zero_le _, fun x hx => by cases hx⟩ hl (Nat.zero_le _) h3 (LsV.nil _ _)).mono fun _ _ h => h.yes (by rw [hm]; rfl)
  rw [apply_nil] at ha
  have HA := hid ha
  clear h1 h2 h3 h4 h5 h6 c0 ha hm hl
  go_enter Tryz.func30, Tryz.ntmps30
  go_wp2_with fail
  refine hn.mono ?_
  rintro e w' ⟨rfl, rfl⟩
  go_wp2_with fail
  refine HA.out.mono ?_
  rintro e w' ⟨A', c', rfl, h1, h2⟩
  have H1 := hid h1
  have H2 := hid h2
  clear h1 h2
  go_wp2_with fail
  go_ret
  exact ⟨A', c', rfl, H1.out, H2.out⟩
end Go.Proofs.YtfgbpinfplllgaaGreatDoor
