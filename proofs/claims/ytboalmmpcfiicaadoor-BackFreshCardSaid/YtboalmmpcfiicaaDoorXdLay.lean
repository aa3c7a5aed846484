/- (*Writer).lay: parts are laid behind what was laid. -/
import Derived.Test.YtboalmmpcfiicaaDoorXd0
namespace Go.Proofs.YtboalmmpcfiicaaDoor
open Go.RowKit Go.Shelf
set_option linter.unusedVariables false
set_option maxRecDepth 100000
set_option linter.unusedSimpArgs false

theorem flat_succ (ls : List (List UInt8)) (k : Nat) (h : k < ls.length) : (ls.take (k + 1)).flatten = (ls.take k).flatten ++ ls[k] := by
  rw [List.take_succ_eq_append_getElem h, List.flatten_append, List.flatten_cons, List.flatten_nil, List.append_nil]
theorem flat_le (ls : List (List UInt8)) (k : Nat) : (ls.take k).flatten.length ≤ ls.flatten.length := by
  conv => rhs; rw [← List.take_append_drop k ls]
  rw [List.flatten_append, List.length_append]
  omega
theorem own_slice {w : World} {base n : Nat} {e : TypeId} {v : Value} {xs : List Value} (h : w.ownsRow base e 1 v n xs) : ∃ A m c, v = .slice A m c ∧ m = n := by
  rcases h.2 with ⟨rfl, rfl⟩ | ⟨g, cap, cur, rfl, _⟩
  · exact ⟨none, 0, 0, rfl, rfl⟩
  · exact ⟨_, _, _, rfl, rfl⟩
/-- a round of lay -/
def LayRel (w : World) (wb : Nat) (v0 : Value) (l : List UInt8) (ls : List (List UInt8)) (i : Value) (wr : World) : Prop :=
  ∃ (k : Nat) (v : Value), k ≤ ls.length ∧ i = .int .i64 (k : Int) ∧ WrAt wr wb v (l ++ (ls.take k).flatten) ∧ Turn w wr (LayF wb v0) ∧ OwnTo w v0 v
set_option maxHeartbeats 2000000 in
theorem lay_v {w : World} {wb : Nat} {v0 : Value} {l : List UInt8} {A : Option Addr} {c : Nat} {ls : List (List UInt8)} {F : Nat → Prop} (h : WrAt w wb v0 l) (hr : RdR w F A ls) (hF : ∀ k, F k → ¬ LayF wb v0 k ∧ k < w.heap.size) (hm : ls.length ≤ 9223372036854775807) (hb : l.length + ls.flatten.length ≤ 140737488355328) :
    Calls Tryd.prog 48 #[.pointer (some ⟨wb, 0, none⟩), .slice A ls.length c] w fun e w' => Laid wb v0 (l ++ ls.flatten) w e w' := by
  have hne := h.cell.lt
  have H := Lib.hid h
  have HR := Lib.hid hr
  have HF := Lib.hid hF
  clear h hr hF
  go_enter Tryd.func48, Tryd.ntmps48
  go_wp2
  go_loopw [5, 10] (fun _ i wr => LayRel w wb v0 l ls i wr) (fun _ i _ => ls.length - (intOf i).toNat)
  case atStart => exact ⟨0, v0, Nat.zero_le _, rfl, by simpa using H.out, Turn.refl _ _, OwnTo.refl _ _⟩
  case round =>
    obtain ⟨k, v, hk, rfl, hw, ht, hto⟩ := hrel
    have HW := Lib.hid hw
    have HT := Lib.hid ht
    have HTO := Lib.hid hto
    clear hw ht hto
    by_cases hlt : k < ls.length
    · have hrk := HR.out.turn HT.out fun q hq => (HF.out q hq).1
      obtain ⟨b, off, A', c', rfl, hce, hrd, hA', -, -⟩ := hrk.get k hlt
      have HRD := Lib.hid hrd.rd
      have HA := Lib.hid hA'
      have HS := Lib.hid (flat_succ ls k hlt)
      have hle := flat_le ls (k + 1)
      rw [HS.out, List.length_append] at hle
      have HLE := Lib.hid (show (l ++ (ls.take k).flatten).length + ls[k].length ≤ 140737488355328 by rw [List.length_append]; omega)
      have c0 := HW.out.cell.cell 0 rfl
      have hlt' : (k : Int) < (ls.length : Int) := by omega
      clear hrk hrd hA' hle
      generalize ls[k] = x at *
      go_wp2_with (at_builtin; refine append_to rfl (.tmp 18) (.tmp 19) rfl 0 v _ _ rfl HW.out.own A' x x.length c' rfl rfl HRD.out HA.out HLE.out (Nat.zero_le _) ?_; intro v' w1 hown1 hg1 hto1; obtain ⟨A1, N1, c1', rfl, -⟩ := own_slice hown1; have hc1 := HW.out.cell.own hg1 HW.out.own (by decide); have c1 := hc1.cell 0 rfl; have f1 := hc1.frozen 0; have HC1 := Lib.hid hc1; have HO1 := Lib.hid hown1; have HG1 := Lib.hid hg1; have HT1 := Lib.hid hto1; clear hc1 hown1 hg1 hto1 c0)
      go_roundw
      case rel =>
        have hn : (Value.slice A1 N1 c1').ownBlock ≠ some wb := fun e => by
          obtain ⟨_, cs, hc⟩ := own_blk HO1.out e
          exact Cs.ne hc HC1.out (by decide) rfl
        refine ⟨k + 1, .slice A1 N1 c1', by omega, by go_num, ⟨?_, ?_⟩, ?_, ?_⟩
        · simpa using HC1.out.set 0 (.slice A1 N1 c1')
        · rw [HS.out, ← List.append_assoc, List.length_append]
          exact ownsRow_turn' HO1.out (Turn.setAt w1 wb 0 _) fun q hq e => hn (e ▸ hq)
        · refine (HT.out.trans (Turn.of_grown HG1.out) fun q hq e => ?_).trans (Turn.setAt w1 wb 0 _) fun q _ e => .inl e
          rcases HTO.out q e with h1 | h1
          · exact .inr h1
          · omega
        · exact HTO.out.trans HT1.out HT.out.size
      case measure => simp [intOf]; omega
    · obtain rfl : k = ls.length := by omega
      go_wp2
      go_end0
      have hw := HW.out
      rw [List.take_length] at hw
      exact ⟨rfl, v, hw, HT.out, HTO.out⟩

end Go.Proofs.YtboalmmpcfiicaaDoor
