/- Bytes with bytes in the room behind them: Copy, Wide, Spoil (all bytes are others, the room behind them, too). -/
import Derived.Test.YtdjjlhfgfogdeaaJourDK
import Derived.Laws.BitsAllLaws
namespace Go.Proofs.Ytdjjlhfgfogdeaa
open Go.RowKit Go.Shelf
set_option linter.unusedVariables false
set_option maxRecDepth 100000
set_option linter.unusedSimpArgs false

theorem Turn.setAt (W : World) (b k : Nat) (v : Value) : Turn W (W.setCell ⟨b, k, none⟩ v) (· = b) := ⟨rfl, rfl, rfl, by simp [World.setCell], fun i _ h => Below.heap_setCell W ⟨b, k, none⟩ v i (by simpa using h)⟩
set_option maxHeartbeats 1000000 in
theorem Copy_ty (l : List UInt8) (A : Option Addr) (c : Nat) (w : World) (hl : l.length ≤ 140737488355328) (hr : Rd w A l) (hA : A = none → l = [] ∧ c = 0) :
    Calls Try.prog 39 #[.slice A l.length c] w fun e W' => ∃ v, e = .returned v ∧ W'.ownsRow w.heap.size 5 1 v l.length (cellsOf l) ∧ TyB W' v ∧ Below w.heap.size w W' := by
  have HR := Lib.hid hr
  have HA := Lib.hid hA
  clear hr hA
  go_enter Try.func39, Try.ntmps39
  go_wp2_with (at_builtin; refine append_rd_ty rfl (.tmp 4) (.tmp 5) rfl w.heap.size (.slice none 0 0) 0 [] rfl (World.ownsRow_nil _ _ _ _) (.inl rfl) A l l.length c rfl rfl HR.out HA.out (by omega) (Nat.le_refl _) ?_; intro v' w1 hown hty hgrow)
  rw [Nat.zero_add, List.nil_append] at hown
  go_ret
  exact ⟨_, rfl, hown, hty, (Below.refl _ _).grown hgrow (Nat.le_refl _) (fun k e => by cases e)⟩
/-- what Wide hands back: l, three bytes of 9 behind it, bytes behind these -/
def WideTy (l : List UInt8) (w : World) (e : Ending) (W' : World) : Prop :=
  ∃ g cap, e = .returned (.slice (some ⟨g, 0, none⟩) l.length cap) ∧ l.length + 3 ≤ cap ∧ cap ≤ maxLen ∧ Rd W' (some ⟨g, 0, none⟩) (l ++ [9, 9, 9]) ∧ TyB W' (.slice (some ⟨g, 0, none⟩) l.length cap) ∧ w.heap.size ≤ g ∧ g < W'.heap.size ∧ Below w.heap.size w W'
set_option maxHeartbeats 1000000 in
theorem Wide_ty (l : List UInt8) (A : Option Addr) (c : Nat) (w : World) (hl : l.length + 3 ≤ 140737488355328) (hr : Rd w A l) (hA : A = none → l = [] ∧ c = 0) :
    Calls Try.prog 16 #[.slice A l.length c] w fun e W' => WideTy l w e W' := by
  have hcopy := Copy_ty l A c w (by omega) hr hA
  clear hr hA
  go_enter Try.func16, Try.ntmps16
  go_wp2_with fail
  refine hcopy.mono ?_
  clear hcopy
  rintro e w1 ⟨v, rfl, hown, hty, hb⟩
  have hsz := hb.size
  have c9 := Cs.new w1 5 #[.int .u8 9, .int .u8 9, .int .u8 9]
  have h9 := Lib.hid (rd_cs (l := [9, 9, 9]) c9 rfl)
  have HT := Lib.hid (hty.below ((Below.refl w1.heap.size w1).alloc (Nat.le_refl _) (.cells #[.int .u8 9, .int .u8 9, .int .u8 9] 5)))
  clear c9 hty
  go_wp2_with (at_builtin; refine append_rd_ty rfl (.tmp 6) (.tmp 7) rfl w.heap.size v l.length l rfl (hown.alloc _) HT.out (some ⟨w1.heap.size, 0, none⟩) [9, 9, 9] 3 3 rfl rfl h9.out (fun h => by cases h) (by omega) (by simp; omega) ?_; intro v' w2 hown2 hty2 hgrow2; obtain ⟨g, cap, rfl⟩ := ownsRow_succ hown2; obtain ⟨hlc, hcm⟩ := own_caps hown2; have hcm' := hcm; unfold maxLen at hcm'; have HT2 := Lib.hid hty2; clear hty2)
  go_ret
  obtain ⟨hg1, cs, hcs⟩ := own_blk hown2 rfl
  refine ⟨g, cap, rfl, hlc, hcm, own_rd hown2, HT2.out.len, hg1, hcs.lt, (hb.alloc hsz _).grown hgrow2 (by simp; omega) (fun k e => (own_blk hown e).1)⟩
/-- the bytes of a typed block -/
theorem TyB.bytes {w : World} {g n cap : Nat} (h : TyB w (.slice (some ⟨g, 0, none⟩) n cap)) : ∃ m : List UInt8, m.length = cap ∧ cap ≤ maxLen ∧ Cs w g 5 (cellsOf m).toArray := by
  rcases h with h | ⟨g', n', cap', cur, e, hc, h1, h2, h3⟩
  · cases h
  · cases e
    have := cells_byte _ h3
    refine ⟨cur.toList.map byteOf, by simp [h1], h2, ?_⟩
    rw [this]
    exact hc
/-- a block that is bytes again behind a step that turns it alone: what was typed is typed -/
theorem TyB.kept {w w' : World} {g : Nat} {m : List UInt8} {m' : List UInt8} (h0 : Cs w g 5 (cellsOf m).toArray) (h1 : Cs w' g 5 (cellsOf m').toArray) (hl : m'.length = m.length) (ht : Turn w w' (· = g)) {u : Value} (h : TyB w u) : TyB w' u := by
  rcases h with h | ⟨b, n, cap, cur, rfl, hc, k1, k2, k3⟩
  · exact .inl h
  · by_cases hb : b = g
    · subst hb
      have : cur = (cellsOf m).toArray := by
        unfold Cs at hc h0
        rw [h0] at hc
        cases hc
        rfl
      subst this
      refine .inr ⟨b, n, cap, _, rfl, h1, ?_, k2, cells_u8 m'⟩
      rw [← k1]
      simp [cellsOf_length, hl]
    · exact .inr ⟨b, n, cap, cur, rfl, hc.turn ht hb, k1, k2, k3⟩
theorem cellsOf_set (m : List UInt8) (k : Nat) (c : UInt8) : (cellsOf m).set k (.int .u8 (c.toNat : Int)) = cellsOf (m.set k c) := by simp [cellsOf, List.map_set]
def SpoiltRet (v : Value) (w : World) (e : Ending) (w' : World) : Prop := (∃ x, e = .returned x) ∧ Turn w w' (fun k => v.ownBlock = some k) ∧ ∀ u, TyB w u → TyB w' u
set_option maxHeartbeats 2000000 in
theorem Spoil_ty (v : Value) (bn : Nat) (hbn : bn < 256) (w : World) (hv : TyB w v) : Calls Try.prog 18 #[v, .int .u8 (bn : Int)] w fun e w' => SpoiltRet v w e w' := by
  rcases id hv with rfl | ⟨g, n, cap, cur, rfl, -⟩
  · go_enter Try.func18, Try.ntmps18
    go_wp2
    go_loop [5] (fun i => i = .int .i64 0) (fun _ => 0)
    case atStart => rfl
    case round =>
      obtain rfl := hrel
      go_wp2
      go_end0
      exact ⟨⟨_, rfl⟩, Turn.refl _ _, fun _ h => h⟩
  · obtain ⟨m0, hm0, hcm, hc0⟩ := hv.bytes
    have HC0 := Lib.hid hc0
    have HM0 := Lib.hid hm0
    clear hv hc0 hm0
    unfold maxLen at hcm
    go_enter Try.func18, Try.ntmps18
    go_wp2
    go_loopw [5] (fun i wr => ∃ (k : Nat) (m : List UInt8), k ≤ cap ∧ i = .int .i64 (k : Int) ∧ m.length = cap ∧ Cs wr g 5 (cellsOf m).toArray ∧ Turn w wr (· = g)) (fun i _ => cap - (intOf i).toNat)
    case atStart => exact ⟨0, m0, Nat.zero_le _, rfl, HM0.out, HC0.out, Turn.refl _ _⟩
    case round =>
      obtain ⟨k, m, hk, rfl, hm, hc, ht⟩ := hrel
      have HM := Lib.hid hm
      have HT := Lib.hid ht
      have HC := Lib.hid hc
      clear ht hc
      by_cases hlt : k < cap
      · have hlt' : (k : Int) < (cap : Int) := by omega
        have hL := Lib.hid hlt
        have hkm : k < m.length := by omega
        obtain ⟨xk, hxk⟩ : ∃ xk : UInt8, xk = m[k] ^^^ UInt8.ofNat bn := ⟨_, rfl⟩
        obtain ⟨mv, hmv⟩ : ∃ mv : Nat, mv = m[k].toNat := ⟨_, rfl⟩
        have hmk : (mv : Int) ≤ 255 := by have := m[k].toNat_lt; omega
        have hxor : bits .xor .u8 (mv : Int) (bn : Int) = ((xk.toNat : Nat) : Int) := by
          have := u8_xor_nat m[k].toNat bn m[k].toNat_lt hbn
          rw [hmv, hxk, this, UInt8.toNat_xor, UInt8.toNat_ofNat', Nat.mod_eq_of_lt hbn]
        have e1 : wr.cell? ⟨g, k, none⟩ = some (.int .u8 (mv : Int)) := HC.out.cell k (by rw [hmv]; simp [cellsOf, List.getElem?_eq_getElem hkm])
        have f1 := HC.out.frozen k
        have HX := Lib.hid hxor
        have HN := Lib.hid (show Cs (wr.setCell ⟨g, k, none⟩ (.int .u8 (xk.toNat : Int))) g 5 (cellsOf (m.set k xk)).toArray by
          have := HC.out.set k (.int .u8 (xk.toNat : Int))
          rw [← cellsOf_set]
          simpa using this)
        have HS := Lib.hid (fun u => HT.out.trans (Turn.setAt wr g k u) (fun _ _ h => h))
        clear hxk hmv hkm
        clear hxor hlt hk hm
        go_wp2
        go_roundw
        case rel => exact ⟨k + 1, m.set k xk, by have := hL.out; omega, by go_num, by rw [List.length_set]; exact HM.out, by rw [HX.out]; exact HN.out, HS.out _⟩
        case measure => simp [intOf]; have := hL.out; omega
      · obtain rfl : k = cap := by omega
        go_wp2
        go_end0
        exact ⟨⟨_, rfl⟩, HT.out.mono fun i _ h => by rw [h]; rfl, fun u hu => TyB.kept HC0.out HC.out (by rw [HM.out, HM0.out]) HT.out hu⟩
theorem or_one (n : Nat) (h : n < 256) : ∃ m : Nat, m < 256 ∧ bits .or .u8 (n : Int) 1 = (m : Int) := by
  have := u8_or_nat n 1 h (by decide)
  refine ⟨n ||| 1, Nat.or_lt_two_pow (n := 8) h (by decide), ?_⟩
  simpa using this

end Go.Proofs.Ytdjjlhfgfogdeaa
