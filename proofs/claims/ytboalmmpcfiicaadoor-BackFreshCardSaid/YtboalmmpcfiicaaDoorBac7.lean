/- The names told by a reader; what Get makes of bytes, step by step. -/
import Derived.Test.YtboalmmpcfiicaaDoorBac6
namespace Go.Proofs.YtboalmmpcfiicaaDoor
open Go.RowKit Go.Shelf
set_option linter.unusedVariables false
set_option maxRecDepth 100000
set_option linter.unusedSimpArgs false

theorem ownsRow_less {W : World} {base base' : Nat} {e : TypeId} {size : Nat} {v : Value} {k : Nat} {xs : List Value} (h : W.ownsRow base e size v k xs) (hb : base' ≤ base) : W.ownsRow base' e size v k xs := by
  refine ⟨h.1, ?_⟩
  rcases h.2 with h | ⟨g, cap, cur, hv, hbg, r⟩
  · exact .inl h
  · exact .inr ⟨g, cap, cur, hv, Nat.le_trans hb hbg, r⟩
/-- n texts told -/
def namesG : Nat → RS → List ByteArray × RS
  | 0, s => ([], s)
  | n + 1, s => ((namesG n s).1 ++ [⟨(bytesR (namesG n s).2 4096).1.toArray⟩], (bytesR (namesG n s).2 4096).2)
theorem namesG_len : ∀ (n : Nat) (s : RS), (namesG n s).1.length = n
  | 0, s => rfl
  | n + 1, s => by show ((namesG n s).1 ++ [_]).length = n + 1; rw [List.length_append, namesG_len n s]; rfl
theorem namesG_all : ∀ (n : Nat) (s : RS), (namesG n s).2.all = s.all
  | 0, s => rfl
  | n + 1, s => by show (bytesR (namesG n s).2 4096).2.all = s.all; rw [bytes_all, namesG_all n s]
theorem tell_snoc : ∀ (n : Nat) (s : RS), tellL 4096 (namS (n + 1)) s = ((tellL 4096 (namS n) s).1 ++ [(tellF 4096 .b (tellL 4096 (namS n) s).2).1], (tellF 4096 .b (tellL 4096 (namS n) s).2).2)
  | 0, s => rfl
  | n + 1, s => by
    have h := tell_snoc n (tellF 4096 .b s).2
    show ((tellF 4096 .b s).1 :: (tellL 4096 (namS (n + 1)) (tellF 4096 .b s).2).1, (tellL 4096 (namS (n + 1)) (tellF 4096 .b s).2).2) = _
    rw [h]
    rfl
theorem namesG_is : ∀ (n : Nat) (s : RS), ((tellL 4096 (namS n) s).1.map fun y => (⟨y.b.toArray⟩ : ByteArray)) = (namesG n s).1 ∧ (tellL 4096 (namS n) s).2 = (namesG n s).2
  | 0, s => ⟨rfl, rfl⟩
  | n + 1, s => by
    obtain ⟨h1, h2⟩ := namesG_is n s
    rw [tell_snoc]
    refine ⟨?_, ?_⟩
    · show ((tellL 4096 (namS n) s).1 ++ [_]).map _ = (namesG n s).1 ++ [_]
      rw [List.map_append, h1, h2]
      rfl
    · show (bytesR (tellL 4096 (namS n) s).2 4096).2 = (bytesR (namesG n s).2 4096).2
      rw [h2]
/-- what hands back texts of one's own -/
def ToldN (rb : Nat) (s : RS) (F : Nat → Prop) (l : List ByteArray) (w : World) (e : Ending) (w' : World) : Prop :=
  ∃ v, e = .returned v ∧ w'.ownsRow w.heap.size 9 1 v l.length (txsOf l) ∧ RdAt w' rb s F ∧ Turn w w' (· = rb)
/-- a round -/
def NamRel (w : World) (rb : Nat) (F : Nat → Prop) (s : RS) (n : Nat) (v i : Value) (wr : World) : Prop :=
  ∃ k : Nat, k ≤ n ∧ i = .int .u32 (k : Int) ∧ wr.ownsRow w.heap.size 9 1 v (namesG k s).1.length (txsOf (namesG k s).1) ∧ RdAt wr rb (namesG k s).2 F ∧ Turn w wr (· = rb)
theorem RdAt.cs {w : World} {rb : Nat} {s : RS} {F : Nat → Prop} (h : RdAt w rb s F) : ∃ cs, Cs w rb 82 cs := by
  obtain ⟨v, h1, -⟩ := h
  exact ⟨_, h1⟩
set_option maxHeartbeats 8000000 in
theorem getNames_v {w : World} {rb : Nat} {s0 : RS} {F : Nat → Prop} (n : Nat) (hn : n ≤ 32) (h : RdAt w rb s0 F) (hF : ∀ k, F k → k < w.heap.size) (hlen : s0.all.length ≤ 140737488355328) :
    Calls Tryd.prog 36 #[.pointer (some ⟨rb, 0, none⟩), .int .u32 (n : Int)] w fun e w' => ToldN rb (namesG n s0).2 F (namesG n s0).1 w e w' := by
  have HH := Lib.hid h
  have HF := Lib.hid hF
  have HLEN := Lib.hid hlen
  have hni : (n : Int) ≤ 32 := by omega
  clear h hF hlen
  go_enter Tryd.func36, Tryd.ntmps36
  go_wp2_with fail
  go_loopw [5, 7] (fun v i wr => NamRel w rb F s0 n v i wr) (fun _ i _ => n - (RowKit.intOf i).toNat)
  case atStart => exact ⟨0, Nat.zero_le _, rfl, World.ownsRow_nil _ _ _ _, HH.out, Turn.refl _ _⟩
  case round =>
    obtain ⟨k, hk, rfl, hown, hrd, ht⟩ := hrel
    have hlk := namesG_len k s0
    have hall := namesG_all k s0
    have hs1 : (namesG (k + 1) s0).1 = (namesG k s0).1 ++ [⟨(bytesR (namesG k s0).2 4096).1.toArray⟩] := rfl
    have hs2 : (namesG (k + 1) s0).2 = (bytesR (namesG k s0).2 4096).2 := rfl
    have HS1 := Lib.hid hs1
    have HS2 := Lib.hid hs2
    clear hs1 hs2
    generalize hpre : (namesG k s0).1 = pre at *
    generalize hst : (namesG k s0).2 = s at *
    have HPRE := Lib.hid hpre
    have HST := Lib.hid hst
    clear hpre hst
    obtain ⟨A5, c5, rfl⟩ := own_lenN hown rfl
    have HO := Lib.hid hown
    have HR := Lib.hid hrd
    have HT := Lib.hid ht
    have HLK := Lib.hid hlk
    by_cases hlt : k < n
    · have hlt' : (k : Int) < (n : Int) := by omega
      have hn := Bytes_r 4096 (by decide) (by decide) (by rw [hall]; exact HLEN.out) hrd
      obtain ⟨l, s', he, hal⟩ := bytes_e s 4096
      rw [he] at hn HS1 HS2
      dsimp only at hn HS1 HS2
      have HN := Lib.hid hn
      clear hn he hal hall hown hrd ht hlk
      go_wp2_with fail
      refine HN.out.mono ?_
      rintro e w2 ⟨v2, rfl, hv2, -, -, hr2, ht2⟩
      obtain ⟨A2, c2, rfl, hrd2, -⟩ := id hv2
      have hcv := conv_rd hrd2.rd c2
      have hne : ∀ q, (Value.slice A5 pre.length c5).ownBlock = some q → ¬ q = rb := fun q hq e => by
        subst e
        obtain ⟨-, cs, hc⟩ := own_blk HO.out hq
        obtain ⟨cs2, hc2⟩ := HR.out.cs
        exact Cs.ne hc hc2 (by decide) rfl
      have HO2 := Lib.hid (ownsRow_turn' HO.out ht2 hne)
      have HR2 := Lib.hid hr2
      have HT2 := Lib.hid (HT.out.trans ht2 fun _ _ h => h)
      clear hv2 hrd2 hr2 ht2 hne
      go_wp2_with (at_builtin; refine append_tx rfl (.tmp 9) (.tmp 13) rfl w.heap.size _ pre rfl (HO2.out.alloc _) w2.heap.size ⟨l.toArray⟩ rfl ((Cs.new w2 9 #[.string ⟨l.toArray⟩]).cell 0 rfl) (by have := HLK.out; omega) (by have := HT2.out.size; simp; omega) ?_; intro v3 w3 ho3 hg3; obtain ⟨A3, N3, c3, rfl, -⟩ := own_slice ho3; have HO3 := Lib.hid ho3; have HG3 := Lib.hid hg3; clear ho3 hg3)
      have tg := (Turn.of_below (below_newB w2 (.cells #[.string ⟨l.toArray⟩] 9)) fun q => (Value.slice A5 pre.length c5).ownBlock = some q).trans (Turn.of_grown HG3.out) fun _ _ h => h
      have hrb : ∀ q, (Value.slice A5 pre.length c5).ownBlock = some q → w.heap.size ≤ q ∧ q ≠ rb := fun q hq => by
        obtain ⟨hb, cs, hc⟩ := own_blk HO2.out hq
        obtain ⟨cs2, hc2⟩ := HR2.out.cs
        exact ⟨hb, Cs.ne hc hc2 (by decide)⟩
      have HR3 := Lib.hid (HR2.out.turn tg (fun hh => (hrb _ hh).2 rfl) (fun q hq hh => by have := HF.out q hq; have := (hrb _ hh).1; omega))
      have HT3 := Lib.hid (HT2.out.trans tg fun q hq hh => by have := (hrb _ hh).1; omega)
      clear tg hrb
      go_roundw
      case rel =>
        refine ⟨k + 1, by omega, by go_num, ?_, ?_, HT3.out⟩
        · rw [HS1.out]; exact HO3.out
        · rw [HS2.out]; exact HR3.out
      case measure => simp [RowKit.intOf]; omega
    · obtain rfl : k = n := by omega
      have HA := Lib.hid hlk
      clear hall hown hrd ht hlk
      go_wp2_with fail
      go_ret
      exact ⟨_, rfl, by rw [HPRE.out]; exact HO.out, by rw [HST.out]; exact HR.out, HT.out⟩

end Go.Proofs.YtboalmmpcfiicaaDoor
