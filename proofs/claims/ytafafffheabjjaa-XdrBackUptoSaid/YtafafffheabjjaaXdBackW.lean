/- XdrBack: the walk. -/
import Derived.Test.YtafafffheabjjaaXdGoesW
namespace Go.Proofs.Ytafafffheabjjaa
open Go.RowKit Go.Shelf
set_option linter.unusedVariables false
set_option maxRecDepth 100000
set_option linter.unusedSimpArgs false

/-- a round of XdrBack -/
def BackRel (w : World) (wb : Nat) (L : List Th) (i : Value) (wr : World) : Prop := ∃ (k : Nat) (v : Value), k ≤ L.length ∧ i = .int .i64 (k : Int) ∧ WrB w wr wb v (encX (L.take k))
theorem enc_succ (L : List Th) (k : Nat) (h : k < L.length) : encX (L.take (k + 1)) = encX (L.take k) ++ thX L[k] := by
  rw [List.take_succ_eq_append_getElem h, encX_snoc]
theorem enc_le (L : List Th) (k : Nat) : (encX (L.take k)).length ≤ (encX L).length := by
  have e : encX L = encX (L.take k) ++ encX (L.drop k) := by
    unfold encX
    rw [← List.flatten_append, ← List.map_append, List.take_append_drop]
  rw [e, List.length_append]
  omega
set_option maxHeartbeats 16000000 in
theorem back9_walk (l0 : List Th) (A0 : Option Addr) (c0 : Nat) (a1 : Int) (w : World) (rd0 : RdX thingE w (· < w.heap.size) A0 l0) (hbb0 : ∀ z ∈ l0, z.b.length ≤ 1048576) (hlc0 : l0.length ≤ c0) (hcm0 : c0 ≤ maxLen) (lo1 : -9223372036854775808 ≤ a1) (hi1 : a1 ≤ 9223372036854775807) :
    Calls Try.prog 5 #[.slice A0 l0.length c0, .int .i64 a1] w fun e w' => e = .returned (.bool true) ∧ Below w.heap.size w w' := by
  have hm1 : (l0.length : Int) ≤ 9223372036854775807 := by unfold maxLen at hcm0; omega
  have hm2 : l0.length ≤ 9223372036854775807 := by omega
  have hLl : (l0.take 60).length = min 60 l0.length := List.length_take
  have hok : ∀ x ∈ l0.take 60, thOk x ∧ x.b.length < 4294967296 := fun x hx => by
    have hx0 := List.mem_of_mem_take hx
    have h1 := hbb0 x hx0
    obtain ⟨i, hi, he⟩ := List.getElem_of_mem hx0
    obtain ⟨b, off, cs, -, ⟨vb, -, -, ho⟩, -⟩ := rd0.get i hi
    rw [he] at ho
    exact ⟨ho, by omega⟩
  have hel := encX_len 1048576 (l0.take 60) fun x hx => hbb0 x (List.mem_of_mem_take hx)
  have hel2 : (encX (l0.take 60)).length ≤ 62915040 := by
    refine Nat.le_trans hel (Nat.le_trans (Nat.mul_le_mul_right _ (show (l0.take 60).length ≤ 60 by omega)) (by decide))
  have he4 := encX_four (l0.take 60)
  have hg1 := goesOk (l0.take 60) [] [] hok
  have hg2 := fun c => goesCut (l0.take 60) [] c hok
  simp only [List.nil_append, List.append_nil, List.length_nil, Nat.zero_add] at hg1 hg2
  have R0 := Lib.hid rd0
  have HLL := Lib.hid hLl
  have HOK := Lib.hid hok
  have HEL := Lib.hid hel2
  have HE4 := Lib.hid he4
  have HG1 := Lib.hid hg1
  have HG2 := Lib.hid hg2
  clear rd0 hbb0 hlc0 hcm0 hLl hok hel hel2 he4 hg1 hg2
  go_enter Try.func5, Try.ntmps5
  go_wp2_with fail
  have hst := Lib.hid (WrB.start (Below.refl w.heap.size w))
  obtain ⟨wb, hwb⟩ : ∃ wb, wb = w.heap.size := ⟨_, rfl⟩
  have hpq : (Value.pointer (some ⟨w.heap.size, 0, none⟩)) = .pointer (some ⟨wb, 0, none⟩) := by rw [hwb]
  rw [hpq]
  have I1 : Hid (WrB w (w.alloc (.cells #[.slice none 0 0] 26)) wb (.slice none 0 0) []) := by rw [hwb]; exact hst
  generalize w.alloc (.cells #[.slice none 0 0] 26) = W at *
  clear hst hwb hpq
  go_loopw [6] (fun i wr => BackRel w wb (l0.take 60) i wr) (fun i _ => 60 - (intOf i).toNat)
  case atStart => exact ⟨0, _, Nat.zero_le _, rfl, I1.out⟩
  case round =>
    obtain ⟨k, v, hk, rfl, hI⟩ := hrel
    have KI := Lib.hid hI
    have hk' : k ≤ 60 ∧ k ≤ l0.length := by have := HLL.out; omega
    clear hI I1
    by_cases hgo : k < l0.length ∧ k < 60
    · obtain ⟨hlt, h60⟩ := hgo
      have hlt' : (k : Int) < (l0.length : Int) := by omega
      have h60' : (k : Int) < 60 := by omega
      have hkL : k < (l0.take 60).length := by rw [HLL.out]; omega
      have hes := enc_succ (l0.take 60) k hkL
      have hle := enc_le (l0.take 60) (k + 1)
      have hxo := (HOK.out _ (List.getElem_mem hkL)).2
      have hel : (l0.take 60)[k] = l0[k] := List.getElem_take
      rw [hel] at hes hxo
      have hx := R0.out.below KI.out.bel
      obtain ⟨b, off, cs, rfl, ⟨vb, hcs, hvb, hok⟩, hat⟩ := hx.get k hlt
      obtain ⟨x, hxe⟩ : ∃ x, x = l0[k] := ⟨_, rfl⟩
      rw [← hxe] at hcs hvb hok hes hxo
      clear hx hel hxe
      obtain ⟨what, nn, is, xb, most⟩ := x
      obtain ⟨hw0, hn0, -, -⟩ := hok
      subst hcs
      dsimp only at hvb hw0 hn0 hxo
      obtain ⟨Ab, cb, rfl, -, -, hbc, hbm⟩ := id hvb
      have e0 : wr.cell? ⟨b, off + k * 5, none⟩ = some (.int .u8 (what : Int)) := hat 0 _ rfl
      have e1 : wr.cell? ⟨b, off + k * 5 + 1, none⟩ = some (.int .u64 (nn : Int)) := hat 1 _ rfl
      have e2 : wr.cell? ⟨b, off + k * 5 + 2, none⟩ = some (.bool is) := hat 2 _ rfl
      have e3 : wr.cell? ⟨b, off + k * 5 + 3, none⟩ = some (.slice Ab xb.length cb) := hat 3 _ rfl
      have VB := Lib.hid hvb
      have HN := Lib.hid hn0
      have HXO := Lib.hid hxo
      rw [hes, List.length_append] at hle
      have HLE := Lib.hid (Nat.le_trans hle HEL.out)
      have HES := Lib.hid hes
      have HK := Lib.hid hkL
      have hw0' : (what : Int) ≤ 255 := by omega
      have h4 : what % 4 = 0 ∨ what % 4 = 1 ∨ what % 4 = 2 ∨ what % 4 = 3 := by omega
      have hwr := wrap32' nn
      have h32 : nn % 4294967296 < 4294967296 := Nat.mod_lt _ (by decide)
      have hnn : (nn : Int) ≤ 18446744073709551615 := by omega
      clear hat hvb hn0 hxo hbc hbm hkL hw0 hes hle
      rcases h4 with h4 | h4 | h4 | h4
      · have htx : thX ⟨what, nn, is, xb, most⟩ = beL ((nn % 4294967296 : Nat) : Int) 4 := by
          unfold thX
          dsimp only
          rw [if_pos h4]
        generalize nn % 4294967296 = n32 at *
        have HTX := Lib.hid htx
        have hq : (what : Int) % 4 = 0 := by omega
        have hlay := Number_w n32 h32 KI.out.at' (by have := HLE.out; rw [HTX.out, beL_length] at this; omega)
        rw [← HTX.out] at hlay
        clear h4 htx
        go_wp2_with fail
        refine hlay.mono ?_
        clear hlay
        rintro e w4 hl
        obtain ⟨v4, hI4⟩ := KI.out.laid hl
        obtain ⟨rfl, -⟩ := hl
        rw [← HES.out] at hI4
        have I4 := Lib.hid hI4
        clear hI4 e0 e1 e2 e3
        go_wp2_with fail
        go_roundw
        case rel => exact ⟨k + 1, v4, HK.out, by go_num, I4.out⟩
        case measure => simp [RowKit.intOf]; omega
      · have htx : thX ⟨what, nn, is, xb, most⟩ = beL (nn : Int) 8 := by
          unfold thX
          dsimp only
          rw [if_neg (by omega), if_pos h4]
        have HTX := Lib.hid htx
        have hq : (what : Int) % 4 = 1 := by omega
        have hlay := Great_w nn HN.out KI.out.at' (by have := HLE.out; rw [HTX.out, beL_length] at this; omega)
        rw [← HTX.out] at hlay
        clear h4 htx
        go_wp2_with fail
        refine hlay.mono ?_
        clear hlay
        rintro e w4 hl
        obtain ⟨v4, hI4⟩ := KI.out.laid hl
        obtain ⟨rfl, -⟩ := hl
        rw [← HES.out] at hI4
        have I4 := Lib.hid hI4
        clear hI4 e0 e1 e2 e3
        go_wp2_with fail
        go_roundw
        case rel => exact ⟨k + 1, v4, HK.out, by go_num, I4.out⟩
        case measure => simp [RowKit.intOf]; omega
      · have htx : thX ⟨what, nn, is, xb, most⟩ = truthX is := by
          unfold thX
          dsimp only
          rw [if_neg (by omega), if_neg (by omega), if_pos h4]
        have HTX := Lib.hid htx
        have hq : (what : Int) % 4 = 2 := by omega
        have hlay := Truth_w is KI.out.at' (by have := HLE.out; rw [HTX.out, truthX_length] at this; omega)
        rw [← HTX.out] at hlay
        clear h4 htx
        go_wp2_with fail
        refine hlay.mono ?_
        clear hlay
        rintro e w4 hl
        obtain ⟨v4, hI4⟩ := KI.out.laid hl
        obtain ⟨rfl, -⟩ := hl
        rw [← HES.out] at hI4
        have I4 := Lib.hid hI4
        clear hI4 e0 e1 e2 e3
        go_wp2_with fail
        go_roundw
        case rel => exact ⟨k + 1, v4, HK.out, by go_num, I4.out⟩
        case measure => simp [RowKit.intOf]; omega
      · have htx : thX ⟨what, nn, is, xb, most⟩ = bytesX xb := by
          unfold thX
          dsimp only
          rw [if_neg (by omega), if_neg (by omega), if_neg (by omega)]
        have HTX := Lib.hid htx
        have hq : (what : Int) % 4 = 3 := by omega
        have hlay := Bytes_w KI.out.at' VB.out (fun q hq hh => by have := KI.out.layF q hh; omega) HXO.out (by have := HLE.out; rw [HTX.out] at this; omega)
        rw [← HTX.out] at hlay
        clear h4 htx
        go_wp2_with fail
        refine hlay.mono ?_
        clear hlay
        rintro e w4 hl
        obtain ⟨v4, hI4⟩ := KI.out.laid hl
        obtain ⟨rfl, -⟩ := hl
        rw [← HES.out] at hI4
        have I4 := Lib.hid hI4
        clear hI4 e0 e1 e2 e3
        go_wp2_with fail
        go_roundw
        case rel => exact ⟨k + 1, v4, HK.out, by go_num, I4.out⟩
        case measure => simp [RowKit.intOf]; omega
    · have htk : encX ((l0.take 60).take k) = encX (l0.take 60) := by rw [List.take_of_length_le (by rw [HLL.out]; omega)]
      have HTK := Lib.hid htk
      clear htk
      by_cases h1 : k < l0.length
      · obtain rfl : k = 60 := by omega
        have hlt' : (60 : Int) < (l0.length : Int) := by omega
        clear hgo hk'
        go_wp2_with fail
        refine (Bare_w KI.out.at' (by rw [HTK.out]; have := HEL.out; omega)).mono ?_
        rintro e w2 ⟨vb, rfl, hvb, -, -, hb2⟩
        rw [HTK.out] at hvb
        obtain ⟨E, hE⟩ : ∃ E, E = encX (l0.take 60) := ⟨_, rfl⟩
        rw [← hE] at hvb
        have hEl : E.length ≤ 62915040 := by rw [hE]; exact HEL.out
        have hE4 : E.length % 4 = 0 := by rw [hE]; exact HE4.out
        have hG1 : goesP (l0.take 60) ⟨E, 0, 0⟩ = (true, ⟨E, E.length, 0⟩) := by rw [hE]; exact HG1.out
        have hG2 : ∀ c, c < E.length → (goesP (l0.take 60) ⟨E.take c, 0, 0⟩).1 = false ∧ (goesP (l0.take 60) ⟨E.take c, 0, 0⟩).2.err = 4 := by rw [hE]; exact HG2.out
        have G1 := Lib.hid hG1
        have G2 := Lib.hid hG2
        have hE4' : (E.length : Int) % 4 = 0 := by omega
        obtain ⟨Ab, cb, rfl, -, hAb, -, -⟩ := id hvb
        have V2 := Lib.hid (hvb.mono (G := fun q => w.heap.size ≤ q ∧ q < w2.heap.size) fun q hq h => ⟨by have := KI.out.bel.size; omega, hq⟩)
        have B2 := Lib.hid (below_chain KI.out.bel hb2)
        have HAB := Lib.hid hAb
        have hnr := NewReader_v E Ab cb w2 (by omega) V2.out.rdh HAB.out
        have X2 := Lib.hid (R0.out.below B2.out)
        clear hE hG1 hG2 hvb hb2 hAb KI hE4
        go_wp2_with fail
        refine hnr.mono ?_
        clear hnr
        rintro e w3 ⟨rb, rfl, hr, hrb, hb3⟩
        have B3 := Lib.hid (below_chain B2.out hb3)
        have V3 := Lib.hid (V2.out.below hb3)
        have X3 := Lib.hid (R0.out.below B3.out)
        have hgo := goes_v l0 A0 c0 rb ⟨E, 0, 0⟩ _ (· < w.heap.size) w3 X3.out (fun q hq => by have := B2.out.size; omega) hm2 (by show E.length ≤ _; omega) hr
        rw [G1.out] at hgo
        have hrbw : w2.heap.size ≤ rb := hrb
        clear hr hrb hb3 X2 X3
        go_wp2_with fail
        refine hgo.mono ?_
        clear hgo
        rintro e w4 ⟨rfl, hr, ht⟩
        have B4 := Lib.hid (B3.out.trans (ht.below B3.out.size fun i hi => by have := B2.out.size; omega))
        have V4 := Lib.hid (V3.out.turn ht fun q hq e => by omega)
        have hen := End_r hr
        have he0 : endR ⟨E, E.length, 0⟩ = 0 := by
          unfold endR
          simp
        rw [he0] at hen
        clear hr ht he0
        go_wp2_with fail
        refine hen.mono ?_
        clear hen
        rintro e w5 ⟨rfl, hb5⟩
        have BX := Lib.hid (below_chain B4.out hb5)
        have V5 := Lib.hid (V4.out.below hb5)
        clear hb5 B3 B4 V2 V3 V4
        by_cases hneg : a1 < 0
        · go_wp2_with fail
          refine (lives9_any _).mono ?_
          rintro e w9 ⟨rfl, hb⟩
          have BB := Lib.hid (below_chain BX.out hb)
          clear hb
          go_wp2_with fail
          go_ret
          exact ⟨rfl, BB.out⟩
        · by_cases hbig : (E.length : Int) ≤ a1
          · have hneg' : 0 ≤ a1 := by omega
            clear hneg
            go_wp2_with fail
            refine (lives9_any _).mono ?_
            rintro e w9 ⟨rfl, hb⟩
            have BB := Lib.hid (below_chain BX.out hb)
            clear hb
            go_wp2_with fail
            go_ret
            exact ⟨rfl, BB.out⟩
          · have hneg' : 0 ≤ a1 := by omega
            obtain ⟨ct, rfl⟩ := Int.eq_ofNat_of_zero_le hneg'
            have hct : ct < E.length := by omega
            have hsl := sl_h Ab E.length cb ct (by obtain ⟨_, _, e, _, _, h, _⟩ := V5.out; cases e; omega)
            have hvt := V5.out.upto ct (by omega)
            obtain ⟨X, hX⟩ : ∃ X, X = E.take ct := ⟨_, rfl⟩
            have hXl : X.length = ct := by rw [hX, List.length_take]; omega
            rw [← hX] at hvt
            obtain ⟨hf1, hf2⟩ := G2.out ct hct
            rw [← hX] at hf1 hf2
            have hnr : Calls Try.prog 21 #[.slice Ab ct cb] w5 fun e w' => NewR X w5 e w' := by
              obtain ⟨A', c', e, h1, h2, -, -⟩ := hvt
              rw [hXl] at e
              cases e
              have := NewReader_v X Ab cb w5 (by omega) h1.rd h2
              rwa [hXl] at this
            have HF1 := Lib.hid hf1
            have HF2 := Lib.hid hf2
            have HXL := Lib.hid hXl
            have hnb : ¬ (ct : Int) < 0 := by omega
            clear hneg hf1 hf2 hvt hX hXl
            go_wp2_with fail
            refine hnr.mono ?_
            clear hnr
            rintro e w6 ⟨xb, rfl, hr, hxb, hb6⟩
            have B6 := Lib.hid (below_chain BX.out hb6)
            have hgo := goes_v l0 A0 c0 xb ⟨X, 0, 0⟩ _ (· < w.heap.size) w6 (R0.out.below B6.out) (fun q hq => by have := BX.out.size; omega) hm2 (by show X.length ≤ _; have := HXL.out; omega) hr
            obtain ⟨r0, hr0⟩ : ∃ r0, r0 = goesP (l0.take 60) ⟨X, 0, 0⟩ := ⟨_, rfl⟩
            rw [← hr0] at hgo
            have hf1 := HF1.out
            have hf2 := HF2.out
            rw [← hr0] at hf1 hf2
            obtain ⟨rt, rs⟩ := r0
            dsimp only at hf1 hf2
            subst hf1
            have hxw : w.heap.size ≤ xb := by have := BX.out.size; omega
            have HRS := Lib.hid hf2
            clear hr hxb hb6 hr0 hf2
            go_wp2_with fail
            refine hgo.mono ?_
            clear hgo
            rintro e w7 ⟨rfl, hr, ht⟩
            dsimp only at hr
            have B7 := Lib.hid (B6.out.trans (ht.below B6.out.size fun i hi => by omega))
            have her := Error_r hr
            have hen := End_r hr
            have he4 : endR rs = 4 := by
              unfold endR
              rw [HRS.out]
              simp
            rw [HRS.out] at her
            rw [he4] at hen
            clear hr ht he4
            go_wp2_with fail
            refine her.mono ?_
            clear her
            rintro e w' ⟨rfl, rfl⟩
            go_wp2_with fail
            refine hen.mono ?_
            clear hen
            rintro e w8 ⟨rfl, hb8⟩
            have BX := Lib.hid (below_chain B7.out hb8)
            clear hb8
            go_wp2_with fail
            refine (lives9_any _).mono ?_
            rintro e w9 ⟨rfl, hb⟩
            have BB := Lib.hid (below_chain BX.out hb)
            clear hb
            go_wp2_with fail
            go_ret
            exact ⟨rfl, BB.out⟩
      · have hlt' : ¬ (k : Int) < (l0.length : Int) := by omega
        clear hgo hk' h1
        go_wp2_with fail
        refine (Bare_w KI.out.at' (by rw [HTK.out]; have := HEL.out; omega)).mono ?_
        rintro e w2 ⟨vb, rfl, hvb, -, -, hb2⟩
        rw [HTK.out] at hvb
        obtain ⟨E, hE⟩ : ∃ E, E = encX (l0.take 60) := ⟨_, rfl⟩
        rw [← hE] at hvb
        have hEl : E.length ≤ 62915040 := by rw [hE]; exact HEL.out
        have hE4 : E.length % 4 = 0 := by rw [hE]; exact HE4.out
        have hG1 : goesP (l0.take 60) ⟨E, 0, 0⟩ = (true, ⟨E, E.length, 0⟩) := by rw [hE]; exact HG1.out
        have hG2 : ∀ c, c < E.length → (goesP (l0.take 60) ⟨E.take c, 0, 0⟩).1 = false ∧ (goesP (l0.take 60) ⟨E.take c, 0, 0⟩).2.err = 4 := by rw [hE]; exact HG2.out
        have G1 := Lib.hid hG1
        have G2 := Lib.hid hG2
        have hE4' : (E.length : Int) % 4 = 0 := by omega
        obtain ⟨Ab, cb, rfl, -, hAb, -, -⟩ := id hvb
        have V2 := Lib.hid (hvb.mono (G := fun q => w.heap.size ≤ q ∧ q < w2.heap.size) fun q hq h => ⟨by have := KI.out.bel.size; omega, hq⟩)
        have B2 := Lib.hid (below_chain KI.out.bel hb2)
        have HAB := Lib.hid hAb
        have hnr := NewReader_v E Ab cb w2 (by omega) V2.out.rdh HAB.out
        have X2 := Lib.hid (R0.out.below B2.out)
        clear hE hG1 hG2 hvb hb2 hAb KI hE4
        go_wp2_with fail
        refine hnr.mono ?_
        clear hnr
        rintro e w3 ⟨rb, rfl, hr, hrb, hb3⟩
        have B3 := Lib.hid (below_chain B2.out hb3)
        have V3 := Lib.hid (V2.out.below hb3)
        have X3 := Lib.hid (R0.out.below B3.out)
        have hgo := goes_v l0 A0 c0 rb ⟨E, 0, 0⟩ _ (· < w.heap.size) w3 X3.out (fun q hq => by have := B2.out.size; omega) hm2 (by show E.length ≤ _; omega) hr
        rw [G1.out] at hgo
        have hrbw : w2.heap.size ≤ rb := hrb
        clear hr hrb hb3 X2 X3
        go_wp2_with fail
        refine hgo.mono ?_
        clear hgo
        rintro e w4 ⟨rfl, hr, ht⟩
        have B4 := Lib.hid (B3.out.trans (ht.below B3.out.size fun i hi => by have := B2.out.size; omega))
        have V4 := Lib.hid (V3.out.turn ht fun q hq e => by omega)
        have hen := End_r hr
        have he0 : endR ⟨E, E.length, 0⟩ = 0 := by
          unfold endR
          simp
        rw [he0] at hen
        clear hr ht he0
        go_wp2_with fail
        refine hen.mono ?_
        clear hen
        rintro e w5 ⟨rfl, hb5⟩
        have BX := Lib.hid (below_chain B4.out hb5)
        have V5 := Lib.hid (V4.out.below hb5)
        clear hb5 B3 B4 V2 V3 V4
        by_cases hneg : a1 < 0
        · go_wp2_with fail
          refine (lives9_any _).mono ?_
          rintro e w9 ⟨rfl, hb⟩
          have BB := Lib.hid (below_chain BX.out hb)
          clear hb
          go_wp2_with fail
          go_ret
          exact ⟨rfl, BB.out⟩
        · by_cases hbig : (E.length : Int) ≤ a1
          · have hneg' : 0 ≤ a1 := by omega
            clear hneg
            go_wp2_with fail
            refine (lives9_any _).mono ?_
            rintro e w9 ⟨rfl, hb⟩
            have BB := Lib.hid (below_chain BX.out hb)
            clear hb
            go_wp2_with fail
            go_ret
            exact ⟨rfl, BB.out⟩
          · have hneg' : 0 ≤ a1 := by omega
            obtain ⟨ct, rfl⟩ := Int.eq_ofNat_of_zero_le hneg'
            have hct : ct < E.length := by omega
            have hsl := sl_h Ab E.length cb ct (by obtain ⟨_, _, e, _, _, h, _⟩ := V5.out; cases e; omega)
            have hvt := V5.out.upto ct (by omega)
            obtain ⟨X, hX⟩ : ∃ X, X = E.take ct := ⟨_, rfl⟩
            have hXl : X.length = ct := by rw [hX, List.length_take]; omega
            rw [← hX] at hvt
            obtain ⟨hf1, hf2⟩ := G2.out ct hct
            rw [← hX] at hf1 hf2
            have hnr : Calls Try.prog 21 #[.slice Ab ct cb] w5 fun e w' => NewR X w5 e w' := by
              obtain ⟨A', c', e, h1, h2, -, -⟩ := hvt
              rw [hXl] at e
              cases e
              have := NewReader_v X Ab cb w5 (by omega) h1.rd h2
              rwa [hXl] at this
            have HF1 := Lib.hid hf1
            have HF2 := Lib.hid hf2
            have HXL := Lib.hid hXl
            have hnb : ¬ (ct : Int) < 0 := by omega
            clear hneg hf1 hf2 hvt hX hXl
            go_wp2_with fail
            refine hnr.mono ?_
            clear hnr
            rintro e w6 ⟨xb, rfl, hr, hxb, hb6⟩
            have B6 := Lib.hid (below_chain BX.out hb6)
            have hgo := goes_v l0 A0 c0 xb ⟨X, 0, 0⟩ _ (· < w.heap.size) w6 (R0.out.below B6.out) (fun q hq => by have := BX.out.size; omega) hm2 (by show X.length ≤ _; have := HXL.out; omega) hr
            obtain ⟨r0, hr0⟩ : ∃ r0, r0 = goesP (l0.take 60) ⟨X, 0, 0⟩ := ⟨_, rfl⟩
            rw [← hr0] at hgo
            have hf1 := HF1.out
            have hf2 := HF2.out
            rw [← hr0] at hf1 hf2
            obtain ⟨rt, rs⟩ := r0
            dsimp only at hf1 hf2
            subst hf1
            have hxw : w.heap.size ≤ xb := by have := BX.out.size; omega
            have HRS := Lib.hid hf2
            clear hr hxb hb6 hr0 hf2
            go_wp2_with fail
            refine hgo.mono ?_
            clear hgo
            rintro e w7 ⟨rfl, hr, ht⟩
            dsimp only at hr
            have B7 := Lib.hid (B6.out.trans (ht.below B6.out.size fun i hi => by omega))
            have her := Error_r hr
            have hen := End_r hr
            have he4 : endR rs = 4 := by
              unfold endR
              rw [HRS.out]
              simp
            rw [HRS.out] at her
            rw [he4] at hen
            clear hr ht he4
            go_wp2_with fail
            refine her.mono ?_
            clear her
            rintro e w' ⟨rfl, rfl⟩
            go_wp2_with fail
            refine hen.mono ?_
            clear hen
            rintro e w8 ⟨rfl, hb8⟩
            have BX := Lib.hid (below_chain B7.out hb8)
            clear hb8
            go_wp2_with fail
            refine (lives9_any _).mono ?_
            rintro e w9 ⟨rfl, hb⟩
            have BB := Lib.hid (below_chain BX.out hb)
            clear hb
            go_wp2_with fail
            go_ret
            exact ⟨rfl, BB.out⟩

end Go.Proofs.Ytafafffheabjjaa
