/- What follows of the plain answers: what is put is got, of one piece; with one byte changed it is refused. No program. -/
import Derived.Test.YtlhbipommhljiaaSealPlain
namespace Go.Proofs.Ytlhbipommhljiaa
set_option linter.unusedVariables false
set_option linter.unusedSimpArgs false

theorem takeN_inj (s : Nat) (c c' : Nat) (hs : s < 4294967296) (hc : c < 256) (hc' : c' < 256) (h : takeN s c = takeN s c') : c = c' := by
  have key : ∀ x : Nat, x < 4294967296 → x * 16777619 % 4294967296 * 899433627 % 4294967296 = x := fun x hx => by omega
  unfold takeN at h
  have h1 := key (s ^^^ c) (xor_lt32 hs (by omega))
  have h2 := key (s ^^^ c') (xor_lt32 hs (by omega))
  rw [h, h2] at h1
  have h3 := congrArg (s ^^^ ·) h1
  simp only [← Nat.xor_assoc, Nat.xor_self, Nat.zero_xor] at h3
  exact h3.symm
theorem moreN_inj (l : List UInt8) : ∀ s s' : Nat, s < 4294967296 → s' < 4294967296 → moreN s l = moreN s' l → s = s' := by
  induction l with
  | nil => intro s s' _ _ h; rwa [moreN_nil, moreN_nil] at h
  | cons c l ih =>
    intro s s' h1 h2 h
    rw [moreN_cons, moreN_cons] at h
    have e := ih _ _ (takeN_lt _ _) (takeN_lt _ _) h
    have e2 := congrArg (backN · c.toNat) e
    simp only [back_take _ _ h1 (u8_lt c), back_take _ _ h2 (u8_lt c)] at e2
    exact e2
theorem moreN_set (s : Nat) (hs : s < 4294967296) (l : List UInt8) (k : Nat) (hk : k < l.length) (c : UInt8) (h : moreN s (l.set k c) = moreN s l) : c = l[k] := by
  have e1 : l.set k c = l.take k ++ c :: l.drop (k + 1) := List.set_eq_take_append_cons_drop .. |>.trans (by rw [if_pos hk])
  have e2 : l = l.take k ++ l[k] :: l.drop (k + 1) := by rw [← List.drop_eq_getElem_cons hk, List.take_append_drop]
  have h' : moreN (moreN s (l.take k)) (c :: l.drop (k + 1)) = moreN (moreN s (l.take k)) (l[k] :: l.drop (k + 1)) := by
    rw [← moreN_append, ← moreN_append, ← e1, ← e2]
    exact h
  rw [moreN_cons, moreN_cons] at h'
  have hm := moreN_lt s (l.take k) hs
  have h2 := moreN_inj _ _ _ (takeN_lt _ _) (takeN_lt _ _) h'
  exact UInt8.toNat_inj.1 (takeN_inj _ _ _ hm (u8_lt _) (u8_lt _) h2)

theorem num4_mk (f : Nat → UInt8) : num4 (mk 4 f) = 16777216 * ((f 0).toNat : Int) + 65536 * ((f 1).toNat : Int) + 256 * ((f 2).toNat : Int) + ((f 3).toNat : Int) := by
  have e : seg (mk 4 f) 0 4 = [((f 0).toNat : Int), ((f 1).toNat : Int), ((f 2).toNat : Int), ((f 3).toNat : Int)] := rfl
  unfold num4
  rw [e]
  simp only [beSum, List.length_cons, List.length_nil]
  omega
theorem num4_inj {f g : Nat → UInt8} (h : num4 (mk 4 f) = num4 (mk 4 g)) (j : Nat) (hj : j < 4) : f j = g j := by
  rw [num4_mk, num4_mk] at h
  have a0 := u8_lt (f 0)
  have a1 := u8_lt (f 1)
  have a2 := u8_lt (f 2)
  have a3 := u8_lt (f 3)
  have b0 := u8_lt (g 0)
  have b1 := u8_lt (g 1)
  have b2 := u8_lt (g 2)
  have b3 := u8_lt (g 3)
  apply UInt8.toNat_inj.1
  rcases (show j = 0 ∨ j = 1 ∨ j = 2 ∨ j = 3 by omega) with rfl | rfl | rfl | rfl <;> omega
theorem num4_be (n : Int) (h0 : 0 ≤ n) (h1 : n < 4294967296) : num4 (beL n 4) = n := by
  have e : beL n 4 = mk 4 fun j => UInt8.ofNat (n / 256 ^ (4 - 1 - j) % 256).toNat := rfl
  rw [e, num4_mk]
  have t : ∀ v : Int, 0 ≤ v → v < 256 → ((UInt8.ofNat v.toNat).toNat : Int) = v := fun v a b => by
    rw [UInt8.toNat_ofNat']
    omega
  rw [t _ (by omega) (by omega), t _ (by omega) (by omega), t _ (by omega) (by omega), t _ (by omega) (by omega)]
  omega
theorem tag_mk (x : Nat → UInt8) (q : Nat) (hq : q < 4) : tag (mk 64 x) q = num4 (mk 4 fun j => x (16 * q + j)) := by
  unfold tag
  rw [head_mk x q hq]
theorem body_mk (x : Nat → UInt8) : bodyOf (mk 64 x) = mk 44 fun j => x (j / 12 * 16 + j % 12 + 4) := by
  unfold bodyOf
  rw [inner_mk]
  rfl
theorem last_mk (x : Nat → UInt8) : lastOf (mk 64 x) = num4 (mk 4 fun j => x ((44 + j) / 12 * 16 + (44 + j) % 12 + 4)) := by
  unfold lastOf
  rw [inner_mk]
  rfl
theorem laid_head (h a : Nat → UInt8) (q j : Nat) (hj : j < 4) : laidAt h a (16 * q + j) = h j := by
  unfold laidAt
  rw [if_pos (by omega), show (16 * q + j) % 16 = j by omega]
theorem laid_in (h a : Nat → UInt8) (j : Nat) : laidAt h a (j / 12 * 16 + j % 12 + 4) = a j := by
  unfold laidAt
  rw [if_neg (by omega), show (j / 12 * 16 + j % 12 + 4) / 16 * 12 + (j / 12 * 16 + j % 12 + 4) % 16 - 4 = j by omega]
/-- a block that is put, by functions -/
structure PutIs (n : Int) (b : List UInt8) (h a : Nat → UInt8) : Prop where
  blk : putN n b = mk 64 (laidAt h a)
  num : num4 (mk 4 h) = n
  body : mk 44 a = fullOf b
  last : num4 (mk 4 fun j => a (44 + j)) = (sumN n (fullOf b) : Int)
theorem putIs (n : Int) (b : List UInt8) (h0 : 0 ≤ n) (h1 : n < 4294967296) (hb : b.length ≤ 44) : ∃ h a, PutIs n b h a := by
  obtain ⟨h, hh⟩ := ex_mk (beL_length n 4)
  obtain ⟨a, ha⟩ := ex_mk (allOf_len n b hb)
  have hsn := sumN_lt n (fullOf b)
  have e1 : (allOf n b).take 44 = fullOf b := by unfold allOf; rw [List.take_append_of_le_length (by rw [fullOf_len b hb]; exact Nat.le_refl _), List.take_of_length_le (by rw [fullOf_len b hb]; exact Nat.le_refl _)]
  have e2 : (allOf n b).drop 44 = beL (sumN n (fullOf b)) 4 := by
    unfold allOf
    have := List.drop_left (l₁ := fullOf b) (l₂ := beL (sumN n (fullOf b)) 4)
    rwa [fullOf_len b hb] at this
  refine ⟨h, a, ?_, ?_, ?_, ?_⟩
  · unfold putN
    rw [hh, ha, putTo_mk]
  · rw [← hh]
    exact num4_be n h0 h1
  · rw [← e1, ha]
    rfl
  · have e3 : (mk 4 fun j => a (44 + j)) = (mk 48 a).drop 44 := rfl
    rw [e3, ← ha, e2]
    exact num4_be _ (by omega) (by omega)
theorem put_tag {n : Int} {b : List UInt8} {h a : Nat → UInt8} (p : PutIs n b h a) (q : Nat) (hq : q < 4) : tag (putN n b) q = n := by
  rw [p.blk, tag_mk _ q hq, mk_congr (fun j hj => laid_head h a q j hj)]
  exact p.num
theorem put_body {n : Int} {b : List UInt8} {h a : Nat → UInt8} (p : PutIs n b h a) : bodyOf (putN n b) = fullOf b := by
  rw [p.blk, body_mk, mk_congr (fun j _ => laid_in h a j)]
  exact p.body
theorem put_last {n : Int} {b : List UInt8} {h a : Nat → UInt8} (p : PutIs n b h a) : lastOf (putN n b) = (sumN n (fullOf b) : Int) := by
  rw [p.blk, last_mk, mk_congr (fun j _ => laid_in h a (44 + j))]
  exact p.last
theorem formed_tags {x : Blk} {n : Int} (hn : n ≠ 0) (h : ∀ q, q < 4 → tag x q = n) : formed x = true := by
  simp [formed, isOfB, h 0 (by decide), h 1 (by decide), h 2 (by decide), h 3 (by decide), hn]
theorem greatest_tags {x : Blk} {n : Int} (h : ∀ q, q < 4 → tag x q = n) : greatest x = n := by
  have := greatest_is x
  rw [h 0 (by decide), h 1 (by decide), h 2 (by decide), h 3 (by decide)] at this
  omega
/-- WHAT IS PUT IS GOT -/
theorem put_get (n : Int) (b : List UInt8) (h0 : 0 < n) (h1 : n < 4294967296) (hb : b.length ≤ 44) : getE (putN n b) = 0 ∧ tag (putN n b) 0 = n ∧ bodyOf (putN n b) = fullOf b ∧ greatest (putN n b) = n := by
  obtain ⟨h, a, p⟩ := putIs n b (by omega) h1 hb
  have ht := fun q hq => put_tag p q hq
  refine ⟨?_, ht 0 (by decide), put_body p, greatest_tags ht⟩
  unfold getE
  rw [if_pos (formed_tags (by omega) ht), ht 0 (by decide), put_body p, put_last p, if_pos rfl]
theorem mk_set (n : Nat) (f : Nat → UInt8) (k : Nat) (c : UInt8) : (mk n f).set k c = mk n fun i => if i = k then c else f i := by
  refine List.ext_getElem (by simp [mk]) fun i h1 h2 => ?_
  rw [List.getElem_set]
  simp only [mk, List.getElem_map, List.getElem_range]
  by_cases e : k = i
  · rw [if_pos e, if_pos e.symm]
  · rw [if_neg e, if_neg (fun e' => e e'.symm)]
theorem xor_ne (c d : UInt8) (h : c ^^^ d = c) : d = 0 := by
  have := congrArg (c ^^^ ·) h
  simp only [← UInt8.xor_assoc, UInt8.xor_self, UInt8.zero_xor] at this
  exact this
/-- WITH ONE BYTE CHANGED IT IS REFUSED -/
theorem put_changed (n : Int) (b : List UInt8) (h0 : 0 < n) (h1 : n < 4294967296) (hb : b.length ≤ 44) (k : Nat) (hk : k < 64) (d : UInt8) (hd : d ≠ 0) : getE ((putN n b).set k ((putN n b).getD k 0 ^^^ d)) ≠ 0 := by
  obtain ⟨h, a, p⟩ := putIs n b (by omega) h1 hb
  intro hg
  rw [p.blk, mk_getD 64 _ k hk, mk_set] at hg
  have hne : laidAt h a k ^^^ d ≠ laidAt h a k := fun e => hd (xor_ne _ _ e)
  generalize laidAt h a k ^^^ d = c at *
  generalize hx : (fun i => if i = k then c else laidAt h a i) = x at *
  have hxk : x k = c := by rw [← hx]; simp
  have hxo : ∀ i, i ≠ k → x i = laidAt h a i := fun i hi => by rw [← hx]; simp [hi]
  clear hx
  unfold getE at hg
  split at hg
  · rename_i hf
    split at hg
    · rename_i hl
      obtain ⟨-, -, t1, t2, t3⟩ := formed_of hf
      have hsame : ∀ q q', q < 4 → q' < 4 → tag (mk 64 x) q = tag (mk 64 x) q' := fun q q' hq hq' => by
        rcases (show q = 0 ∨ q = 1 ∨ q = 2 ∨ q = 3 by omega) with rfl | rfl | rfl | rfl <;> rcases (show q' = 0 ∨ q' = 1 ∨ q' = 2 ∨ q' = 3 by omega) with rfl | rfl | rfl | rfl <;> omega
      by_cases h4 : k % 16 < 4
      · -- a number's byte
        obtain ⟨q', hq', hqq⟩ : ∃ q', q' < 4 ∧ q' ≠ k / 16 := by
          by_cases e : k / 16 = 0
          · exact ⟨1, by decide, by omega⟩
          · exact ⟨0, by decide, by omega⟩
        have e := hsame (k / 16) q' (by omega) hq'
        rw [tag_mk _ _ (by omega), tag_mk _ _ hq'] at e
        have e2 := num4_inj e (k % 16) h4
        rw [show 16 * (k / 16) + k % 16 = k by omega, hxk, hxo _ (by omega), laid_head _ _ _ _ h4] at e2
        have e3 : laidAt h a k = h (k % 16) := by
          have := laid_head h a (k / 16) (k % 16) h4
          rwa [show 16 * (k / 16) + k % 16 = k by omega] at this
        exact hne (e2.trans e3.symm)
      · have ht : tag (mk 64 x) 0 = n := by
          rw [tag_mk _ 0 (by decide), mk_congr (g := h) (fun j hj => by rw [hxo _ (by omega)]; exact laid_head h a 0 j hj)]
          exact p.num
        rw [ht] at hl
        have hbody : bodyOf (mk 64 x) = mk 44 fun j => x (j / 12 * 16 + j % 12 + 4) := body_mk x
        have hlast := last_mk x
        by_cases h44 : k / 16 * 12 + k % 16 - 4 < 44
        · -- a byte of the body
          have el : lastOf (mk 64 x) = (sumN n (fullOf b) : Int) := by
            rw [hlast, mk_congr (g := fun j => a (44 + j)) (fun j hj => by rw [hxo _ (by omega)]; exact laid_in h a (44 + j))]
            exact p.last
          have eb : bodyOf (mk 64 x) = (mk 44 a).set (k / 16 * 12 + k % 16 - 4) c := by
            rw [hbody, mk_set]
            refine mk_congr fun j hj => ?_
            by_cases e : j = k / 16 * 12 + k % 16 - 4
            · rw [if_pos e, ← hxk]
              congr 1
              omega
            · rw [if_neg e, hxo _ (by omega)]
              exact laid_in h a j
          rw [el, eb, p.body] at hl
          have hl2 : moreN (ofN (beL n 4)) ((fullOf b).set (k / 16 * 12 + k % 16 - 4) c) = moreN (ofN (beL n 4)) (fullOf b) := by
            have : sumN n (fullOf b) = sumN n ((fullOf b).set (k / 16 * 12 + k % 16 - 4) c) := by exact_mod_cast hl
            exact this.symm
          have hlen : k / 16 * 12 + k % 16 - 4 < (fullOf b).length := by rw [fullOf_len b hb]; exact h44
          have e := moreN_set _ (ofN_lt _) (fullOf b) _ hlen c hl2
          have e3 : (fullOf b)[k / 16 * 12 + k % 16 - 4] = laidAt h a k := by
            have e4 : (fullOf b).getD (k / 16 * 12 + k % 16 - 4) 0 = a (k / 16 * 12 + k % 16 - 4) := by rw [← p.body]; exact mk_getD 44 a _ h44
            have e5 : (fullOf b)[k / 16 * 12 + k % 16 - 4] = (fullOf b).getD (k / 16 * 12 + k % 16 - 4) 0 := by simp [List.getElem?_eq_getElem hlen]
            rw [e5, e4]
            unfold laidAt
            rw [if_neg h4]
          exact hne (e.trans e3)
        · -- a byte of the sum
          have eb : bodyOf (mk 64 x) = fullOf b := by
            rw [hbody, mk_congr (g := a) (fun j hj => by rw [hxo _ (by omega)]; exact laid_in h a j)]
            exact p.body
          rw [eb, ← p.last, hlast] at hl
          have e := num4_inj hl (k / 16 * 12 + k % 16 - 4 - 44) (by omega)
          rw [show (44 + (k / 16 * 12 + k % 16 - 4 - 44)) / 12 * 16 + (44 + (k / 16 * 12 + k % 16 - 4 - 44)) % 12 + 4 = k by omega, hxk, show 44 + (k / 16 * 12 + k % 16 - 4 - 44) = k / 16 * 12 + k % 16 - 4 by omega] at e
          refine hne (e.trans ?_)
          unfold laidAt
          rw [if_neg h4]
    · cases hg
  · cases hg

end Go.Proofs.Ytlhbipommhljiaa
