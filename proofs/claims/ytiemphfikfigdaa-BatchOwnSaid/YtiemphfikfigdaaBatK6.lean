/- batch: the reader's change. -/
import Derived.Test.YtiemphfikfigdaaBatK5
import Derived.Test.YtiemphfikfigdaaBatLives
namespace Go.Proofs.Ytiemphfikfigdaa
open Go.RowKit Go.Shelf
set_option linter.unusedVariables false
set_option maxRecDepth 100000
set_option linter.unusedSimpArgs false

theorem results_agg_tmp1 {P : Program} {fn : Func} {p u : Tmp} {ty : TypeId} (h : fn.results = #[.cell p ty, .tmp u]) (tmps : Array Value) (w : World) (b f : Nat) (cs : List Value) (hp : tmps.getD p undef = .pointer (some ⟨b, f, none⟩)) (hc : At w b f cs)
    (d : TypeDesc) (hu : P.underlying ty = some d) (hd : (match d with | .struct _ | .array _ _ => true | _ => false) = true) (hi : (P.info? ty).map (·.size) = some cs.length) :
    (results fn tmps).run P w = .ok (.tuple #[.agg cs.toArray, tmps.getD u undef]) w := by
  have hp' : tmps[p]?.getD undef = .pointer (some ⟨b, f, none⟩) := by simpa using hp
  simp [results, h, hp', asAddr, run_loadVar_at w ty b f cs hc d hu hd hi]
theorem chg_end {tmps : Array Value} {w : World} {g : Nat} {a b c x : Value} (hc : Cs w g 52 [a, b, c].toArray) (hp : tmps.getD 4 undef = .pointer (some ⟨g, 0, none⟩)) (hx : tmps.getD 5 undef = x) : (results Try.f39 tmps).run Try.prog w = .ok (.tuple #[.agg #[a, b, c], x]) w := by
  rw [results_agg_tmp1 (p := 4) (u := 5) (ty := 52) rfl tmps w g 0 [a, b, c] hp (At.whole hc) _ Try.underlying52 rfl (by kernel_rfl), hx]
/-- what change hands back -/
def ChgRet (last : Key) (l : List UInt8) (A : Option Addr) (c a g : Nat) (w : World) (e : Ending) (w' : World) : Prop := Turn w w' (· = g) ∧ match chgF last l a with
  | .error er => e = .returned (.tuple #[.agg chZero.toArray, .int .i64 er])
  | .ok (x, a') => ∃ v, e = .returned (.tuple #[.agg #[.string ⟨x.1.toArray⟩, v, .bool x.2.2], .int .i64 0]) ∧ BsV w' (w.heap.size ≤ ·) v x.2.1 ∧ Cs w' g 61 (rdrC A l.length c a' false).toArray ∧ a' ≤ l.length
theorem ChgRet.err {last : Key} {l : List UInt8} {A : Option Addr} {c a g : Nat} {w w' : World} {er : Int} (h : chgF last l a = .error er) (ht : Turn w w' (· = g)) : ChgRet last l A c a g w (.returned (.tuple #[.agg #[.string ⟨#[]⟩, .slice none 0 0, .bool false], .int .i64 er])) w' := ⟨ht, by rw [h]; rfl⟩
theorem ChgRet.has {last : Key} {l : List UInt8} {A : Option Addr} {c a g a' : Nat} {w w' : World} {k val : List UInt8} {z : Bool} {v : Value} (h : chgF last l a = .ok ((k, val, z), a')) (ht : Turn w w' (· = g)) (hv : BsV w' (w.heap.size ≤ ·) v val) (hc : Cs w' g 61 (rdrC A l.length c a' false).toArray) (ha : a' ≤ l.length) :
    ChgRet last l A c a g w (.returned (.tuple #[.agg #[.string ⟨k.toArray⟩, v, .bool z], .int .i64 0])) w' := ⟨ht, by rw [h]; exact ⟨v, rfl, hv, hc, ha⟩⟩
theorem chgF_5 {last : Key} {l : List UInt8} {a s a1 : Nat} {s1 : Bool} (h1 : numF l a 1 false = (s, a1, s1)) (h : last.length < s) : chgF last l a = .error 5 := by
  unfold chgF
  rw [h1]
  exact if_pos h
theorem chgF_rest {last : Key} {l : List UInt8} {a s a1 m a2 a3 z a4 a5 : Nat} {s1 s2 s3 s4 s5 : Bool} {t v : List UInt8} (h1 : numF l a 1 false = (s, a1, s1)) (h : ¬ last.length < s) (h2 : numF l a1 1 s1 = (m, a2, s2)) (h3 : pieceF l a2 m s2 = (t, a3, s3)) (h4 : numF l a3 2 s3 = (z, a4, s4)) (h5 : pieceF l a4 (z - 1) s4 = (v, a5, s5)) :
    chgF last l a = if s5 then .error 4 else if !fitsK last (last.take s ++ t) v || decide (s < sharedP last (last.take s ++ t)) then .error 5 else .ok ((last.take s ++ t, v, decide (z = 0)), a5) := by
  unfold chgF
  simp only [h1, h2, h3, h4, h5]
  exact if_neg h
theorem numF_b {l : List UInt8} {a k r x : Nat} {sh y : Bool} (h : numF l a k sh = (r, x, y)) (ha : a ≤ l.length) (hk : k ≤ 2) : r ≤ 65535 ∧ x ≤ l.length := by
  have h1 := numF_lt (l := l) (a := a) (sh := sh) hk
  have h2 := numF_le (k := k) (sh := sh) ha
  rw [h] at h1 h2
  exact ⟨h1, h2⟩
theorem pieceF_b {l : List UInt8} {a n x : Nat} {t : List UInt8} {sh y : Bool} (h : pieceF l a n sh = (t, x, y)) (ha : a ≤ l.length) : t.length ≤ n ∧ x ≤ l.length := by
  have h1 := pieceF_len (l := l) (a := a) (n := n) (sh := sh)
  have h2 := pieceF_le (k := n) (sh := sh) ha
  rw [h] at h1 h2
  exact ⟨h1, h2⟩
set_option maxHeartbeats 4000000 in
theorem change_any (last : Key) (l : List UInt8) (b off c a g : Nat) (w : World) (hlast : last.length ≤ 1000000) (hl : l.length ≤ 1000000000) (hlc : l.length ≤ c) (hcm : c ≤ maxLen) (ha : a ≤ l.length) (hb : b ≠ g) (hr : Rd w (some ⟨b, off, none⟩) l) (hc : Cs w g 61 (rdrC (some ⟨b, off, none⟩) l.length c a false).toArray) :
    Calls Try.prog 39 #[.pointer (some ⟨g, 0, none⟩), .string ⟨last.toArray⟩] w fun e w' => ChgRet last l (some ⟨b, off, none⟩) c a g w e w' := by
  have hmix : Try.prog.follows .mixedOrders = true := by kernel_rfl
  have hl' : (last.length : Int) ≤ 1000000 := by omega
  have hgw := hc.lt
  have hnum := fun (k a : Nat) (sh : Bool) u h1 h2 h3 h4 h5 => bnumF_any l b off c a k sh g u hl hlc h1 h2 h3 h4 h5
  have hpie := fun (n a : Nat) (sh : Bool) u h1 h2 h3 h4 => pieceF_any l b off c a n sh g u hl h1 hlc hcm h2 h3 h4
  have NUM := Lib.hid hnum
  have PIE := Lib.hid hpie
  have HR := Lib.hid hr
  have HC := Lib.hid hc
  have HB := Lib.hid (show ∀ x, (some (⟨b, off, none⟩ : Addr)) = some x → ¬ x.block = g from fun x e => by cases e; exact hb)
  have HA := Lib.hid ha
  have GW := Lib.hid hgw
  obtain ⟨⟨s, a1, s1⟩, e1⟩ : ∃ x, numF l a 1 false = x := ⟨_, rfl⟩
  have b1 := numF_b e1 ha (by decide)
  obtain ⟨⟨m, a2, s2⟩, e2⟩ : ∃ x, numF l a1 1 s1 = x := ⟨_, rfl⟩
  have b2 := numF_b e2 b1.2 (by decide)
  obtain ⟨⟨t, a3, s3⟩, e3⟩ : ∃ x, pieceF l a2 m s2 = x := ⟨_, rfl⟩
  have b3 := pieceF_b e3 b2.2
  obtain ⟨⟨z, a4, s4⟩, e4⟩ : ∃ x, numF l a3 2 s3 = x := ⟨_, rfl⟩
  have b4 := numF_b e4 b3.2 (by decide)
  obtain ⟨⟨v, a5, s5⟩, e5⟩ : ∃ x, pieceF l a4 (z - 1) s4 = x := ⟨_, rfl⟩
  have b5 := pieceF_b e5 b4.2
  have E1 := Lib.hid e1
  have E2 := Lib.hid e2
  have E3 := Lib.hid e3
  have E4 := Lib.hid e4
  have E5 := Lib.hid e5
  have BB := Lib.hid (show (a1 ≤ l.length ∧ a2 ≤ l.length ∧ a3 ≤ l.length ∧ a4 ≤ l.length ∧ a5 ≤ l.length) ∧ m ≤ 65535 ∧ z ≤ 65535 ∧ t.length ≤ 65535 ∧ v.length ≤ 65535 by omega)
  have hs' : (s : Int) ≤ 65535 := by omega
  have hm' : (m : Int) ≤ 65535 := by omega
  have hz' : (z : Int) ≤ 65535 := by omega
  have hv1 : z = 0 → v = [] := fun h => by have := size0 (l := l) (a := a4) (n := z) (sh := s4) (by simpa using h); rw [e5] at this; exact this
  have HV0 := Lib.hid hv1
  clear hnum hpie hr hc hb ha hgw hl hlc hcm e1 e2 e3 e4 e5 b1 b2 b3 b4 b5 hv1
  go_enter Try.func39, Try.ntmps39
  go_wp2_with (first | ((with_reducible show wpList _ _ _ _ _ w); refine wpList_allocS rfl 52 rfl _ zeroCh ?_; intro g4 w1 hk hb hg; go_frame; have K1 := Lib.hid hk; have T1 := Lib.hid (show RStep (some ⟨b, off, none⟩) l.length c g w w1 a false from ⟨Turn.of_below hb _, HC.out.below hb GW.out⟩); have G4 := Lib.hid hg; clear hk hb hg))
  have NE := Lib.hid (show ¬ g4 = g from fun e => by have := GW.out; have := G4.out; omega)
  refine (NUM.out 1 _ _ w1 rfl (by decide) HA.out (HR.out.turn T1.out.turn HB.out) T1.out.at').mono ?_
  rintro e w2 ⟨rfl, hst⟩
  rw [E1.out] at hst ⊢
  have T2 := Lib.hid (T1.out.next hst)
  have K2 := Lib.hid (K1.out.turn hst.turn NE.out)
  clear hst K1 T1
  by_cases hsl : last.length < s
  · have hsl' : (last.length : Int) < (s : Int) := by omega
    go_wp2_with (first | ((with_reducible show wpList _ _ _ _ _ w2); refine wpList_storeS rfl 52 _ _ rfl g4 rfl chZero _ rfl K2.out rfl (one3c rfl rfl rfl) (infoCh3 _ _ _) ?_; intro x15 hk ht; go_frame; have K15 := Lib.hid hk; have T15 := Lib.hid ht; clear hk ht))
    exact bodyPost_ret (chg_end K15.out rfl rfl) rfl (ChgRet.err (chgF_5 E1.out hsl) ((T2.out.turn).trans T15.out fun q hq h => absurd (h ▸ hq) (Nat.not_lt.2 G4.out)))
  have hsl' : ¬ (last.length : Int) < (s : Int) := by omega
  have REST := Lib.hid (chgF_rest E1.out hsl E2.out E3.out E4.out E5.out)
  have SLE := Lib.hid (show s ≤ last.length by omega)
  go_wp2_with fail
  refine (NUM.out 1 _ _ w2 rfl (by decide) BB.out.1.1 (HR.out.turn T2.out.turn HB.out) T2.out.at').mono ?_
  rintro e w3 ⟨rfl, hst⟩
  rw [E2.out] at hst ⊢
  have T3 := Lib.hid (T2.out.next hst)
  have K3 := Lib.hid (K2.out.turn hst.turn NE.out)
  clear hst K2 T2
  go_wp2_with fail
  refine (PIE.out m _ _ w3 (by omega) BB.out.1.2.1 (HR.out.turn T3.out.turn HB.out) T3.out.at').mono ?_
  rintro e w4 ⟨⟨v2, rfl, hv2⟩, hst⟩
  rw [E3.out] at hv2 hst
  have V4 := Lib.hid (hv2.mono fun q _ h => Nat.le_trans T3.out.turn.size h)
  have T4 := Lib.hid (T3.out.next hst)
  have K4 := Lib.hid (K3.out.turn hst.turn NE.out)
  clear hst hv2 K3 T3
  go_wp2_with fail
  refine (NUM.out 2 _ _ w4 rfl (by decide) BB.out.1.2.2.1 (HR.out.turn T4.out.turn HB.out) T4.out.at').mono ?_
  rintro e w5 ⟨rfl, hst⟩
  rw [E4.out] at hst ⊢
  have T5 := Lib.hid (T4.out.next hst)
  have K5 := Lib.hid (K4.out.turn hst.turn NE.out)
  have V5 := Lib.hid (V4.out.turn hst.turn fun q h e => by have := GW.out; omega)
  clear hst K4 T4 V4
  have hmax : max (0 : Int) ((z : Int) - 1) = ((z - 1 : Nat) : Int) := by omega
  go_wp2_with fail
  refine (PIE.out (z - 1) _ _ w5 (by omega) BB.out.1.2.2.2.1 (HR.out.turn T5.out.turn HB.out) T5.out.at').mono ?_
  rintro e w6 ⟨⟨v4, rfl, hv4⟩, hst⟩
  rw [E5.out] at hv4 hst
  have U6 := Lib.hid hv4
  have LT4 := Lib.hid K5.out.lt
  have W5 := Lib.hid T5.out.turn.size
  have V6 := Lib.hid (V5.out.turn hst.turn fun q h e => by have := GW.out; omega)
  have T6 := Lib.hid (T5.out.next hst)
  have K6 := Lib.hid (K5.out.turn hst.turn NE.out)
  clear hst hv4 K5 T5 V5 hmax
  have q2 := rdrC_2 T6.out.at'
  cases s5
  · skip
    simp only [Bool.false_eq_true, if_false] at REST
    obtain ⟨A2, c2, rfl, hr2, hn2, -⟩ := id V6.out
    obtain ⟨A4, c4, hv4, -⟩ := id U6.out
    subst hv4
    have HCV := Lib.hid (fun u (hu : Below w6.heap.size w6 u) => conv_rd (hr2.rd.below hu) c2)
    clear hr2 hn2
    have SZ1 := Lib.hid (show (⟨last.toArray⟩ : ByteArray).size = last.length from ba_size _)
    have HSV := Lib.hid (sv_take last s)
    have HAB := Lib.hid (show (⟨(last.take s).toArray⟩ : ByteArray).size + (⟨t.toArray⟩ : ByteArray).size ≤ 9223372036854775807 by rw [ba_size, ba_size, List.length_take]; have := BB.out.2; omega)
    have HSA := Lib.hid (sv_add (last.take s) t)
    have KLEN := Lib.hid (show (last.take s ++ t).length ≤ 2000000 by rw [List.length_append, List.length_take]; have := BB.out.2; omega)
    generalize last.take s ++ t = key at *
    have hsx : (s : Int) ≤ (last.length : Int) := by have := SLE.out; omega
    go_wp2_with fail
    refine wp_region_V [11] (Below w6.heap.size w6) hmix ((Below.refl _ _).drew) ?_
    change wpAnyV _ _ _ _ _ _ _ _ _
    refine wpAnyV_take (i := 0) (v := .string ⟨last.toArray⟩) 8 (kept_below w6) rfl (by kernel_rfl) (by kernel_rfl) (fun _ _ _ h => h) (fun _ h => h) (DoesV.reads (by rfl) fun w9 hS => by go_simp) ?_
    try simp only [List.getElem_toArray, List.getElem_cons_succ, List.getElem_cons_zero, Act.put, List.setIfInBounds_toArray, List.set_cons_succ, List.set_cons_zero]
    refine wpAnyV_take (i := 1) (v := .int .i64 (s : Int)) 8 (kept_below w6) rfl (by kernel_rfl) (by kernel_rfl) (fun _ _ _ h => h) (fun _ h => h) (DoesV.reads (by rfl) fun w9 hS => by go_simp) ?_
    try simp only [List.getElem_toArray, List.getElem_cons_succ, List.getElem_cons_zero, Act.put, List.setIfInBounds_toArray, List.set_cons_succ, List.set_cons_zero]
    refine wpAnyV_take (i := 2) (v := .string ⟨(last.take s).toArray⟩) 8 (kept_below w6) rfl (by kernel_rfl) (by kernel_rfl) (fun _ _ _ h => h) (fun _ h => h) (DoesV.reads (by rfl) fun w9 hS => by have h9 := HSV.out; have h8 := SZ1.out; go_simp) ?_
    try simp only [List.getElem_toArray, List.getElem_cons_succ, List.getElem_cons_zero, Act.put, List.setIfInBounds_toArray, List.set_cons_succ, List.set_cons_zero]
    refine wpAnyV_take (i := 3) (v := .slice A2 t.length c2) 8 (kept_below w6) rfl (by kernel_rfl) (by kernel_rfl) (fun _ _ _ h => h) (fun _ h => h) (DoesV.reads (by rfl) fun w9 hS => by go_simp) ?_
    try simp only [List.getElem_toArray, List.getElem_cons_succ, List.getElem_cons_zero, Act.put, List.setIfInBounds_toArray, List.set_cons_succ, List.set_cons_zero]
    refine wpAnyV_take (i := 4) (v := .string ⟨t.toArray⟩) 8 (kept_below w6) rfl (by kernel_rfl) (by kernel_rfl) (fun _ _ _ h => h) (fun _ h => h) (DoesV.reads (by rfl) fun w9 hS => by have h9 := HCV.out w9 hS; go_simp) ?_
    try simp only [List.getElem_toArray, List.getElem_cons_succ, List.getElem_cons_zero, Act.put, List.setIfInBounds_toArray, List.set_cons_succ, List.set_cons_zero]
    refine wpAnyV_take (i := 5) (v := .string ⟨key.toArray⟩) 8 (kept_below w6) rfl (by kernel_rfl) (by kernel_rfl) (fun _ _ _ h => h) (fun _ h => h) (DoesV.reads (by rfl) fun w9 hS => by have h9 : (Op.stringOp .add (⟨(last.take s).toArray⟩ : ByteArray) ⟨t.toArray⟩).run Try.prog w9 = .ok (.string ⟨key.toArray⟩) w9 := (run_string_add_sum _ _ _ HAB.out).trans (by rw [HSA.out]); go_simp) ?_
    try simp only [List.getElem_toArray, List.getElem_cons_succ, List.getElem_cons_zero, Act.put, List.setIfInBounds_toArray, List.set_cons_succ, List.set_cons_zero]
    refine wpAnyV_take (i := 6) (v := .slice A4 v.length c4) 8 (kept_below w6) rfl (by kernel_rfl) (by kernel_rfl) (fun _ _ _ h => h) (fun _ h => h) (DoesV.reads (by rfl) fun w9 hS => by go_simp) ?_
    try simp only [List.getElem_toArray, List.getElem_cons_succ, List.getElem_cons_zero, Act.put, List.setIfInBounds_toArray, List.set_cons_succ, List.set_cons_zero]
    refine wpAnyV_take (i := 7) (v := .int .i64 (z : Int)) 8 (kept_below w6) rfl (by kernel_rfl) (by kernel_rfl) (fun _ _ _ h => h) (fun _ h => h) (DoesV.reads (by rfl) fun w9 hS => by go_simp) ?_
    try simp only [List.getElem_toArray, List.getElem_cons_succ, List.getElem_cons_zero, Act.put, List.setIfInBounds_toArray, List.set_cons_succ, List.set_cons_zero]
    refine wpAnyV_take (i := 8) (v := .bool (decide (z = 0))) 8 (kept_below w6) rfl (by kernel_rfl) (by kernel_rfl) (fun _ _ _ h => h) (fun _ h => h) (DoesV.reads (by rfl) fun w9 hS => by have h9 : ((z : Int) == 0) = decide (z = 0) := (by by_cases h : z = 0 <;> simp [h]); go_simp) ?_
    try simp only [List.getElem_toArray, List.getElem_cons_succ, List.getElem_cons_zero, Act.put, List.setIfInBounds_toArray, List.set_cons_succ, List.set_cons_zero]
    refine wpAnyV_take (i := 9) (v := .agg #[.string ⟨key.toArray⟩, .slice A4 v.length c4, .bool (decide (z = 0))]) 8 (kept_below w6) rfl (by kernel_rfl) (by kernel_rfl) (fun _ _ _ h => h) (fun _ h => h) (DoesV.reads (by rfl) fun w9 hS => by go_simp) ?_
    try simp only [List.getElem_toArray, List.getElem_cons_succ, List.getElem_cons_zero, Act.put, List.setIfInBounds_toArray, List.set_cons_succ, List.set_cons_zero]
    refine wpAnyV_only (i := 10) rfl (by kernel_rfl) rfl (fun u hS => wp_allocS 52 rfl _ zeroCh fun g10 u' hk hb hg => ⟨fun y => Below w6.heap.size w6 y ∧ Cs y g10 52 chZero.toArray, ⟨below_chain hS hb, hk⟩, kept_and (kept_below w6) (kept_cs _ _ _), fun _ u h => h.1, ?_⟩)
    try simp only [List.getElem_toArray, List.getElem_cons_succ, List.getElem_cons_zero, Act.put, List.setIfInBounds_toArray, List.set_cons_succ, List.set_cons_zero]
    have hge : w6.heap.size ≤ g10 := Nat.le_trans hS.size hg
    refine wpAnyV_only (i := 11) rfl (by kernel_rfl) rfl (fun u hS => wp_storeW 52 _ _ rfl g10 rfl [.string ⟨key.toArray⟩, .slice A4 v.length c4, .bool (decide (z = 0))] chZero rfl hS.2 rfl (one3c rfl U6.out.one rfl) (infoCh3 _ _ _) fun u' hk ht => ⟨fun y => Below w6.heap.size w6 y ∧ Cs y g10 52 [.string ⟨key.toArray⟩, .slice A4 v.length c4, .bool (decide (z = 0))].toArray, ⟨below_turn hS.1 ht hS.1.size hge, hk⟩, kept_and (kept_below w6) (kept_cs _ _ _), fun h => absurd (by simp) h, ?_⟩)
    try simp only [List.getElem_toArray, List.getElem_cons_succ, List.getElem_cons_zero, Act.put, List.setIfInBounds_toArray, List.set_cons_succ, List.set_cons_zero]
    refine wpAnyV_done (by kernel_rfl) (fun w7 hu => ?_) _
    have hb7 := hu.1
    have K7 := Lib.hid (K6.out.below hb7 K6.out.lt)
    have C7 := Lib.hid hu.2
    have T7 := Lib.hid (T6.out.kept hb7)
    have U7 := Lib.hid (U6.out.below hb7)
    have N10 := Lib.hid (show g4 ≠ g10 from fun e => by have := K6.out.lt; omega)
    clear hu hb7 K6 T6 U6 V6 HCV HAB HSV HSA SZ1 q2
    have hmay := fun u A F hr => MayC_any [(key, v, decide (z = 0))] A 1 F u ⟨by simp, fun x hx => by have := KLEN.out; simp at hx; subst hx; show key.length ≤ _; omega⟩ hr
    have MAY := Lib.hid hmay
    have hkl : (key.length : Int) ≤ 2000000 := by have := KLEN.out; omega
    have hlb := less_bytes
    have hsh := fun u => Shared_any last key u (by omega) (by have := KLEN.out; omega)
    have SHR := Lib.hid hsh
    have hfit := may_single (last := last) (k := key) (v := v) (z := decide (z = 0)) (fun h => HV0.out (by simpa using h))
    have REST := Lib.hid (by have h := REST.out; rw [hfit] at h; exact h)
    clear hmay hsh hfit
    obtain ⟨mm, hmm⟩ : ∃ x, mayCP [(key, v, decide (z = 0))] = x := ⟨_, rfl⟩
    rw [hmm] at REST
    have HMM := Lib.hid hmm
    clear hmm
    go_wp2_with (first
      | ((with_reducible show wpList _ _ _ _ _ w7); refine wpList_loadS rfl 52 _ rfl g10 rfl [.string ⟨key.toArray⟩, .slice A4 v.length c4, .bool (decide (z = 0))] C7.out _ Try.underlying52 rfl (infoCh3 _ _ _) ?_; go_frame)
      | ((with_reducible show wpList _ _ _ _ _ w7); refine wpList_buildCh1 (by kernel_rfl) _ rfl (key, v, decide (z = 0)) A4 c4 rfl ?_; intro g8 w8 hk hb hg; go_frame; have C8 := Lib.hid hk; have B8 := Lib.hid hb; clear hk hb hg))
    refine (MAY.out w8 _ _ (ls_one (r := (key, v, decide (z = 0))) C8.out (U7.out.below B8.out)).at.2.1).mono ?_
    rintro e w9 ⟨rfl, hb9⟩
    rw [HMM.out]
    have B9 := Lib.hid (below_chain B8.out hb9)
    have K9 := Lib.hid (K7.out.below B9.out K7.out.lt)
    have C9 := Lib.hid (C7.out.below B9.out C7.out.lt)
    have T9 := Lib.hid (T7.out.kept B9.out)
    have U9 := Lib.hid (U7.out.below B9.out)
    have q3 : w9.cell? ⟨g10, 0, none⟩ = some (.string ⟨key.toArray⟩) := C9.out.cell 0 rfl
    clear hb9 K7 C7 T7 U7 B8 C8
    cases mm
    · have HN := Lib.hid (REST.out.trans (if_pos (by simp)))
      go_wp2_with (first | ((with_reducible show wpList _ _ _ _ _ w9); refine wpList_storeS rfl 52 _ _ rfl g4 rfl chZero _ rfl K9.out rfl (one3c rfl rfl rfl) (infoCh3 _ _ _) ?_; intro x15 hk ht; go_frame; have K15 := Lib.hid hk; have T15 := Lib.hid ht; clear hk ht))
      exact bodyPost_ret (chg_end K15.out rfl rfl) rfl (ChgRet.err HN.out ((T9.out.turn).trans T15.out fun q hq h => absurd (h ▸ hq) (Nat.not_lt.2 G4.out)))
    · obtain ⟨ll, hll⟩ : ∃ x, lessK last key = x := ⟨_, rfl⟩
      rw [hll] at REST
      cases ll
      · have HN := Lib.hid (REST.out.trans (if_pos (by simp)))
        have f3 := leq_true hll
        clear hll
        go_wp2_with (first | ((with_reducible show wpList _ _ _ _ _ w9); refine wpList_storeS rfl 52 _ _ rfl g4 rfl chZero _ rfl K9.out rfl (one3c rfl rfl rfl) (infoCh3 _ _ _) ?_; intro x15 hk ht; go_frame; have K15 := Lib.hid hk; have T15 := Lib.hid ht; clear hk ht))
        exact bodyPost_ret (chg_end K15.out rfl rfl) rfl (ChgRet.err HN.out ((T9.out.turn).trans T15.out fun q hq h => absurd (h ▸ hq) (Nat.not_lt.2 G4.out)))
      · have f3 := leq_false hll
        clear hll
        go_wp2_with fail
        refine (SHR.out w9).mono ?_
        rintro e w10 ⟨rfl, hb10⟩
        have K10 := Lib.hid (K9.out.below hb10 K9.out.lt)
        have C10 := Lib.hid (C9.out.below hb10 C9.out.lt)
        have T10 := Lib.hid (T9.out.kept hb10)
        have U10 := Lib.hid (U9.out.below hb10)
        clear hb10 K9 C9 T9 U9 q3
        generalize sharedP last key = sp at *
        by_cases hsp : s < sp
        · have hsp' : (s : Int) < (sp : Int) := by omega
          have HN := Lib.hid (REST.out.trans (if_pos (by simp [hsp])))
          go_wp2_with (first | ((with_reducible show wpList _ _ _ _ _ w10); refine wpList_storeS rfl 52 _ _ rfl g4 rfl chZero _ rfl K10.out rfl (one3c rfl rfl rfl) (infoCh3 _ _ _) ?_; intro x15 hk ht; go_frame; have K15 := Lib.hid hk; have T15 := Lib.hid ht; clear hk ht))
          exact bodyPost_ret (chg_end K15.out rfl rfl) rfl (ChgRet.err HN.out ((T10.out.turn).trans T15.out fun q hq h => absurd (h ▸ hq) (Nat.not_lt.2 G4.out)))
        · have hsp' : ¬ (s : Int) < (sp : Int) := by omega
          have HN := Lib.hid (REST.out.trans (if_neg (by simp [hsp])))
          go_wp2_with (first
            | ((with_reducible show wpList _ _ _ _ _ w10); refine wpList_loadS rfl 52 _ rfl g10 rfl [.string ⟨key.toArray⟩, .slice A4 v.length c4, .bool (decide (z = 0))] C10.out _ Try.underlying52 rfl (infoCh3 _ _ _) ?_; go_frame)
            | ((with_reducible show wpList _ _ _ _ _ w10); refine wpList_storeS rfl 52 _ _ rfl g4 rfl [.string ⟨key.toArray⟩, .slice A4 v.length c4, .bool (decide (z = 0))] _ rfl K10.out rfl (one3c rfl rfl rfl) (infoCh3 _ _ _) ?_; intro x15 hk ht; go_frame; have K15 := Lib.hid hk; have T15 := Lib.hid ht; clear hk ht))
          exact bodyPost_ret (chg_end K15.out rfl rfl) rfl (ChgRet.has HN.out ((T10.out.turn).trans T15.out fun q hq h => absurd (h ▸ hq) (Nat.not_lt.2 G4.out)) ((U10.out.turn T15.out fun q h e => by have := LT4.out; omega).mono fun q _ h => Nat.le_trans W5.out h) (T10.out.at'.turn T15.out fun e => NE.out e.symm) BB.out.1.2.2.2.2)
  · simp only [if_true] at REST
    go_wp2_with (first | ((with_reducible show wpList _ _ _ _ _ w6); refine wpList_storeS rfl 52 _ _ rfl g4 rfl chZero _ rfl K6.out rfl (one3c rfl rfl rfl) (infoCh3 _ _ _) ?_; intro x15 hk ht; go_frame; have K15 := Lib.hid hk; have T15 := Lib.hid ht; clear hk ht))
    exact bodyPost_ret (chg_end K15.out rfl rfl) rfl (ChgRet.err REST.out ((T6.out.turn).trans T15.out fun q hq h => absurd (h ▸ hq) (Nat.not_lt.2 G4.out)))

end Go.Proofs.Ytiemphfikfigdaa
