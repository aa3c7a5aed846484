/- Get: the call that bytes are. -/
import Derived.Test.YthfaemcpheecfaaDoorCal3
import Derived.Test.YthfaemcpheecfaaDoorCal9
namespace Go.Proofs.YthfaemcpheecfaaDoor
open Go.RowKit Go.Shelf
set_option linter.unusedVariables false
set_option maxRecDepth 100000
set_option linter.unusedSimpArgs false

theorem if_sameC {A E : Prop} [Decidable A] [Decidable E] {b b' : Bool} {T : Type} {X y y' : T} (h1 : E ↔ A) (h2 : b = b') (h3 : b = true → y = y') : (if A ∨ b = false then X else y) = (if E ∨ b' = false then X else y') := by
  subst h2
  by_cases hA : A
  · rw [if_pos (.inl hA), if_pos (.inl (h1.2 hA))]
  · have hE : ¬ E := fun h => hA (h1.1 h)
    cases b
    · rw [if_pos (.inr rfl), if_pos (.inr rfl)]
    · rw [if_neg (by simp [hA]), if_neg (by simp [hE])]
      exact h3 rfl
theorem RdAt.tightC {w : World} {rb : Nat} {s : RS} {F : Nat → Prop} (h : RdAt w rb s F) : RdAt w rb s (fun k => F k ∧ k < w.heap.size) := by
  obtain ⟨v, h1, h2, h3, h4⟩ := h
  exact ⟨v, h1, h2.mono fun k hk h => ⟨h, hk⟩, fun h => h3 h.1, h4⟩
theorem restC_head (k : Nat) (c : CallX) (xs : List Fd) : (restC k c xs).client = c.client ∧ (restC k c xs).inc = c.inc ∧ (restC k c xs).seq = c.seq ∧ (restC k c xs).kind = c.kind := by
  unfold restC
  split
  · split <;> simp
  · split
    · split <;> simp
    · split
      · split <;> simp
      · split
        · split <;> simp
        · split
          · split <;> simp
          · split <;> simp
theorem mayX_client {c : CallX} (h : 4 ≤ c.client) : mayX c = false := by
  unfold mayX
  have : decide (c.client < 4) = false := decide_eq_false (by omega)
  rw [this]
  simp
theorem headR_is (l : List UInt8) : headR l = ([⟨(numR ⟨l, 0, 0⟩ 4).1.toNat, []⟩, ⟨(numR (numR ⟨l, 0, 0⟩ 4).2 4).1.toNat, []⟩, ⟨(numR (numR (numR ⟨l, 0, 0⟩ 4).2 4).2 8).1.toNat, []⟩, ⟨(numR (numR (numR (numR ⟨l, 0, 0⟩ 4).2 4).2 8).2 4).1.toNat, []⟩], headRS ⟨l, 0, 0⟩) := rfl
theorem kindR_is (l : List UInt8) : kindR l = (numR (numR (numR (numR ⟨l, 0, 0⟩ 4).2 4).2 8).2 4).1.toNat := rfl
/-- what Get makes of what pass told -/
def getP (l : List UInt8) : CallX × Int :=
  if (passR ⟨l, 0, 0⟩).1 ≠ 0 then (calZero, (passR ⟨l, 0, 0⟩).1)
  else if endR (passR ⟨l, 0, 0⟩).2.2 ≠ 0 ∨ mayX (passR ⟨l, 0, 0⟩).2.1 = false then (calZero, 5)
  else ((passR ⟨l, 0, 0⟩).2.1, 0)
set_option maxHeartbeats 4000000 in
theorem getX_is (l : List UInt8) (h : ¬ 4096 < l.length) : getX l = getP l := by
  unfold getX getP
  rw [if_neg h]
  have hh : (headR l).2 = headRS ⟨l, 0, 0⟩ := rfl
  rw [hh]
  by_cases he : (headRS ⟨l, 0, 0⟩).err ≠ 0
  · have hp : passR ⟨l, 0, 0⟩ = ((headRS ⟨l, 0, 0⟩).err, fitC ⟨l, 0, 0⟩, headRS ⟨l, 0, 0⟩) := by unfold passR; rw [if_pos he]
    rw [if_pos he, hp, if_pos he]
  rw [if_neg he]
  have hkind : (fitC ⟨l, 0, 0⟩).kind = min (kindR l) 255 := rfl
  by_cases hk : kindX (kindR l) = false
  · have hk2 : kindX (fitC ⟨l, 0, 0⟩).kind = false := by
      rw [hkind]
      have := of_decide_eq_false hk
      exact decide_eq_false (by omega)
    have hp : passR ⟨l, 0, 0⟩ = (5, fitC ⟨l, 0, 0⟩, headRS ⟨l, 0, 0⟩) := by unfold passR; rw [if_neg he, if_pos hk2]
    rw [if_pos hk, hp]
    exact (if_pos (show ((5 : Int) ≠ 0) by decide)).symm
  rw [if_neg hk]
  have hk1 : kindX (kindR l) = true := by simpa using hk
  have hmin : min (kindR l) 255 = kindR l := by
    have := of_decide_eq_true hk1
    omega
  have hk2 : ¬ kindX (fitC ⟨l, 0, 0⟩).kind = false := by rw [hkind, hmin]; exact hk
  have hp : passR ⟨l, 0, 0⟩ = ((restR l).2.err, restC (kindR l) (fitC ⟨l, 0, 0⟩) (restR l).1, (restR l).2) := by
    unfold passR
    rw [if_neg he, if_neg hk2, hkind, hmin]
    rfl
  rw [hp]
  dsimp only
  by_cases hr : (restR l).2.err ≠ 0
  · rw [if_pos hr, if_pos hr]
  rw [if_neg hr, if_neg hr]
  have hall : (restR l).2.all = l := (tellL_all 4096 _ _).trans (tellL_all 4096 _ _)
  have hend : (endR (restR l).2 ≠ 0) ↔ (restR l).2.pos < l.length := by
    unfold endR
    rw [if_neg hr, hall]
    split <;> simp_all
  have hcl : mayX (callR l) = mayX (restC (kindR l) (fitC ⟨l, 0, 0⟩) (restR l).1) ∧ (mayX (callR l) = true → callR l = restC (kindR l) (fitC ⟨l, 0, 0⟩) (restR l).1) := by
    by_cases h4 : (numR ⟨l, 0, 0⟩ 4).1.toNat < 4
    · have : fitC ⟨l, 0, 0⟩ = headC calZero (headR l).1 := by
        rw [headR_is]
        unfold fitC headC
        dsimp only
        have e1 : min (numR ⟨l, 0, 0⟩ 4).1.toNat 255 = (numR ⟨l, 0, 0⟩ 4).1.toNat := by omega
        have e2 : min (numR (numR (numR (numR ⟨l, 0, 0⟩ 4).2 4).2 8).2 4).1.toNat 255 = (numR (numR (numR (numR ⟨l, 0, 0⟩ 4).2 4).2 8).2 4).1.toNat := by rw [← kindR_is]; exact hmin
        rw [e1, e2]
      rw [this]
      exact ⟨rfl, fun _ => rfl⟩
    · have h1 : mayX (callR l) = false := mayX_client (by
        unfold callR
        rw [(restC_head _ _ _).1, headR_is]
        show 4 ≤ (numR ⟨l, 0, 0⟩ 4).1.toNat
        omega)
      have h2 : mayX (restC (kindR l) (fitC ⟨l, 0, 0⟩) (restR l).1) = false := mayX_client (by
        rw [(restC_head _ _ _).1]
        show 4 ≤ min (numR ⟨l, 0, 0⟩ 4).1.toNat 255
        omega)
      exact ⟨by rw [h1, h2], fun h => by rw [h1] at h; cases h⟩
  exact if_sameC hend hcl.1 fun h => congrArg (fun c => (c, (0 : Int))) (hcl.2 h)
theorem calOk_zero : calOk calZero := by simp [calOk, calZero]
theorem fdN {k : Nat} (hk : k ≤ 4) (s : RS) : (numR s k).1.toNat < 4294967296 := by
  have h := numR_bd s k (by omega)
  have hP : (256 : Nat) ^ k ≤ 256 ^ 4 := Nat.pow_le_pow_right (by decide) hk
  have hc : ((256 ^ k : Nat) : Int) = 256 ^ k := Int.natCast_pow 256 k
  have h4 : (256 : Nat) ^ 4 = 4294967296 := by decide
  omega
theorem calOk_rest {k : Nat} {c : CallX} (s : RS) (h : calOk c) (r : KRow) : calOk (restC k c (tellL 4096 (restS (kRow k)) s).1) := by
  have n4 := fun s => fdN (Nat.le_refl 4) s
  obtain ⟨h1, h2, h3, h4, h5, h6, h7, h8, h9, h10⟩ := h
  unfold restC
  by_cases e2 : k = 2
  · subst e2; exact ⟨h1, h2, h3, h4, n4 _, n4 _, h7, h8, h9, n4 _⟩
  rw [if_neg e2]
  by_cases e3 : k = 3 ∨ k = 7 ∨ k = 8 ∨ k = 9 ∨ k = 10
  · have e : kRow k = ⟨0, 0, true, false, false⟩ := by unfold kRow; rw [if_neg e2, if_pos e3]
    rw [e, if_pos e3]; exact ⟨h1, h2, h3, h4, n4 _, n4 _, h7, h8, h9, h10⟩
  rw [if_neg e3]
  by_cases e4 : k = 4
  · subst e4; exact ⟨h1, h2, h3, h4, n4 _, n4 _, h7, h8, n4 _, n4 _⟩
  rw [if_neg e4]
  by_cases e5 : k = 5
  · subst e5; exact ⟨h1, h2, h3, h4, n4 _, n4 _, h7, h8, n4 _, h10⟩
  rw [if_neg e5]
  by_cases e6 : k = 11
  · subst e6; exact ⟨h1, h2, h3, h4, n4 _, n4 _, n4 _, n4 _, h9, h10⟩
  rw [if_neg e6]
  have e : kRow k = kNone := by unfold kRow; rw [if_neg e2, if_neg e3, if_neg e4, if_neg e5, if_neg e6]
  rw [e]; exact ⟨h1, h2, h3, h4, n4 _, n4 _, h7, h8, h9, h10⟩
theorem calOk_fit (s : RS) : calOk (fitC s) := by
  have n4 := fun s => fdN (Nat.le_refl 4) s
  have n8 : (numR (numR (numR s 4).2 4).2 8).1.toNat < 18446744073709551616 := by have := numR_bd (numR (numR s 4).2 4).2 8 (by decide); omega
  unfold fitC calOk calZero
  dsimp only
  refine ⟨by omega, n4 _, n8, by omega, by decide, by decide, by decide, by decide, by decide, by decide⟩
theorem calOk_pass (s : RS) : calOk (passR s).2.1 := by
  unfold passR
  split
  · exact calOk_fit s
  · split
    · exact calOk_fit s
    · exact calOk_rest _ (calOk_fit s) kNone
/-- what Get answers -/
def GetAns (x : CallX × Int) (w : World) (e : Ending) (w' : World) : Prop := ∃ v, e = .returned (.tuple #[.agg (calCells x.1 v).toArray, .int .i64 x.2]) ∧ CalV w' (w.heap.size ≤ ·) x.1 v ∧ Below w.heap.size w w'
theorem calZ_v (w : World) (F : Nat → Prop) : CalV w F calZero (.slice none 0 0) := ⟨BsV.nil _ _, calOk_zero⟩
set_option maxHeartbeats 16000000 in
theorem Get_v (l : List UInt8) (A : Option Addr) (cp : Nat) (w : World) (hl : l.length ≤ 140737488355328) (hr : Rd w A l) (hA : A = none → l = [] ∧ cp = 0) (hT : Tabs w) :
    Calls Tryd.prog 9 #[.slice A l.length cp] w fun e w' => GetAns (getX l) w e w' := by
  have hinfo : (Tryd.prog.info? 28).map (·.size) = some (calCells calZero (.slice none 0 0)).length := infoCall
  by_cases h : 4096 < l.length
  · have hx : getX l = (calZero, 3) := by unfold getX; rw [if_pos h]
    rw [hx]
    have h' : 4096 < (l.length : Int) := by omega
    clear hx hr hA hl
    go_enter Tryd.func9, Tryd.ntmps9
    go_wp2_with fail
    exact cal_end (cs := calCells calZero (.slice none 0 0)) rfl rfl (Cs.new w _ _) rfl rfl ⟨_, rfl, calZ_v _ _, below_new1 w _⟩
  rw [getX_is l h]
  have h' : ¬ 4096 < (l.length : Int) := by omega
  have HT := Lib.hid hT
  have HNR := Lib.hid fun u (hb : Below w.heap.size w u) => NewReader_v l A cp u hl (hr.below hb) hA
  have HPG := Lib.hid fun (u : World) (rb cb : Nat) (F : Nat → Prop) (hs : GetS rb cb F u ⟨l, 0, 0⟩ calZero u) => pass_g hs hl
  have hres : getP l = if (passR ⟨l, 0, 0⟩).1 ≠ 0 then (calZero, (passR ⟨l, 0, 0⟩).1)
  else if endR (passR ⟨l, 0, 0⟩).2.2 ≠ 0 ∨ mayX (passR ⟨l, 0, 0⟩).2.1 = false then (calZero, 5)
  else ((passR ⟨l, 0, 0⟩).2.1, 0) := rfl
  rw [hres]
  have hok := calOk_pass ⟨l, 0, 0⟩
  generalize passR ⟨l, 0, 0⟩ = p at *
  obtain ⟨er, c1, s1⟩ := p
  dsimp only at *
  have HOK := Lib.hid hok
  clear hr hA hl hT hres hok
  by_cases he : er = 0
  case neg =>
    rw [if_pos he]
    have hne : (er != 0) = true := by simpa using he
    have heq : (er == 0) = false := by simpa using he
    clear he
    go_enter Tryd.func9, Tryd.ntmps9
    go_wp2_with fail
    refine (HNR.out _ (below_new1 w _)).mono ?_
    rintro e w1 ⟨rb, rfl, hrd, hrb, hb⟩
    have hg1 := (Cs.new w 28 (calCells calZero (.slice none 0 0)).toArray).below hb (by rw [World.size_alloc]; omega)
    have hb1 := below_chain (below_new1 w _) hb
    have hrt := hrd.tightC
    have hrlt := hrd.lt
    have hw1 : w.heap.size < w1.heap.size := hg1.lt
    have hrb1 : w.heap.size < rb := by rw [World.size_alloc] at hrb; omega
    clear hb hrb
    have HG1 := Lib.hid hg1
    have HB1 := Lib.hid hb1
    have HRT := Lib.hid hrt
    have HLT := Lib.hid (And.intro hrlt (And.intro hw1 hrb1))
    clear hg1 hb1 hrt hrlt hw1 hrb1 hrd
    go_wp2_with fail
    have hx1 := below_new1 w1 (.cells #[.pointer (some ⟨rb, 0, none⟩)] 57)
    have hx2 := below_new1 (w1.alloc (.cells #[.pointer (some ⟨rb, 0, none⟩)] 57)) (.cells (calCells calZero (.slice none 0 0)).toArray 28)
    have hxx := below_chain hx1 hx2
    have hsz : (w1.alloc (.cells #[.pointer (some ⟨rb, 0, none⟩)] 57)).heap.size = w1.heap.size + 1 := World.size_alloc _ _
    have hs2 : ((w1.alloc (.cells #[.pointer (some ⟨rb, 0, none⟩)] 57)).alloc (.cells (calCells calZero (.slice none 0 0)).toArray 28)).heap.size = w1.heap.size + 2 := by rw [World.size_alloc, hsz]
    have hcb := Cs.new (w1.alloc (.cells #[.pointer (some ⟨rb, 0, none⟩)] 57)) 28 (calCells calZero (.slice none 0 0)).toArray
    rw [hsz] at hcb
    have hbox := (Cs.new w1 57 #[.pointer (some ⟨rb, 0, none⟩)]).below hx2 (by rw [hsz]; omega)
    have hgs : GetS rb (w1.heap.size + 1) _ _ ⟨l, 0, 0⟩ calZero _ := ⟨HRT.out.below hxx, ⟨.slice none 0 0, hcb, BsV.nil _ _⟩, Turn.refl _ _, (by have := HLT.out; rw [hs2]; omega), (fun k hk => by have := hk.2; rw [hs2]; omega), Nat.le_refl _⟩
    have HPS := Lib.hid (HPG.out _ rb (w1.heap.size + 1) _ hgs)
    have HXX := Lib.hid (below_chain HB1.out hxx)
    have HG2 := Lib.hid (HG1.out.below hxx HG1.out.lt)
    have HBX := Lib.hid hbox
    have HSZ := Lib.hid hs2
    clear hx1 hx2 hxx hcb hbox hgs hs2 hsz
    refine HPS.out.mono ?_
    rintro e w2 ⟨rfl, hs⟩
    have hkb := hs.other HBX.out (by have := HLT.out; omega) (by omega)
    have kb : w2.cell? ⟨w1.heap.size, 0, none⟩ = some (.pointer (some ⟨rb, 0, none⟩)) := hkb.cell 0 rfl
    have HG3 := Lib.hid (hs.other HG2.out (by have := HLT.out; omega) (by have := HLT.out; omega))
    have HB3 := Lib.hid (HXX.out.trans (hs.2.2.1.below HXX.out.size fun k hk => by have := HLT.out; rcases hk with hk | hk <;> omega))
    have HS3 := Lib.hid hs
    clear hs hkb
    go_wp2_with (first
      | ((with_reducible show wpList _ _ _ _ _ w2); refine wpList_storeS rfl 28 _ _ rfl w.heap.size rfl (calCells calZero (.slice none 0 0)) (calCells calZero (.slice none 0 0)) rfl HG3.out rfl (cal_one rfl) infoCall ?_; intro w9 hk9 ht9; go_frame; have C9 := Lib.hid hk9; have B9 := Lib.hid (HB3.out.trans (ht9.below HB3.out.size fun k e => Nat.le_of_eq e.symm)); have T9 := Lib.hid ht9; clear hk9 ht9)
      | fail)
    exact cal_end (cs := (calCells calZero (.slice none 0 0))) rfl rfl C9.out rfl rfl ⟨_, rfl, calZ_v _ _, B9.out⟩
  subst he
  rw [if_neg (by decide)]
  by_cases he : endR s1 = 0
  case neg =>
    rw [if_pos (.inl he)]
    obtain ⟨en, hen⟩ : ∃ en, endR s1 = en := ⟨_, rfl⟩
    rw [hen] at he
    have hne : (en != 0) = true := by simpa using he
    have heq : (en == 0) = false := by simpa using he
    have HE := Lib.hid hen
    clear he hen
    go_enter Tryd.func9, Tryd.ntmps9
    go_wp2_with fail
    refine (HNR.out _ (below_new1 w _)).mono ?_
    rintro e w1 ⟨rb, rfl, hrd, hrb, hb⟩
    have hg1 := (Cs.new w 28 (calCells calZero (.slice none 0 0)).toArray).below hb (by rw [World.size_alloc]; omega)
    have hb1 := below_chain (below_new1 w _) hb
    have hrt := hrd.tightC
    have hrlt := hrd.lt
    have hw1 : w.heap.size < w1.heap.size := hg1.lt
    have hrb1 : w.heap.size < rb := by rw [World.size_alloc] at hrb; omega
    clear hb hrb
    have HG1 := Lib.hid hg1
    have HB1 := Lib.hid hb1
    have HRT := Lib.hid hrt
    have HLT := Lib.hid (And.intro hrlt (And.intro hw1 hrb1))
    clear hg1 hb1 hrt hrlt hw1 hrb1 hrd
    go_wp2_with fail
    have hx1 := below_new1 w1 (.cells #[.pointer (some ⟨rb, 0, none⟩)] 57)
    have hx2 := below_new1 (w1.alloc (.cells #[.pointer (some ⟨rb, 0, none⟩)] 57)) (.cells (calCells calZero (.slice none 0 0)).toArray 28)
    have hxx := below_chain hx1 hx2
    have hsz : (w1.alloc (.cells #[.pointer (some ⟨rb, 0, none⟩)] 57)).heap.size = w1.heap.size + 1 := World.size_alloc _ _
    have hs2 : ((w1.alloc (.cells #[.pointer (some ⟨rb, 0, none⟩)] 57)).alloc (.cells (calCells calZero (.slice none 0 0)).toArray 28)).heap.size = w1.heap.size + 2 := by rw [World.size_alloc, hsz]
    have hcb := Cs.new (w1.alloc (.cells #[.pointer (some ⟨rb, 0, none⟩)] 57)) 28 (calCells calZero (.slice none 0 0)).toArray
    rw [hsz] at hcb
    have hbox := (Cs.new w1 57 #[.pointer (some ⟨rb, 0, none⟩)]).below hx2 (by rw [hsz]; omega)
    have hgs : GetS rb (w1.heap.size + 1) _ _ ⟨l, 0, 0⟩ calZero _ := ⟨HRT.out.below hxx, ⟨.slice none 0 0, hcb, BsV.nil _ _⟩, Turn.refl _ _, (by have := HLT.out; rw [hs2]; omega), (fun k hk => by have := hk.2; rw [hs2]; omega), Nat.le_refl _⟩
    have HPS := Lib.hid (HPG.out _ rb (w1.heap.size + 1) _ hgs)
    have HXX := Lib.hid (below_chain HB1.out hxx)
    have HG2 := Lib.hid (HG1.out.below hxx HG1.out.lt)
    have HBX := Lib.hid hbox
    have HSZ := Lib.hid hs2
    clear hx1 hx2 hxx hcb hbox hgs hs2 hsz
    refine HPS.out.mono ?_
    rintro e w2 ⟨rfl, hs⟩
    have hkb := hs.other HBX.out (by have := HLT.out; omega) (by omega)
    have kb : w2.cell? ⟨w1.heap.size, 0, none⟩ = some (.pointer (some ⟨rb, 0, none⟩)) := hkb.cell 0 rfl
    have HG3 := Lib.hid (hs.other HG2.out (by have := HLT.out; omega) (by have := HLT.out; omega))
    have HB3 := Lib.hid (HXX.out.trans (hs.2.2.1.below HXX.out.size fun k hk => by have := HLT.out; rcases hk with hk | hk <;> omega))
    have HS3 := Lib.hid hs
    clear hs hkb
    have HEN := Lib.hid (End_r HS3.out.1)
    rw [HE.out] at HEN
    go_wp2_with fail
    refine HEN.out.mono ?_
    rintro e w3 ⟨rfl, hb⟩
    have HG4 := Lib.hid (HG3.out.below hb HG3.out.lt)
    have HB4 := Lib.hid (below_chain HB3.out hb)
    have HS4 := Lib.hid (HS3.out.below hb)
    clear hb
    go_wp2_with (first
      | ((with_reducible show wpList _ _ _ _ _ w3); refine wpList_storeS rfl 28 _ _ rfl w.heap.size rfl (calCells calZero (.slice none 0 0)) (calCells calZero (.slice none 0 0)) rfl HG4.out rfl (cal_one rfl) infoCall ?_; intro w9 hk9 ht9; go_frame; have C9 := Lib.hid hk9; have B9 := Lib.hid (HB4.out.trans (ht9.below HB4.out.size fun k e => Nat.le_of_eq e.symm)); have T9 := Lib.hid ht9; clear hk9 ht9)
      | fail)
    exact cal_end (cs := (calCells calZero (.slice none 0 0))) rfl rfl C9.out rfl rfl ⟨_, rfl, calZ_v _ _, B9.out⟩
  have HE := Lib.hid he
  rcases hm : mayX c1 with _ | _
  · rw [if_pos (.inr rfl)]
    have HM := Lib.hid hm
    clear hm he
    go_enter Tryd.func9, Tryd.ntmps9
    go_wp2_with fail
    refine (HNR.out _ (below_new1 w _)).mono ?_
    rintro e w1 ⟨rb, rfl, hrd, hrb, hb⟩
    have hg1 := (Cs.new w 28 (calCells calZero (.slice none 0 0)).toArray).below hb (by rw [World.size_alloc]; omega)
    have hb1 := below_chain (below_new1 w _) hb
    have hrt := hrd.tightC
    have hrlt := hrd.lt
    have hw1 : w.heap.size < w1.heap.size := hg1.lt
    have hrb1 : w.heap.size < rb := by rw [World.size_alloc] at hrb; omega
    clear hb hrb
    have HG1 := Lib.hid hg1
    have HB1 := Lib.hid hb1
    have HRT := Lib.hid hrt
    have HLT := Lib.hid (And.intro hrlt (And.intro hw1 hrb1))
    clear hg1 hb1 hrt hrlt hw1 hrb1 hrd
    go_wp2_with fail
    have hx1 := below_new1 w1 (.cells #[.pointer (some ⟨rb, 0, none⟩)] 57)
    have hx2 := below_new1 (w1.alloc (.cells #[.pointer (some ⟨rb, 0, none⟩)] 57)) (.cells (calCells calZero (.slice none 0 0)).toArray 28)
    have hxx := below_chain hx1 hx2
    have hsz : (w1.alloc (.cells #[.pointer (some ⟨rb, 0, none⟩)] 57)).heap.size = w1.heap.size + 1 := World.size_alloc _ _
    have hs2 : ((w1.alloc (.cells #[.pointer (some ⟨rb, 0, none⟩)] 57)).alloc (.cells (calCells calZero (.slice none 0 0)).toArray 28)).heap.size = w1.heap.size + 2 := by rw [World.size_alloc, hsz]
    have hcb := Cs.new (w1.alloc (.cells #[.pointer (some ⟨rb, 0, none⟩)] 57)) 28 (calCells calZero (.slice none 0 0)).toArray
    rw [hsz] at hcb
    have hbox := (Cs.new w1 57 #[.pointer (some ⟨rb, 0, none⟩)]).below hx2 (by rw [hsz]; omega)
    have hgs : GetS rb (w1.heap.size + 1) _ _ ⟨l, 0, 0⟩ calZero _ := ⟨HRT.out.below hxx, ⟨.slice none 0 0, hcb, BsV.nil _ _⟩, Turn.refl _ _, (by have := HLT.out; rw [hs2]; omega), (fun k hk => by have := hk.2; rw [hs2]; omega), Nat.le_refl _⟩
    have HPS := Lib.hid (HPG.out _ rb (w1.heap.size + 1) _ hgs)
    have HXX := Lib.hid (below_chain HB1.out hxx)
    have HG2 := Lib.hid (HG1.out.below hxx HG1.out.lt)
    have HBX := Lib.hid hbox
    have HSZ := Lib.hid hs2
    clear hx1 hx2 hxx hcb hbox hgs hs2 hsz
    refine HPS.out.mono ?_
    rintro e w2 ⟨rfl, hs⟩
    have hkb := hs.other HBX.out (by have := HLT.out; omega) (by omega)
    have kb : w2.cell? ⟨w1.heap.size, 0, none⟩ = some (.pointer (some ⟨rb, 0, none⟩)) := hkb.cell 0 rfl
    have HG3 := Lib.hid (hs.other HG2.out (by have := HLT.out; omega) (by have := HLT.out; omega))
    have HB3 := Lib.hid (HXX.out.trans (hs.2.2.1.below HXX.out.size fun k hk => by have := HLT.out; rcases hk with hk | hk <;> omega))
    have HS3 := Lib.hid hs
    clear hs hkb
    have HEN := Lib.hid (End_r HS3.out.1)
    rw [HE.out] at HEN
    go_wp2_with fail
    refine HEN.out.mono ?_
    rintro e w3 ⟨rfl, hb⟩
    have HG4 := Lib.hid (HG3.out.below hb HG3.out.lt)
    have HB4 := Lib.hid (below_chain HB3.out hb)
    have HS4 := Lib.hid (HS3.out.below hb)
    clear hb
    obtain ⟨u, hc, hv⟩ := HS4.out.2.1
    obtain ⟨A1, c2, rfl, -⟩ := id hv
    obtain ⟨p0, p1, p2, p3, p4, p5, p6, p7, p8, p9, p10, p11, p12⟩ := Cs.cal hc
    have HC4 := Lib.hid hc
    have HV4 := Lib.hid hv
    have HMY := Lib.hid (May_v (c := c1) ⟨hv, HOK.out⟩ (HT.out.below HB4.out))
    rw [HM.out] at HMY
    clear hc hv
    go_wp2_with fail
    refine HMY.out.mono ?_
    rintro e w4 ⟨rfl, hb⟩
    have HG5 := Lib.hid (HG4.out.below hb HG4.out.lt)
    have HB5 := Lib.hid (below_chain HB4.out hb)
    have HC5 := Lib.hid (HC4.out.below hb HC4.out.lt)
    have HV5 := Lib.hid (HV4.out.below hb)
    clear hb p0 p1 p2 p3 p4 p5 p6 p7 p8 p9 p10 p11 p12
    go_wp2_with (first
      | ((with_reducible show wpList _ _ _ _ _ w4); refine wpList_storeS rfl 28 _ _ rfl w.heap.size rfl (calCells calZero (.slice none 0 0)) (calCells calZero (.slice none 0 0)) rfl HG5.out rfl (cal_one rfl) infoCall ?_; intro w9 hk9 ht9; go_frame; have C9 := Lib.hid hk9; have B9 := Lib.hid (HB5.out.trans (ht9.below HB5.out.size fun k e => Nat.le_of_eq e.symm)); have T9 := Lib.hid ht9; clear hk9 ht9)
      | fail)
    exact cal_end (cs := (calCells calZero (.slice none 0 0))) rfl rfl C9.out rfl rfl ⟨_, rfl, calZ_v _ _, B9.out⟩
  · rw [if_neg (by rw [he]; decide)]
    have HM := Lib.hid hm
    clear hm he
    go_enter Tryd.func9, Tryd.ntmps9
    go_wp2_with fail
    refine (HNR.out _ (below_new1 w _)).mono ?_
    rintro e w1 ⟨rb, rfl, hrd, hrb, hb⟩
    have hg1 := (Cs.new w 28 (calCells calZero (.slice none 0 0)).toArray).below hb (by rw [World.size_alloc]; omega)
    have hb1 := below_chain (below_new1 w _) hb
    have hrt := hrd.tightC
    have hrlt := hrd.lt
    have hw1 : w.heap.size < w1.heap.size := hg1.lt
    have hrb1 : w.heap.size < rb := by rw [World.size_alloc] at hrb; omega
    clear hb hrb
    have HG1 := Lib.hid hg1
    have HB1 := Lib.hid hb1
    have HRT := Lib.hid hrt
    have HLT := Lib.hid (And.intro hrlt (And.intro hw1 hrb1))
    clear hg1 hb1 hrt hrlt hw1 hrb1 hrd
    go_wp2_with fail
    have hx1 := below_new1 w1 (.cells #[.pointer (some ⟨rb, 0, none⟩)] 57)
    have hx2 := below_new1 (w1.alloc (.cells #[.pointer (some ⟨rb, 0, none⟩)] 57)) (.cells (calCells calZero (.slice none 0 0)).toArray 28)
    have hxx := below_chain hx1 hx2
    have hsz : (w1.alloc (.cells #[.pointer (some ⟨rb, 0, none⟩)] 57)).heap.size = w1.heap.size + 1 := World.size_alloc _ _
    have hs2 : ((w1.alloc (.cells #[.pointer (some ⟨rb, 0, none⟩)] 57)).alloc (.cells (calCells calZero (.slice none 0 0)).toArray 28)).heap.size = w1.heap.size + 2 := by rw [World.size_alloc, hsz]
    have hcb := Cs.new (w1.alloc (.cells #[.pointer (some ⟨rb, 0, none⟩)] 57)) 28 (calCells calZero (.slice none 0 0)).toArray
    rw [hsz] at hcb
    have hbox := (Cs.new w1 57 #[.pointer (some ⟨rb, 0, none⟩)]).below hx2 (by rw [hsz]; omega)
    have hgs : GetS rb (w1.heap.size + 1) _ _ ⟨l, 0, 0⟩ calZero _ := ⟨HRT.out.below hxx, ⟨.slice none 0 0, hcb, BsV.nil _ _⟩, Turn.refl _ _, (by have := HLT.out; rw [hs2]; omega), (fun k hk => by have := hk.2; rw [hs2]; omega), Nat.le_refl _⟩
    have HPS := Lib.hid (HPG.out _ rb (w1.heap.size + 1) _ hgs)
    have HXX := Lib.hid (below_chain HB1.out hxx)
    have HG2 := Lib.hid (HG1.out.below hxx HG1.out.lt)
    have HBX := Lib.hid hbox
    have HSZ := Lib.hid hs2
    clear hx1 hx2 hxx hcb hbox hgs hs2 hsz
    refine HPS.out.mono ?_
    rintro e w2 ⟨rfl, hs⟩
    have hkb := hs.other HBX.out (by have := HLT.out; omega) (by omega)
    have kb : w2.cell? ⟨w1.heap.size, 0, none⟩ = some (.pointer (some ⟨rb, 0, none⟩)) := hkb.cell 0 rfl
    have HG3 := Lib.hid (hs.other HG2.out (by have := HLT.out; omega) (by have := HLT.out; omega))
    have HB3 := Lib.hid (HXX.out.trans (hs.2.2.1.below HXX.out.size fun k hk => by have := HLT.out; rcases hk with hk | hk <;> omega))
    have HS3 := Lib.hid hs
    clear hs hkb
    have HEN := Lib.hid (End_r HS3.out.1)
    rw [HE.out] at HEN
    go_wp2_with fail
    refine HEN.out.mono ?_
    rintro e w3 ⟨rfl, hb⟩
    have HG4 := Lib.hid (HG3.out.below hb HG3.out.lt)
    have HB4 := Lib.hid (below_chain HB3.out hb)
    have HS4 := Lib.hid (HS3.out.below hb)
    clear hb
    obtain ⟨u, hc, hv⟩ := HS4.out.2.1
    obtain ⟨A1, c2, rfl, -⟩ := id hv
    obtain ⟨p0, p1, p2, p3, p4, p5, p6, p7, p8, p9, p10, p11, p12⟩ := Cs.cal hc
    have HC4 := Lib.hid hc
    have HV4 := Lib.hid hv
    have HMY := Lib.hid (May_v (c := c1) ⟨hv, HOK.out⟩ (HT.out.below HB4.out))
    rw [HM.out] at HMY
    clear hc hv
    go_wp2_with fail
    refine HMY.out.mono ?_
    rintro e w4 ⟨rfl, hb⟩
    have HG5 := Lib.hid (HG4.out.below hb HG4.out.lt)
    have HB5 := Lib.hid (below_chain HB4.out hb)
    have HC5 := Lib.hid (HC4.out.below hb HC4.out.lt)
    have HV5 := Lib.hid (HV4.out.below hb)
    clear hb p0 p1 p2 p3 p4 p5 p6 p7 p8 p9 p10 p11 p12
    go_wp2_with (first
      | ((with_reducible show wpList _ _ _ _ _ w4); refine wpList_loadS rfl 28 _ rfl (w1.heap.size + 1) rfl (calCells c1 (.slice A1 c1.data.length c2)) HC5.out _ Tryd.underlying28 rfl infoCall ?_; go_frame)
      | ((with_reducible show wpList _ _ _ _ _ w4); refine wpList_storeS rfl 28 _ _ rfl w.heap.size rfl (calCells c1 (.slice A1 c1.data.length c2)) (calCells calZero (.slice none 0 0)) rfl HG5.out rfl (cal_one rfl) infoCall ?_; intro w9 hk9 ht9; go_frame; have C9 := Lib.hid hk9; have B9 := Lib.hid (HB5.out.trans (ht9.below HB5.out.size fun k e => Nat.le_of_eq e.symm)); have T9 := Lib.hid ht9; clear hk9 ht9)
      | fail)
    have hv := HV5.out.turn T9.out (fun k hk e => by have := HSZ.out; have := HLT.out; omega)
    exact cal_end (cs := (calCells c1 (.slice A1 c1.data.length c2))) rfl rfl C9.out rfl rfl ⟨_, rfl, ⟨hv.mono fun k _ hk => by have := HSZ.out; have := HLT.out; omega, HOK.out⟩, B9.out⟩

end Go.Proofs.YthfaemcpheecfaaDoor
