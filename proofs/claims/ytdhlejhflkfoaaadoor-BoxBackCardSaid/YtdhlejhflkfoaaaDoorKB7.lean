/- SWEPT -/
import Derived.Test.YtdhlejhflkfoaaaDoorKB6
import Derived.Test.YtdhlejhflkfoaaaDoorKB2
import Derived.Test.YtdhlejhflkfoaaaDoorKB1
import Derived.Lib.AppendZerosOnto
import Derived.Lib.Overlaps
import Derived.Test.YtdhlejhflkfoaaaDoorKB5
import Derived.Test.YtdhlejhflkfoaaaDoorKB3
import Derived.ArgAppend
import Derived.Carry
import Derived.Deep.LoopGhost
import Derived.Maps.OwnSet
/- The program: a loader reads the row of the rest. -/
namespace Go.Proofs.YtdhlejhflkfoaaaDoor
open Go.RowKit Go.Shelf
set_option linter.unusedVariables false
set_option maxRecDepth 100000
set_option linter.unusedSimpArgs false

theorem infoU32L : (Tryd.prog.info? 23).map (·.size) = some 1 := by kernel_rfl

theorem kept_rdr (w : World) (F : Nat → Prop) (L o : Nat) (cur : Array Value) (l : List UInt8) : Kept (fun z => RdrAt z F L o cur l ∧ Turn w z (· = L)) := fun a b h hb => ⟨h.1.below hb, h.2.trans (Turn.of_below hb _) fun _ _ h => h⟩
theorem kept_ldr (w : World) (L : Nat) (cur : Array Value) : Kept (fun z => Cs z L 64 cur ∧ Turn w z (· = L)) := fun a b h hb => ⟨h.1.below hb h.1.lt, h.2.trans (Turn.of_below hb _) fun _ _ h => h⟩
/-- what it leaves: three numbers; what else there is stays, but for the readers -/
structure RestI (cur cur' : Array Value) (a b c : Nat) : Prop where
  size : cur'.size = cur.size
  c1 : cur'[1]? = some (.int .u32 (a : Int))
  c2 : cur'[2]? = some (.int .u32 (b : Int))
  c3 : cur'[3]? = some (.int .u32 (c : Int))
  same : ∀ i, i ≠ 1 → i ≠ 2 → i ≠ 3 → i ≠ 17 → cur'[i]? = cur[i]?
set_option maxHeartbeats 16000000 in
theorem rest_v (L : Nat) (cur : Array Value) (val : List UInt8) (F : Nat → Prop) (w : World) (h : RdrAt w F L 17 cur val) (hs : cur.size = 18) :
    Calls Tryd.prog 58 #[.pointer (some ⟨L, 0, none⟩)] w fun e w' => e = .returned (.tuple #[]) ∧ ∃ cur', Cs w' L 64 cur' ∧ RestI cur cur' (numD val 4) (numD (val.drop 4) 4) (numD (val.drop 8) 4) ∧ Turn w w' (· = L) := by
  have hmix : Tryd.prog.follows .mixedOrders = true := by kernel_rfl
  have HR := Lib.hid h
  have HS := Lib.hid hs
  clear h hs
  go_enter Tryd.func58, Tryd.ntmps58
  go_wp2_with fail
  refine wp_region_V [6, 10, 14, 18, 22, 26] (fun z => RdrAt z F L 17 cur val ∧ Turn w z (· = L)) hmix ⟨HR.out.below ((Below.refl _ _).drew), Turn.of_below ((Below.refl _ _).drew) _⟩ ?_
  change wpAnyV _ _ _ _ _ _ _ _ _
  refine wpAnyV_pure (i := 0) (v := .pointer (some ⟨L, 0, none⟩)) (kept_rdr _ _ _ _ _ _) rfl (by kernel_rfl) (by kernel_rfl) (fun _ _ _ h => h) (DoesV.reads (by rfl) fun w9 hS => by go_simp) ?_
  try simp only [nrm, Act.put]
  refine wpAnyV_pure (i := 1) (v := .pointer (some ⟨L, 0, none⟩)) (kept_rdr _ _ _ _ _ _) rfl (by kernel_rfl) (by kernel_rfl) (fun _ _ _ h => h) (DoesV.reads (by rfl) fun w9 hS => by go_simp) ?_
  try simp only [nrm, Act.put]
  refine wpAnyV_pure (i := 2) (v := .pointer (some ⟨L, 0, none⟩)) (kept_rdr _ _ _ _ _ _) rfl (by kernel_rfl) (by kernel_rfl) (fun _ _ _ h => h) (DoesV.reads (by rfl) fun w9 hS => by go_simp) ?_
  try simp only [nrm, Act.put]
  refine wpAnyV_pure (i := 3) (v := .pointer (some ⟨L, 0, none⟩)) (kept_rdr _ _ _ _ _ _) rfl (by kernel_rfl) (by kernel_rfl) (fun _ _ _ h => h) (DoesV.reads (by rfl) fun w9 hS => by go_simp) ?_
  try simp only [nrm, Act.put]
  refine wpAnyV_pure (i := 4) (v := .pointer (some ⟨L, 0, none⟩)) (kept_rdr _ _ _ _ _ _) rfl (by kernel_rfl) (by kernel_rfl) (fun _ _ _ h => h) (DoesV.reads (by rfl) fun w9 hS => by go_simp) ?_
  try simp only [nrm, Act.put]
  refine wpAnyV_pure (i := 5) (v := .pointer (some ⟨L, 17, none⟩)) (kept_rdr _ _ _ _ _ _) rfl (by kernel_rfl) (by kernel_rfl) (fun _ _ _ h => h) (DoesV.reads (by rfl) fun w9 hS => by go_simp) ?_
  try simp only [nrm, Act.put]
  refine wpAnyV_pure (i := 7) (v := .pointer (some ⟨L, 0, none⟩)) (kept_rdr _ _ _ _ _ _) rfl (by kernel_rfl) (by kernel_rfl) (fun _ _ _ h => h) (DoesV.reads (by rfl) fun w9 hS => by go_simp) ?_
  try simp only [nrm, Act.put]
  refine wpAnyV_pure (i := 8) (v := .pointer (some ⟨L, 0, none⟩)) (kept_rdr _ _ _ _ _ _) rfl (by kernel_rfl) (by kernel_rfl) (fun _ _ _ h => h) (DoesV.reads (by rfl) fun w9 hS => by go_simp) ?_
  try simp only [nrm, Act.put]
  refine wpAnyV_pure (i := 9) (v := .pointer (some ⟨L, 17, none⟩)) (kept_rdr _ _ _ _ _ _) rfl (by kernel_rfl) (by kernel_rfl) (fun _ _ _ h => h) (DoesV.reads (by rfl) fun w9 hS => by go_simp) ?_
  try simp only [nrm, Act.put]
  refine wpAnyV_pure (i := 11) (v := .pointer (some ⟨L, 0, none⟩)) (kept_rdr _ _ _ _ _ _) rfl (by kernel_rfl) (by kernel_rfl) (fun _ _ _ h => h) (DoesV.reads (by rfl) fun w9 hS => by go_simp) ?_
  try simp only [nrm, Act.put]
  refine wpAnyV_pure (i := 12) (v := .pointer (some ⟨L, 0, none⟩)) (kept_rdr _ _ _ _ _ _) rfl (by kernel_rfl) (by kernel_rfl) (fun _ _ _ h => h) (DoesV.reads (by rfl) fun w9 hS => by go_simp) ?_
  try simp only [nrm, Act.put]
  refine wpAnyV_pure (i := 13) (v := .pointer (some ⟨L, 17, none⟩)) (kept_rdr _ _ _ _ _ _) rfl (by kernel_rfl) (by kernel_rfl) (fun _ _ _ h => h) (DoesV.reads (by rfl) fun w9 hS => by go_simp) ?_
  try simp only [nrm, Act.put]
  refine wpAnyV_only (i := 6) rfl (by kernel_rfl) rfl (fun u hS => wp_of_call (f := 75) (args := #[.pointer (some ⟨L, 17, none⟩)]) (by go_simp) (number32_r L 17 (cur) (val) F u hS.1) fun e u' hu => ?_)
  try simp only [nrm, Act.put]
  obtain ⟨he, u0, -, hr, ht⟩ := hu
  refine ⟨_, he, fun z => RdrAt z F L 17 ((cur).setIfInBounds 17 u0) ((val).drop 4) ∧ Turn w z (· = L), ⟨hr, hS.2.trans ht fun _ _ h => h⟩, kept_rdr _ _ _ _ _ _, fun hh => absurd (by decide : (6 : Nat) ∈ [6, 10, 14, 18, 22, 26]) hh, ?_⟩
  clear hr ht he hS
  try simp only [nrm, Act.put]
  refine wpAnyV_only (i := 10) rfl (by kernel_rfl) rfl (fun u hS => wp_of_call (f := 75) (args := #[.pointer (some ⟨L, 17, none⟩)]) (by go_simp) (number32_r L 17 ((cur).setIfInBounds 17 u0) ((val).drop 4) F u hS.1) fun e u' hu => ?_)
  try simp only [nrm, Act.put]
  obtain ⟨he, u1, -, hr, ht⟩ := hu
  refine ⟨_, he, fun z => RdrAt z F L 17 (((cur).setIfInBounds 17 u0).setIfInBounds 17 u1) (((val).drop 4).drop 4) ∧ Turn w z (· = L), ⟨hr, hS.2.trans ht fun _ _ h => h⟩, kept_rdr _ _ _ _ _ _, fun hh => absurd (by decide : (10 : Nat) ∈ [6, 10, 14, 18, 22, 26]) hh, ?_⟩
  clear hr ht he hS
  try simp only [nrm, Act.put]
  refine wpAnyV_only (i := 14) rfl (by kernel_rfl) rfl (fun u hS => wp_of_call (f := 75) (args := #[.pointer (some ⟨L, 17, none⟩)]) (by go_simp) (number32_r L 17 (((cur).setIfInBounds 17 u0).setIfInBounds 17 u1) (((val).drop 4).drop 4) F u hS.1) fun e u' hu => ?_)
  try simp only [nrm, Act.put]
  obtain ⟨he, u2, -, hr, ht⟩ := hu
  refine ⟨_, he, fun z => RdrAt z F L 17 ((((cur).setIfInBounds 17 u0).setIfInBounds 17 u1).setIfInBounds 17 u2) ((((val).drop 4).drop 4).drop 4) ∧ Turn w z (· = L), ⟨hr, hS.2.trans ht fun _ _ h => h⟩, kept_rdr _ _ _ _ _ _, fun hh => absurd (by decide : (14 : Nat) ∈ [6, 10, 14, 18, 22, 26]) hh, ?_⟩
  clear hr ht he hS
  try simp only [nrm, Act.put]
  refine wpAnyV_pure (i := 15) (v := .pointer (some ⟨L, 0, none⟩)) (kept_rdr _ _ _ _ _ _) rfl (by kernel_rfl) (by kernel_rfl) (fun _ _ _ h => h) (DoesV.reads (by rfl) fun w9 hS => by go_simp) ?_
  try simp only [nrm, Act.put]
  refine wpAnyV_pure (i := 16) (v := .pointer (some ⟨L, 0, none⟩)) (kept_rdr _ _ _ _ _ _) rfl (by kernel_rfl) (by kernel_rfl) (fun _ _ _ h => h) (DoesV.reads (by rfl) fun w9 hS => by go_simp) ?_
  try simp only [nrm, Act.put]
  refine wpAnyV_pure (i := 17) (v := .pointer (some ⟨L, 1, none⟩)) (kept_rdr _ _ _ _ _ _) rfl (by kernel_rfl) (by kernel_rfl) (fun _ _ _ h => h) (DoesV.reads (by rfl) fun w9 hS => by go_simp) ?_
  try simp only [nrm, Act.put]
  refine wpAnyV_only (i := 18) rfl (by kernel_rfl) rfl (fun u hS => wp_store1 23 _ _ rfl L 1 rfl (.int .u32 (numD val 4 : Int)) rfl rfl infoU32L 64 ((((cur).setIfInBounds 17 u0).setIfInBounds 17 u1).setIfInBounds 17 u2) hS.1.blk (by simp [HS.out]) fun u' hk ht => ⟨fun z => Cs z L 64 (((((cur).setIfInBounds 17 u0).setIfInBounds 17 u1).setIfInBounds 17 u2).setIfInBounds 1 (.int .u32 (numD val 4 : Int))) ∧ Turn w z (· = L), ⟨hk, hS.2.trans ht fun _ _ h => h⟩, kept_ldr _ _ _, fun hh => absurd (by decide : (18 : Nat) ∈ [6, 10, 14, 18, 22, 26]) hh, ?_⟩)
  try simp only [nrm, Act.put]
  refine wpAnyV_pure (i := 19) (v := .pointer (some ⟨L, 0, none⟩)) (kept_ldr _ _ _) rfl (by kernel_rfl) (by kernel_rfl) (fun _ _ _ h => h) (DoesV.reads (by rfl) fun w9 hS => by go_simp) ?_
  try simp only [nrm, Act.put]
  refine wpAnyV_pure (i := 20) (v := .pointer (some ⟨L, 0, none⟩)) (kept_ldr _ _ _) rfl (by kernel_rfl) (by kernel_rfl) (fun _ _ _ h => h) (DoesV.reads (by rfl) fun w9 hS => by go_simp) ?_
  try simp only [nrm, Act.put]
  refine wpAnyV_pure (i := 21) (v := .pointer (some ⟨L, 2, none⟩)) (kept_ldr _ _ _) rfl (by kernel_rfl) (by kernel_rfl) (fun _ _ _ h => h) (DoesV.reads (by rfl) fun w9 hS => by go_simp) ?_
  try simp only [nrm, Act.put]
  refine wpAnyV_only (i := 22) rfl (by kernel_rfl) rfl (fun u hS => wp_store1 23 _ _ rfl L 2 rfl (.int .u32 (numD ((val).drop 4) 4 : Int)) rfl rfl infoU32L 64 (((((cur).setIfInBounds 17 u0).setIfInBounds 17 u1).setIfInBounds 17 u2).setIfInBounds 1 (.int .u32 (numD val 4 : Int))) hS.1 (by simp [HS.out]) fun u' hk ht => ⟨fun z => Cs z L 64 ((((((cur).setIfInBounds 17 u0).setIfInBounds 17 u1).setIfInBounds 17 u2).setIfInBounds 1 (.int .u32 (numD val 4 : Int))).setIfInBounds 2 (.int .u32 (numD ((val).drop 4) 4 : Int))) ∧ Turn w z (· = L), ⟨hk, hS.2.trans ht fun _ _ h => h⟩, kept_ldr _ _ _, fun hh => absurd (by decide : (22 : Nat) ∈ [6, 10, 14, 18, 22, 26]) hh, ?_⟩)
  try simp only [nrm, Act.put]
  refine wpAnyV_pure (i := 23) (v := .pointer (some ⟨L, 0, none⟩)) (kept_ldr _ _ _) rfl (by kernel_rfl) (by kernel_rfl) (fun _ _ _ h => h) (DoesV.reads (by rfl) fun w9 hS => by go_simp) ?_
  try simp only [nrm, Act.put]
  refine wpAnyV_pure (i := 24) (v := .pointer (some ⟨L, 0, none⟩)) (kept_ldr _ _ _) rfl (by kernel_rfl) (by kernel_rfl) (fun _ _ _ h => h) (DoesV.reads (by rfl) fun w9 hS => by go_simp) ?_
  try simp only [nrm, Act.put]
  refine wpAnyV_pure (i := 25) (v := .pointer (some ⟨L, 3, none⟩)) (kept_ldr _ _ _) rfl (by kernel_rfl) (by kernel_rfl) (fun _ _ _ h => h) (DoesV.reads (by rfl) fun w9 hS => by go_simp) ?_
  try simp only [nrm, Act.put]
  refine wpAnyV_only (i := 26) rfl (by kernel_rfl) rfl (fun u hS => wp_store1 23 _ _ rfl L 3 rfl (.int .u32 (numD (((val).drop 4).drop 4) 4 : Int)) rfl rfl infoU32L 64 ((((((cur).setIfInBounds 17 u0).setIfInBounds 17 u1).setIfInBounds 17 u2).setIfInBounds 1 (.int .u32 (numD val 4 : Int))).setIfInBounds 2 (.int .u32 (numD ((val).drop 4) 4 : Int))) hS.1 (by simp [HS.out]) fun u' hk ht => ⟨fun z => Cs z L 64 (((((((cur).setIfInBounds 17 u0).setIfInBounds 17 u1).setIfInBounds 17 u2).setIfInBounds 1 (.int .u32 (numD val 4 : Int))).setIfInBounds 2 (.int .u32 (numD ((val).drop 4) 4 : Int))).setIfInBounds 3 (.int .u32 (numD (((val).drop 4).drop 4) 4 : Int))) ∧ Turn w z (· = L), ⟨hk, hS.2.trans ht fun _ _ h => h⟩, kept_ldr _ _ _, fun hh => absurd (by decide : (26 : Nat) ∈ [6, 10, 14, 18, 22, 26]) hh, ?_⟩)
  try simp only [nrm, Act.put]
  refine wpAnyV_done (by kernel_rfl) (fun wz hz => ?_) _
  have CZ := Lib.hid hz.1
  have TZ := Lib.hid hz.2
  clear hz
  go_wp2_with fail
  first
    | (refine bodyPost_ret (results_none rfl _ _ _) rfl ?_)
    | go_end0
  have e1 : ((val.drop 4).drop 4) = val.drop 8 := by rw [List.drop_drop]
  refine ⟨rfl, _, CZ.out, ⟨by simp only [Array.size_setIfInBounds], ?_, ?_, ?_, fun i h1 h2 h3 h4 => ?_⟩, TZ.out⟩
  · rw [Array.getElem?_setIfInBounds_ne (by decide), Array.getElem?_setIfInBounds_ne (by decide), Array.getElem?_setIfInBounds_self_of_lt (by simp [HS.out])]
  · rw [Array.getElem?_setIfInBounds_ne (by decide), Array.getElem?_setIfInBounds_self_of_lt (by simp [HS.out])]
  · rw [Array.getElem?_setIfInBounds_self_of_lt (by simp [HS.out]), e1]
  · rw [Array.getElem?_setIfInBounds_ne (Ne.symm h3), Array.getElem?_setIfInBounds_ne (Ne.symm h2), Array.getElem?_setIfInBounds_ne (Ne.symm h1), Array.getElem?_setIfInBounds_ne (Ne.symm h4), Array.getElem?_setIfInBounds_ne (Ne.symm h4), Array.getElem?_setIfInBounds_ne (Ne.symm h4)]

end Go.Proofs.YtdhlejhflkfoaaaDoor
/- A tree as rows, plain: how a node, a session, the rest are laid; what a whole tree's rows are. -/
namespace Go.Proofs.YtdhlejhflkfoaaaDoor
open Go.RowKit Go.Shelf
set_option linter.unusedVariables false
set_option maxRecDepth 100000
set_option linter.unusedSimpArgs false

abbrev Ses := Nat × Nat × List UInt8
def entV (e : Ent) : List UInt8 := beL (e.1.length : Int) 1 ++ e.1 ++ beL (e.2 : Int) 4
def dirN (b : Bool) : Nat := if b then 1 else 0
def nodH (n : Nd) : List UInt8 := beL (n.gen : Int) 4 ++ beL (dirN n.dir : Int) 1 ++ beL (n.chg : Int) 8 ++ n.data
def nodV (n : Nd) : List UInt8 := nodH n ++ n.names.flatMap entV
def nodR (n : Nd) : Rw := (110 :: beL (n.ino : Int) 4, nodV n)
def sesV (s : Ses) : List UInt8 := beL (s.1 : Int) 4 ++ beL (s.2.1 : Int) 8 ++ s.2.2
def sesR (i : Nat) (s : Ses) : Rw := (115 :: beL (i : Int) 1, sesV s)
def sesL : Nat → List Ses → List Rw
  | _, [] => []
  | i, s :: r => (if s.1 = 0 then [] else [sesR i s]) ++ sesL (i + 1) r
def rstV (t : Tr) : List UInt8 := beL (t.lastGen : Int) 4 ++ beL (t.boot : Int) 4 ++ beL (t.count : Int) 4
def rstR (t : Tr) : Rw := ([116], rstV t)
def rowsT (t : Tr) : List Rw := t.nodes.map nodR ++ sesL 0 t.sess ++ [rstR t]
def SesOk (s : Ses) : Prop := s.2.2.length ≤ 4096 ∧ (s.1 = 0 → s.2.1 = 0 ∧ s.2.2 = [])
/-- a tree is whole -/
structure WholeT (t : Tr) : Prop where
  may : MayT t
  ses : ∀ s ∈ t.sess, SesOk s
theorem sesL_snoc : ∀ (l : List Ses) (i : Nat) (s : Ses), sesL i (l ++ [s]) = sesL i l ++ (if s.1 = 0 then [] else [sesR (i + l.length) s])
  | [], i, s => by simp [sesL]
  | x :: l, i, s => by
    rw [List.cons_append]
    unfold sesL
    rw [sesL_snoc l (i + 1) s, List.append_assoc, List.length_cons, show i + 1 + l.length = i + (l.length + 1) by omega]
theorem ent_len {e : Ent} (h : e.1.length ≤ 32) : (entV e).length ≤ 37 := by
  unfold entV
  simp [beL_length]
  omega
theorem ents_len : ∀ {l : List Ent}, (∀ e ∈ l, e.1.length ≤ 32) → (l.flatMap entV).length ≤ l.length * 37
  | [], _ => by simp
  | e :: l, h => by
    have h1 := ents_len (l := l) fun x hx => h x (List.mem_cons_of_mem _ hx)
    have h2 := ent_len (h e (by simp))
    rw [List.flatMap_cons, List.length_append, List.length_cons, Nat.succ_mul]
    omega
theorem nodH_len (n : Nd) : (nodH n).length = 13 + n.data.length := by
  unfold nodH
  simp [beL_length]
  omega

end Go.Proofs.YtdhlejhflkfoaaaDoor
/- TzAK: TzA TzB TzC TzD TzE TzF. -/
/- Memory of one's own: an element of a list anew; nodes that lie apart from one another; a tree under way. -/
namespace Go.Proofs.YtdhlejhflkfoaaaDoor
open Go.RowKit Go.Shelf
set_option linter.unusedVariables false
set_option maxRecDepth 100000
set_option linter.unusedSimpArgs false

theorem grp_far {xs : List Value} {n i j f : Nat} {u : Value} (hf : f < n) (e : i ≠ j) : ((xs.set (j * n + f) u).drop (i * n)).take n = (xs.drop (i * n)).take n := by
  rw [List.drop_set]
  split
  · rfl
  · rename_i h
    have hlt : i < j := by
      rcases Nat.lt_trichotomy i j with h1 | h1 | h1
      · exact h1
      · exact absurd h1 e
      · have := Nat.mul_le_mul_right n (show j + 1 ≤ i from h1)
        rw [Nat.succ_mul] at this
        omega
    have := Nat.mul_le_mul_right n (show i + 1 ≤ j from hlt)
    rw [Nat.succ_mul] at this
    rw [List.take_set, List.set_eq_of_length_le (by rw [List.length_take]; omega)]
theorem grp_self {xs : List Value} {n j f : Nat} {u : Value} : ((xs.set (j * n + f) u).drop (j * n)).take n = ((xs.drop (j * n)).take n).set f u := by
  rw [List.drop_set, if_neg (by omega), Nat.add_sub_cancel_left, List.take_set]
section
variable {α : Type} {E : Elem α}
theorem RowX.upd {w w' : World} {F F' : Nat → Prop} {xs xs' : List Value} {ls : List α} (h : RowX E w F xs ls) {j : Nat} (hj : j < ls.length) {y : α} (hlen : xs'.length = xs.length)
    (hx : ∀ i, i < ls.length → i ≠ j → (xs'.drop (i * E.n)).take E.n = (xs.drop (i * E.n)).take E.n)
    (ho : ∀ i (hi : i < ls.length), i ≠ j → ∀ cs, E.rd w F cs ls[i] → E.rd w' F' cs ls[i]) (hy : E.rd w' F' ((xs'.drop (j * E.n)).take E.n) y) : RowX E w' F' xs' (ls.set j y) := by
  refine ⟨by rw [hlen, h.1, List.length_set], fun i hi => ?_⟩
  have hi' := hi
  rw [List.length_set] at hi'
  by_cases e : i = j
  · subst e
    rw [List.getElem_set_self]
    exact hy
  · rw [List.getElem_set_ne (Ne.symm e), hx i hi' e]
    exact ho i hi' e _ (h.2 i hi')
/-- where a list of one's own lies -/
theorem OwnX.cur {w : World} {base g n c : Nat} {F : Nat → Prop} {ls : List α} (h : OwnX E w base F (.slice (some ⟨g, 0, none⟩) n c) ls) : ∃ cur, Cs w g E.ety cur ∧ base ≤ g ∧ n = ls.length ∧ n ≤ c ∧ c ≤ maxLen ∧ cur.size = c * E.n ∧ RowX E w (fun k => F k ∧ k ≠ g) (cur.toList.take (ls.length * E.n)) ls := by
  obtain ⟨⟨xs, h1, h2⟩, h3⟩ := h
  rcases h1.2 with ⟨h, _⟩ | ⟨g', cap, cur, hv, hb, hg, hc, hm, hs, ht⟩
  · cases h
  · cases hv
    refine ⟨cur, hg, hb, rfl, hc, hm, hs, ?_⟩
    rw [ht]
    exact h2.mono fun k _ hk => ⟨hk.1, fun e => hk.2 (by rw [e]; rfl)⟩
theorem OwnX.mk' {w : World} {base g c : Nat} {F : Nat → Prop} {ls : List α} {cur : Array Value} (hg : Cs w g E.ety cur) (hb : base ≤ g) (hF : F g) (hn : ls.length ≤ c) (hc : c ≤ maxLen) (hs : cur.size = c * E.n) (h : RowX E w (fun k => F k ∧ k ≠ g) (cur.toList.take (ls.length * E.n)) ls) : OwnX E w base F (.slice (some ⟨g, 0, none⟩) ls.length c) ls :=
  ⟨⟨_, ⟨h.1, .inr ⟨g, c, cur, rfl, hb, hg, hn, hc, hs, rfl⟩⟩, h.mono fun k _ hk => ⟨hk.1, fun e => hk.2 (by injection e with e; exact e.symm)⟩⟩, fun k hk => by cases hk; exact hF⟩
theorem OwnX.shape {w : World} {base : Nat} {F : Nat → Prop} {v : Value} {ls : List α} (h : OwnX E w base F v ls) (hne : ls ≠ []) : ∃ g c, v = .slice (some ⟨g, 0, none⟩) ls.length c ∧ base ≤ g ∧ F g := by
  obtain ⟨⟨xs, h1, h2⟩, h3⟩ := h
  rcases h1.2 with ⟨_, h0⟩ | ⟨g', cap, cur, hv, hb, r⟩
  · exact absurd (List.eq_nil_of_length_eq_zero h0) hne
  · exact ⟨g', cap, hv, hb, h3 g' (by rw [hv]; rfl)⟩
/-- a cell of an element, stored -/
theorem OwnX.setc {w w' : World} {base g n c : Nat} {F F' : Nat → Prop} {ls : List α} (h : OwnX E w base F (.slice (some ⟨g, 0, none⟩) n c) ls) {cur : Array Value} (hg : Cs w g E.ety cur) {j f : Nat} (hj : j < ls.length) (hf : f < E.n) {u : Value} {y : α}
    (hk : Cs w' g E.ety (cur.setIfInBounds (j * E.n + f) u)) (hF : F' g) (ho : ∀ i (hi : i < ls.length), i ≠ j → ∀ cs, E.rd w (fun k => F k ∧ k ≠ g) cs ls[i] → E.rd w' (fun k => F' k ∧ k ≠ g) cs ls[i])
    (hy : ∀ cs, E.rd w (fun k => F k ∧ k ≠ g) cs ls[j] → E.rd w' (fun k => F' k ∧ k ≠ g) (cs.set f u) y) : OwnX E w' base F' (.slice (some ⟨g, 0, none⟩) n c) (ls.set j y) := by
  obtain ⟨cur', k1, k2, k3, k4, k5, k6, k7⟩ := h.cur
  obtain rfl : cur' = cur := by
    have := k1.symm.trans hg
    injection this with this
    injection this
  subst k3
  have hb : j * E.n + f < ls.length * E.n := by
    have := Nat.mul_le_mul_right E.n (show j + 1 ≤ ls.length from hj)
    rw [Nat.succ_mul] at this
    omega
  have := OwnX.mk' (E := E) (w := w') (base := base) (g := g) (c := c) (F := F') (ls := ls.set j y) (cur := cur'.setIfInBounds (j * E.n + f) u) hk k2 hF (by rw [List.length_set]; exact k4) k5 (by rw [Array.size_setIfInBounds]; exact k6) (by
    rw [Array.toList_setIfInBounds, List.length_set, List.take_set]
    refine k7.upd hj (by rw [List.length_set]) (fun i _ e => grp_far hf e) ho ?_
    rw [grp_self]
    exact hy _ (k7.2 j hj))
  rw [List.length_set] at this
  exact this
theorem OwnX.ls {w : World} {base : Nat} {F : Nat → Prop} {v : Value} {ls : List α} (h : OwnX E w base F v ls) : LsV E w F v ls := by
  obtain ⟨A, c, h1, h2, h3, h4, h5⟩ := h.form
  exact ⟨A, c, h1, h2, h3, h4, h5⟩
end
/-! ### nodes of one's own -/
abbrev Sup := Nat → Prop
def NdO (w : World) (N : Nat) (F : Nat → Prop) (cs : List Value) (n : Nd) : Prop := ∃ dv nv, cs = ndC n dv nv ∧ BsV w F dv n.data ∧ OwnX entE w N F nv n.names ∧ n.ino < 4294967296 ∧ n.gen < 4294967296 ∧ n.chg < 18446744073709551616
theorem NdO.at {w : World} {N : Nat} {F : Nat → Prop} {cs : List Value} {n : Nd} (h : NdO w N F cs n) : NdAt w F cs n := by
  obtain ⟨dv, nv, h1, h2, h3, h4⟩ := h
  exact ⟨dv, nv, h1, h2, h3.ls, h4⟩
theorem NdO.turn {w w' : World} {N : Nat} {F G : Nat → Prop} {cs : List Value} {n : Nd} (h : NdO w N F cs n) (ht : Turn w w' G) (hG : ∀ k, F k → ¬ G k) : NdO w' N F cs n := by
  obtain ⟨dv, nv, h1, h2, h3, h4⟩ := h
  exact ⟨dv, nv, h1, h2.turn ht hG, h3.turn ht hG, h4⟩
theorem NdO.mono {w : World} {N : Nat} {F G : Nat → Prop} {cs : List Value} {n : Nd} (h : NdO w N F cs n) (hF : ∀ k, k < w.heap.size → F k → G k) : NdO w N G cs n := by
  obtain ⟨dv, nv, h1, h2, h3, h4⟩ := h
  exact ⟨dv, nv, h1, h2.mono hF, h3.mono hF, h4⟩
def nodeO (N : Nat) : Elem (Nd × Sup) where
  ety := 48
  sty := 22
  n := 6
  bytes := 72
  rd w F cs p := NdO w N (fun k => F k ∧ p.2 k) cs p.1
  und := Tryd.underlying22
  info := ⟨_, _, rfl, rfl, rfl, rfl, rfl⟩
  pos := by decide
  byt := by decide
  len := fun h => h.at.len
  one := fun h => h.at.one
  turn := fun h ht hG => h.turn ht fun k hk => hG k hk.1
  mono := fun h hF => h.mono fun k hk h => ⟨hF k hk h.1, h.2⟩
theorem RowX.nd {w : World} {N : Nat} {F : Nat → Prop} {xs : List Value} {ls : List (Nd × Sup)} (h : RowX (nodeO N) w F xs ls) : RowX nodeE w F xs (ls.map (·.1)) :=
  ⟨by rw [List.length_map]; exact h.1, fun j hj => by
    rw [List.getElem_map]
    have := h.2 j (by simpa using hj)
    exact this.at.mono fun k _ hk => hk.1⟩
theorem RdX.nd {w : World} {N : Nat} {F : Nat → Prop} {A : Option Addr} {ls : List (Nd × Sup)} (h : RdX (nodeO N) w F A ls) : RdX nodeE w F A (ls.map (·.1)) := by
  rcases h with h | ⟨b, off, xs, e, h1, h2, h3⟩
  · left; rw [h]; rfl
  · exact .inr ⟨b, off, xs, e, h1, h2.nd, h3⟩
theorem LsV.nd {w : World} {N : Nat} {F : Nat → Prop} {v : Value} {ls : List (Nd × Sup)} (h : LsV (nodeO N) w F v ls) : LsV nodeE w F v (ls.map (·.1)) := by
  obtain ⟨A, c, h1, h2, h3, h4, h5⟩ := h
  exact ⟨A, c, by rw [List.length_map]; exact h1, h2.nd, by rw [List.length_map]; exact h3, h4, fun e => ⟨by rw [(h5 e).1]; rfl, (h5 e).2⟩⟩
/-- a tree's cells -/
def trC (nv : Value) (t : Tr) (ss : List Value) : List Value := nv :: .int .u32 (t.lastGen : Int) :: .int .u32 (t.boot : Int) :: .int .u32 (t.count : Int) :: ss
abbrev Apart (ls : List (Nd × Sup)) : Prop := ls.Pairwise fun a b => ∀ k, ¬ (a.2 k ∧ b.2 k)
/-- a tree of one's own, in a variable at B -/
structure NxO (w : World) (N B : Nat) (nv : Value) (ss : List Value) (t : Tr) (ls : List (Nd × Sup)) (S : Sup) : Prop where
  box : Cs w B 30 (trC nv t ss).toArray
  low : N ≤ B
  own : OwnX (nodeO N) w N (fun k => N ≤ k ∧ k ≠ B) nv ls
  nds : ls.map (·.1) = t.nodes
  dis : Apart ls
  ses : SesAt w S ss t.sess
  far : ∀ k, S k → N ≤ k ∧ k ≠ B ∧ nv.ownBlock ≠ some k ∧ ∀ p ∈ ls, ¬ p.2 k
  len : t.sess.length = 4 ∧ ss.length = 12
  big : t.lastGen < 4294967296 ∧ t.boot < 4294967296 ∧ t.count < 4294967296
theorem NxO.below {w w' : World} {N B : Nat} {nv : Value} {ss : List Value} {t : Tr} {ls : List (Nd × Sup)} {S : Sup} (h : NxO w N B nv ss t ls S) (hb : Below w.heap.size w w') : NxO w' N B nv ss t ls S :=
  ⟨h.box.below hb h.box.lt, h.low, h.own.below hb, h.nds, h.dis, h.ses.turn (Turn.of_below hb fun _ => False) fun _ _ h => h, h.far, h.len, h.big⟩
theorem NxO.at {w : World} {N B : Nat} {nv : Value} {ss : List Value} {t : Tr} {ls : List (Nd × Sup)} {S : Sup} (h : NxO w N B nv ss t ls S) : TrAt w (N ≤ ·) (trC nv t ss) t :=
  ⟨nv, ss, rfl, by rw [← h.nds]; exact (h.own.ls.mono fun k _ hk => hk.1).nd, h.ses.mono fun k _ hk => (h.far k hk).1, h.len.1, h.len.2, h.big⟩

end Go.Proofs.YtdhlejhflkfoaaaDoor

/- The program: slices.BinarySearchFunc at nodes, at entries. -/
namespace Go.Proofs.YtdhlejhflkfoaaaDoor
open Go.RowKit Go.Shelf
set_option linter.unusedVariables false
set_option maxRecDepth 100000
set_option linter.unusedSimpArgs false

theorem infoEnt : (Tryd.prog.info? 80).map (·.size) = some 2 := by kernel_rfl
theorem wpList_loadA {P : Program} {w : World} {ops : Array Oper} {rest : List Oper} {o : Oper} {a : Act} {Q : Exit → Act → World → Prop} (hw : Region.wanted o (yielded ops a.tmps) = true) (t : TypeId) (x : Operand) (ho : o.op = .load t x) (b f : Nat) (hx : a.eval x = .pointer (some ⟨b, f, none⟩)) (cs : List Value) (hc : At w b f cs) (d : TypeDesc) (hu : P.underlying t = some d)
    (hd : (match d with | .struct _ | .array _ _ => true | _ => false) = true) (hi : (P.info? t).map (·.size) = some cs.length) (h : wpList P ops Q rest (a.put o.dst (.agg cs.toArray)) w) : wpList P ops Q (o :: rest) a w :=
  BigFrame.wpList_want hw fun K hK => wp_load_agg t x ho b f hx cs hc d hu hd hi (hK _ _ h)
/-- a comparison with what is looked for -/
def CmpOf {α : Type} (E : Elem α) (g : Nat) (lb : Array Value) (tv : Value) (cf : α → Int) (w : World) : Prop := ∀ (W : World) (x : α) (cs : List Value) (G : Nat → Prop), Below w.heap.size w W → E.rd W G cs x → Calls Tryd.prog g (#[.agg cs.toArray, tv] ++ lb) W fun e w' => e = .returned (.int .i64 (cf x)) ∧ Below W.heap.size W w'
section
variable {α : Type}
def Mono (cf : α → Int) (l : List α) : Prop := ∀ i j (hj : j < l.length) (hi : i < l.length), i ≤ j → cf l[j] < 0 → cf l[i] < 0
def BsI (cf : α → Int) (l : List α) (lo hi : Nat) : Prop := lo ≤ hi ∧ hi ≤ l.length ∧ (Mono cf l → (∀ j (h : j < l.length), j < lo → cf l[j] < 0) ∧ ∀ j (h : j < l.length), hi ≤ j → 0 ≤ cf l[j])
theorem BsI.start (cf : α → Int) (l : List α) : BsI cf l 0 l.length := ⟨Nat.zero_le _, Nat.le_refl _, fun _ => ⟨fun j h h1 => by omega, fun j h h1 => by omega⟩⟩
theorem BsI.left {cf : α → Int} {l : List α} {lo hi mid : Nat} (h : BsI cf l lo hi) (h2 : mid < hi) (hm : mid < l.length) (e : cf l[mid] < 0) : BsI cf l (mid + 1) hi := ⟨h2, h.2.1, fun hM => ⟨fun j hj hlt => hM j mid hm hj (by omega) e, (h.2.2 hM).2⟩⟩
theorem BsI.right {cf : α → Int} {l : List α} {lo hi mid : Nat} (h : BsI cf l lo hi) (h1 : lo ≤ mid) (hm : mid < l.length) (e : ¬ cf l[mid] < 0) : BsI cf l lo mid := ⟨h1, Nat.le_of_lt hm, fun hM => ⟨(h.2.2 hM).1, fun j hj hlt => by
  by_cases k : cf l[j] < 0
  · exact absurd (hM mid j hj hm hlt k) e
  · omega⟩⟩
/-- what a binary search tells -/
structure Sought (cf : α → Int) (l : List α) (i : Nat) (b : Bool) : Prop where
  le : i ≤ l.length
  is : b = true ↔ ∃ h : i < l.length, cf l[i] = 0
  lo : Mono cf l → ∀ j (h : j < l.length), j < i → cf l[j] < 0
  hi : Mono cf l → ∀ j (h : j < l.length), i ≤ j → 0 ≤ cf l[j]
theorem BsI.over {cf : α → Int} {l : List α} {i : Nat} (h : BsI cf l i i) {b : Bool} (hb : b = true ↔ ∃ h : i < l.length, cf l[i] = 0) : Sought cf l i b := ⟨h.2.1, hb, fun hM => (h.2.2 hM).1, fun hM => (h.2.2 hM).2⟩
theorem BsI.yes {cf : α → Int} {l : List α} {i : Nat} (h : BsI cf l i i) (hn : i < l.length) (e : cf l[i] = 0) : Sought cf l i true := h.over ⟨fun _ => ⟨hn, e⟩, fun _ => rfl⟩
theorem BsI.no {cf : α → Int} {l : List α} {i : Nat} (h : BsI cf l i i) (hn : i < l.length) (e : cf l[i] ≠ 0) : Sought cf l i false := h.over ⟨fun h => (by cases h), fun ⟨_, h⟩ => absurd h e⟩
theorem BsI.off {cf : α → Int} {l : List α} {i : Nat} (h : BsI cf l i i) (hn : ¬ i < l.length) : Sought cf l i false := h.over ⟨fun h => (by cases h), fun ⟨h, _⟩ => absurd h hn⟩
def SoughtRet (cf : α → Int) (l : List α) (e : Ending) : Prop := ∃ (i : Nat) (b : Bool), e = .returned (.tuple #[.int .i64 (i : Int), .bool b]) ∧ Sought cf l i b
end
set_option maxHeartbeats 8000000 in
theorem BinSearch_nd (l : List Nd) (cf : Nd → Int) (tv : Value) (g : Nat) (lb : Array Value) (eg : ∀ args w, (callFunc g args).run Tryd.prog w = .ok (.enter g args) w) (A : Option Addr) (c : Nat) (F : Nat → Prop) (w : World) (hl : l.length ≤ 140737488355328) (r : RdX nodeE w F A l) (hc : CmpOf nodeE g lb tv cf w) :
    Calls Tryd.prog 99 #[.slice A l.length c, tv, .func (.func g) #[] lb] w fun e w' => SoughtRet cf l e ∧ Below w.heap.size w w' := by
  have HP := Lib.hid r
  have HC := Lib.hid hc
  have hL : (l.length : Int) ≤ 140737488355328 := by omega
  clear r hc
  go_enter Tryd.func99, Tryd.ntmps99
  go_wp2
  go_loopw [9, 10] (fun i j wr => ∃ lo hi : Nat, i = .int .i64 lo ∧ j = .int .i64 hi ∧ BsI cf l lo hi ∧ Below w.heap.size w wr) (fun i j _ => (RowKit.intOf j).toNat - (RowKit.intOf i).toNat)
  case atStart => exact ⟨0, l.length, rfl, rfl, BsI.start cf l, Below.refl _ _⟩
  case round =>
    obtain ⟨lo, hi, rfl, rfl, hI, hB⟩ := hrel
    have hhi : hi ≤ l.length := hI.2.1
    have HI := Lib.hid hI
    have HB := Lib.hid hB
    have hle : lo ≤ hi := hI.1
    clear hI
    by_cases hlt : lo < hi
    · obtain ⟨mid, hmid⟩ : ∃ mid : Nat, (lo + hi) / 2 = mid := ⟨_, rfl⟩
      have hm0 : lo ≤ mid := by omega
      have hm2 : mid < hi := by omega
      have hm3 : mid < l.length := by omega
      have hmid2 : ((lo : Int) + (hi : Int)) / 2 = (mid : Int) := by omega
      obtain ⟨b, off, cs, rfl, hrd, hat⟩ := (HP.out.below hB).get mid hm3
      have HAT := Lib.hid hat
      have HLN := Lib.hid (show cs.length = 6 from nodeE.len hrd)
      have HX := Lib.hid (fun e => HI.out.left hm2 hm3 e)
      have HY := Lib.hid (fun e => HI.out.right hm0 hm3 e)
      generalize l[mid] = x at *
      have HCX := Lib.hid (HC.out wr x cs F hB hrd)
      clear hB hat hrd
      generalize cf x = z at *
      by_cases hz : z < 0
      · have hf := Lib.hid (HX.out hz)
        clear HX HY hmid
        go_wp2_with (first
          | ((with_reducible show wpList _ _ _ _ _ wr); refine wpList_load_agg rfl 48 _ rfl b (off + mid * 6) rfl cs HAT.out _ Tryd.underlying48 rfl (by rw [HLN.out]; exact infoNode) ?_; go_frame)
          | (go_at_fn g; refine HCX.out.mono ?_; rintro e u1 ⟨rfl, hb⟩; have B1 := Lib.hid (below_chain HB.out hb); clear hb)
          | fail)
        go_roundw
        case rel => exact ⟨mid + 1, hi, by go_num, rfl, hf.out, B1.out⟩
        case measure => simp [RowKit.intOf]; omega
      · have hf := Lib.hid (HY.out hz)
        clear HX HY hmid
        go_wp2_with (first
          | ((with_reducible show wpList _ _ _ _ _ wr); refine wpList_load_agg rfl 48 _ rfl b (off + mid * 6) rfl cs HAT.out _ Tryd.underlying48 rfl (by rw [HLN.out]; exact infoNode) ?_; go_frame)
          | (go_at_fn g; refine HCX.out.mono ?_; rintro e u1 ⟨rfl, hb⟩; have B1 := Lib.hid (below_chain HB.out hb); clear hb)
          | fail)
        go_roundw
        case rel => exact ⟨lo, mid, rfl, rfl, hf.out, B1.out⟩
        case measure => simp [RowKit.intOf]; omega
    · obtain rfl : lo = hi := by omega
      by_cases hn : lo < l.length
      · obtain ⟨b, off, cs, rfl, hrd, hat⟩ := (HP.out.below hB).get lo hn
        have HAT := Lib.hid hat
        have HLN := Lib.hid (show cs.length = 6 from nodeE.len hrd)
        have hn1 : decide (lo < l.length) = true := decide_eq_true hn
        have HX := Lib.hid (fun e => HI.out.yes hn e)
        have HY := Lib.hid (fun e => HI.out.no hn e)
        generalize l[lo] = x at *
        have HCX := Lib.hid (HC.out wr x cs F hB hrd)
        clear hB hat hrd
        generalize cf x = z at *
        by_cases hz : z = 0
        · have hf := Lib.hid (HX.out hz)
          subst hz
          clear HX HY
          go_wp2_with (first
            | ((with_reducible show wpList _ _ _ _ _ wr); refine wpList_loadA (by rfl) 48 _ rfl b (off + lo * 6) rfl cs HAT.out _ Tryd.underlying48 rfl (by rw [HLN.out]; exact infoNode) ?_; go_frame)
            | (go_at_fn g; refine HCX.out.mono ?_; rintro e u1 ⟨rfl, hb⟩; have B1 := Lib.hid (below_chain HB.out hb); clear hb)
            | fail)
          go_ret2
          exact ⟨⟨lo, true, rfl, hf.out⟩, B1.out⟩
        · have hf := Lib.hid (HY.out hz)
          clear HX HY
          go_wp2_with (first
            | ((with_reducible show wpList _ _ _ _ _ wr); refine wpList_loadA (by rfl) 48 _ rfl b (off + lo * 6) rfl cs HAT.out _ Tryd.underlying48 rfl (by rw [HLN.out]; exact infoNode) ?_; go_frame)
            | (go_at_fn g; refine HCX.out.mono ?_; rintro e u1 ⟨rfl, hb⟩; have B1 := Lib.hid (below_chain HB.out hb); clear hb)
            | fail)
          go_ret2
          exact ⟨⟨lo, (z == 0), rfl, (by rw [show (z == 0) = false by simpa using hz]; exact hf.out)⟩, B1.out⟩
      · have hf := Lib.hid (HI.out.off hn)
        go_wp2_with fail
        go_ret2
        exact ⟨⟨lo, false, rfl, hf.out⟩, HB.out⟩
end Go.Proofs.YtdhlejhflkfoaaaDoor

/- The program: what compares, place, entry, nodeOf, nodeNamed, gap. -/
namespace Go.Proofs.YtdhlejhflkfoaaaDoor
open Go.RowKit Go.Shelf
set_option linter.unusedVariables false
set_option maxRecDepth 100000
set_option linter.unusedSimpArgs false

def cmpU (a b : Nat) : Int := if a < b then -1 else if b < a then 1 else 0
theorem isNaN_v (a : Nat) (w : World) : Calls Tryd.prog 107 #[.int .u32 (a : Int)] w fun e w' => e = .returned (.bool false) ∧ w = w' := by
  go_enter Tryd.func107, Tryd.ntmps107
  go_wp2_with fail
  go_ret
  exact ⟨by first | rfl | simp, rfl⟩
theorem CompareU_v (a b : Nat) (w : World) : Calls Tryd.prog 101 #[.int .u32 (a : Int), .int .u32 (b : Int)] w fun e w' => e = .returned (.int .i64 (cmpU a b)) ∧ w = w' := by
  have HC := Lib.hid (show cmpU a b = if a < b then -1 else if b < a then 1 else 0 from rfl)
  go_enter Tryd.func101, Tryd.ntmps101
  go_wp2_with fail
  refine (isNaN_v a w).mono ?_
  rintro e w1 ⟨rfl, rfl⟩
  go_wp2_with fail
  refine (isNaN_v b w).mono ?_
  rintro e w1 ⟨rfl, rfl⟩
  by_cases h1 : a < b
  · have i1 : (a : Int) < b := by omega
    rw [if_pos h1] at HC
    clear h1
    go_wp2_with fail
    go_ret
    exact ⟨(by rw [HC.out]; first | done | rfl), rfl⟩
  · have i1 : ¬ (a : Int) < b := by omega
    rw [if_neg h1] at HC
    by_cases h2 : b < a
    · have i2 : (b : Int) < a := by omega
      rw [if_pos h2] at HC
      clear h1 h2
      go_wp2_with fail
      go_ret
      exact ⟨(by rw [HC.out]; first | done | rfl), rfl⟩
    · have i2 : ¬ (b : Int) < a := by omega
      rw [if_neg h2] at HC
      clear h1 h2
      go_wp2_with fail
      go_ret
      exact ⟨(by rw [HC.out]; first | done | rfl), rfl⟩
set_option maxHeartbeats 1000000 in
theorem place1_v (n : Nd) (cs : List Value) (G : Nat → Prop) (ino : Nat) (W : World) (h : NdAt W G cs n) :
    Calls Tryd.prog 100 #[.agg cs.toArray, .int .u32 (ino : Int)] W fun e w' => e = .returned (.int .i64 (cmpU n.ino ino)) ∧ Below W.heap.size W w' := by
  obtain ⟨dv, nv, rfl, -⟩ := h
  go_enter Tryd.func100, Tryd.ntmps100
  go_wp2_with (first
    | ((with_reducible show wpList _ _ _ _ _ W); refine wpList_boxS rfl 48 _ rfl (ndC n dv nv) rfl ?_; intro g1 w1 hk1 hb1 hg1; go_frame; have q0 : w1.cell? ⟨g1, 0, none⟩ = some (.int .u32 (n.ino : Int)) := hk1.cell 0 rfl; have B1 := Lib.hid hb1; clear hk1 hb1 hg1)
    | fail)
  refine (CompareU_v n.ino ino w1).mono ?_
  rintro e w2 ⟨rfl, rfl⟩
  go_wp2_with fail
  go_ret
  exact ⟨rfl, B1.out⟩
/-! ### where something stands -/
theorem mono_U {l : List Nd} (hs : SortN l) (ino : Nat) : Mono (fun n : Nd => cmpU n.ino ino) l := by
  intro i j hj hi hij h
  rcases Nat.lt_or_ge i j with h1 | h1
  · have h2 := List.pairwise_iff_getElem.1 hs i j hi hj h1
    unfold cmpU at *
    dsimp only at *
    split at h
    · rw [if_pos (by omega)]; decide
    · split at h
      · cases h
      · cases h
  · obtain rfl : i = j := by omega
    exact h
theorem cmpU_neg {a b : Nat} : cmpU a b < 0 ↔ a < b := by
  unfold cmpU
  split
  · rename_i h; exact ⟨fun _ => h, fun _ => by decide⟩
  · rename_i h
    split
    · exact ⟨fun k => absurd k (by decide), fun k => absurd k h⟩
    · exact ⟨fun k => absurd k (by decide), fun k => absurd k h⟩
theorem cmpU_zero {a b : Nat} : cmpU a b = 0 ↔ a = b := by
  unfold cmpU
  split
  · rename_i h; exact ⟨fun k => absurd k (by decide), fun k => by omega⟩
  · rename_i h
    split
    · exact ⟨fun k => absurd k (by decide), fun k => by omega⟩
    · exact ⟨fun _ => by omega, fun _ => rfl⟩
/-- where a node stands, or would stand -/
structure Placed (l : List Nd) (ino i : Nat) (b : Bool) : Prop where
  le : i ≤ l.length
  yes : b = true → ∃ h : i < l.length, l[i].ino = ino ∧ nodeT l ino = some l[i]
  no : b = false → nodeT l ino = none
  lo : ∀ j (h : j < l.length), j < i → l[j].ino < ino
  hi : ∀ j (h : j < l.length), i ≤ j → ino ≤ l[j].ino
theorem Sought.placed {l : List Nd} {ino i : Nat} {b : Bool} (h : Sought (fun n : Nd => cmpU n.ino ino) l i b) (hs : SortN l) : Placed l ino i b := by
  have hM := mono_U hs ino
  refine ⟨h.le, fun e => ?_, fun e => ?_, fun j hj hlt => cmpU_neg.1 (h.lo hM j hj hlt), fun j hj hle => ?_⟩
  · obtain ⟨h1, h2⟩ := h.is.1 e
    have h3 := cmpU_zero.1 h2
    exact ⟨h1, h3, (nodeT_some hs).2 ⟨List.getElem_mem h1, h3⟩⟩
  · cases k : nodeT l ino with
    | none => rfl
    | some d =>
      exfalso
      obtain ⟨h1, h2⟩ := (nodeT_some hs).1 k
      obtain ⟨j, hj, rfl⟩ := List.getElem_of_mem h1
      have hge : i ≤ j := by
        by_cases c : j < i
        · have := cmpU_neg.1 (h.lo hM j hj c); omega
        · omega
      have hlt : i < l.length := by omega
      have h5 : ¬ (l[i].ino < ino) := fun c => by have := h.hi hM i hlt (Nat.le_refl _); have := cmpU_neg.2 c; omega
      have h6 : l[i].ino = ino := by
        rcases Nat.lt_or_ge i j with c | c
        · have := List.pairwise_iff_getElem.1 hs i j hlt hj c; omega
        · obtain rfl : i = j := by omega
          exact h2
      have := h.is.2 ⟨hlt, cmpU_zero.2 h6⟩
      rw [e] at this
      cases this
  · have := h.hi hM j hj hle
    by_cases c : l[j].ino < ino
    · have := cmpU_neg.2 c; omega
    · omega
def PlaceRet (l : List Nd) (ino : Nat) (e : Ending) : Prop := ∃ (i : Nat) (b : Bool), e = .returned (.tuple #[.int .i64 (i : Int), .bool b]) ∧ Placed l ino i b
set_option maxHeartbeats 1000000 in
theorem place_tv (l : List Nd) (ino : Nat) (A : Option Addr) (c : Nat) (F : Nat → Prop) (w : World) (hl : l.length ≤ 140737488355328) (hs : SortN l) (r : RdX nodeE w F A l) :
    Calls Tryd.prog 90 #[.slice A l.length c, .int .u32 (ino : Int)] w fun e w' => PlaceRet l ino e ∧ Below w.heap.size w w' := by
  have HB := Lib.hid (BinSearch_nd l (fun n : Nd => cmpU n.ino ino) (.int .u32 (ino : Int)) 100 #[] (enters_of Tryd.func100 (by kernel_rfl) rfl) A c F w hl r fun W x cs G hb hx => place1_v x cs G ino W hx)
  have HS := Lib.hid hs
  clear r hs
  go_enter Tryd.func90, Tryd.ntmps90
  go_wp2_with fail
  refine HB.out.mono ?_
  rintro e w1 ⟨⟨i, b, rfl, hi⟩, hb⟩
  have HP := Lib.hid (hi.placed HS.out)
  have B := Lib.hid hb
  clear hi hb
  go_wp2_with fail
  go_ret2
  exact ⟨⟨i, b, rfl, HP.out⟩, B.out⟩
end Go.Proofs.YtdhlejhflkfoaaaDoor

/- The program: nodeOf, nodeNamed, gap. -/
namespace Go.Proofs.YtdhlejhflkfoaaaDoor
open Go.RowKit Go.Shelf
set_option linter.unusedVariables false
set_option maxRecDepth 100000
set_option linter.unusedSimpArgs false

theorem At.tz {w w' : World} {b off : Nat} {cs : List Value} (h : At w b off cs) (hb : Below w.heap.size w w') : At w' b off cs := fun j v hv => (hb.cell (lt_of_cell (h j v hv))).trans (h j v hv)
/-- a pointer to a node of a list, or none -/
def NodeP (A : Option Addr) (l : List Nd) (v : Value) (r : Option Nd) : Prop := (r = none ∧ v = .pointer none) ∨ ∃ (i b off : Nat) (h : i < l.length), r = some l[i] ∧ A = some ⟨b, off, none⟩ ∧ v = .pointer (some ⟨b, off + i * 6, none⟩)
/-- what a walk wants of a node in a list -/
theorem nd_head {w : World} {F : Nat → Prop} {b off : Nat} {l : List Nd} (r : RdX nodeE w F (some ⟨b, off, none⟩) l) {i : Nat} (hi : i < l.length) : ∃ dv nv, At w b (off + i * 6) (ndC l[i] dv nv) ∧ BsV w F dv l[i].data ∧ LsV entE w F nv l[i].names ∧ l[i].ino < 4294967296 ∧ l[i].gen < 4294967296 ∧ l[i].chg < 18446744073709551616 := by
  obtain ⟨b', off', cs, e, ⟨dv, nv, rfl, h⟩, hat⟩ := r.get i hi
  cases e
  exact ⟨dv, nv, hat, h⟩
/-! ### the least number that is not there -/
def GapI (l : List Nd) (i : Nat) : Prop := i ≤ l.length ∧ ∀ j (h : j < l.length), j < i → l[j].ino = j + 1
theorem GapI.next {l : List Nd} {i : Nat} (h : GapI l i) (hi : i < l.length) (e : l[i].ino = i + 1) : GapI l (i + 1) := ⟨hi, fun j hj hlt => by
  by_cases k : j = i
  · subst k; exact e
  · exact h.2 j hj (by omega)⟩
theorem gap_of : ∀ (l : List Nat) (k i : Nat), i ≤ l.length → (∀ j (h : j < l.length), j < i → l[j] = k + j) → (∀ h : i < l.length, l[i] ≠ k + i) → gapI k l = k + i
  | [], k, i, hi, _, _ => by
    have : i = 0 := by simpa using hi
    subst this
    rfl
  | x :: r, k, 0, _, _, h2 => by
    have := h2 (by simp)
    unfold gapI
    rw [if_neg (by simpa using this)]
    rfl
  | x :: r, k, i + 1, hi, h1, h2 => by
    have h0 := h1 0 (by simp) (by omega)
    unfold gapI
    rw [if_pos (by simpa using h0), gap_of r (k + 1) i (by simpa using hi) (fun j hj hlt => by
      have := h1 (j + 1) (by simpa using hj) (by omega)
      simp only [List.getElem_cons_succ] at this
      omega) (fun h => by
      have := h2 (by simpa using h)
      simp only [List.getElem_cons_succ] at this
      omega)]
    omega
theorem GapI.free {l : List Nd} {i : Nat} (h : GapI l i) (hn : ∀ k : i < l.length, l[i].ino ≠ i + 1) : freeI l = i + 1 := by
  unfold freeI
  rw [gap_of (inosL l) 1 i (by unfold inosL; rw [List.length_map]; exact h.1) (fun j hj hlt => by
    unfold inosL at hj ⊢
    rw [List.length_map] at hj
    rw [List.getElem_map, h.2 j hj hlt]
    omega) (fun hi => by
    unfold inosL at hi ⊢
    rw [List.length_map] at hi
    rw [List.getElem_map]
    have := hn hi
    omega)]
  omega
end Go.Proofs.YtdhlejhflkfoaaaDoor

/- The program: a chain of functions that each tell a status. -/
namespace Go.Proofs.YtdhlejhflkfoaaaDoor
open Go.RowKit Go.Shelf
set_option linter.unusedVariables false
set_option maxRecDepth 100000
set_option linter.unusedSimpArgs false

/-- a function that tells whether it is so -/
def TellV (w : World) (g : Nat) (lb : Array Value) (b : Bool) : Prop := (∀ args w, (callFunc g args).run Tryd.prog w = .ok (.enter g args) w) ∧ ∀ W, Below w.heap.size w W → Calls Tryd.prog g lb W fun e w' => e = .returned (.bool b) ∧ Below W.heap.size W w'
/-- a function that tells a status -/
def AskV (w : World) (v : Value) (s : Nat) : Prop := ∃ g lb, v = .func (.func g) #[] lb ∧ (∀ args w, (callFunc g args).run Tryd.prog w = .ok (.enter g args) w) ∧ ∀ W, Below w.heap.size w W → Calls Tryd.prog g lb W fun e w' => e = .returned (.int .u8 (s : Int)) ∧ Below W.heap.size W w'
theorem AskV.later {w w' : World} {v : Value} {s : Nat} (h : AskV w v s) (hb : Below w.heap.size w w') : AskV w' v s := by
  obtain ⟨g, lb, h1, h2, h3⟩ := h
  exact ⟨g, lb, h1, h2, fun W hW => h3 W (below_chain hb hW)⟩
theorem TellV.later {w w' : World} {g : Nat} {lb : Array Value} {b : Bool} (h : TellV w g lb b) (hb : Below w.heap.size w w') : TellV w' g lb b := ⟨h.1, fun W hW => h.2 W (below_chain hb hW)⟩
/-- what a chain of them tells: the first that is not 0 -/
def Chain (w : World) : List Value → Nat → Prop
  | [], s => s = 0
  | v :: r, s => ∃ s1, s1 < 256 ∧ AskV w v s1 ∧ (s1 = 0 → Chain w r s) ∧ (s1 ≠ 0 → s = s1)
theorem Chain.at {w : World} : ∀ {vs : List Value} {s : Nat} {k : Nat}, Chain w (vs.drop k) s → (h : k < vs.length) → ∃ s1, s1 < 256 ∧ AskV w vs[k] s1 ∧ (s1 = 0 → Chain w (vs.drop (k + 1)) s) ∧ (s1 ≠ 0 → s = s1) := by
  intro vs s k h hk
  rw [List.drop_eq_getElem_cons hk] at h
  exact h
theorem Chain.over {w : World} {vs : List Value} {s : Nat} {k : Nat} (h : Chain w (vs.drop k) s) (hk : ¬ k < vs.length) : s = 0 := by
  rw [List.drop_of_length_le (by omega)] at h
  exact h
end Go.Proofs.YtdhlejhflkfoaaaDoor

/- The program: what may be asked of a tree. -/
namespace Go.Proofs.YtdhlejhflkfoaaaDoor
open Go.RowKit Go.Shelf
set_option linter.unusedVariables false
set_option maxRecDepth 100000
set_option linter.unusedSimpArgs false

theorem NodeP.one {A : Option Addr} {l : List Nd} {v : Value} {r : Option Nd} (h : NodeP A l v r) : v.oneCell' = true := by
  rcases h with ⟨-, rfl⟩ | ⟨i, b, off, hi, -, -, rfl⟩ <;> rfl
theorem Is_sv (nm : Key) (w : World) (hT : Tabs w) : Calls Tryd.prog 98 #[sv nm] w fun e w' => e = .returned (.bool (nameL nm)) ∧ Below w.heap.size w w' := by
  have := Is_any ⟨nm.toArray⟩ w hT
  show Calls Tryd.prog 98 #[.string ⟨nm.toArray⟩] w _
  simpa [L] using this
end Go.Proofs.YtdhlejhflkfoaaaDoor
/- The program: slices.Delete, slices.Insert upon lists of one's own, at nodes and at entries. -/
namespace Go.Proofs.YtdhlejhflkfoaaaDoor
open Go.RowKit Go.Shelf
set_option linter.unusedVariables false
set_option maxRecDepth 100000
set_option linter.unusedSimpArgs false

section
variable {α : Type} {E : Elem α}
theorem Elem.size (E : Elem α) : ∃ i, Tryd.prog.info? E.ety = some i ∧ i.size = E.n := by
  obtain ⟨i, z, h1, h2, h3, h4, h5⟩ := E.info
  exact ⟨i, h1, h3⟩
end
section
variable {P : Program} {w : World} {o : Oper} {a : Act} {K : Act → World → Prop} {Q : Exit → Act → World → Prop}
/-- append, copy, clear by their runs -/
theorem wp_append_run (s x : Operand) (t t' : TypeId) (ho : o.op = .call { callee := .builtin .append, args := #[s, x], argTypes := #[t, t'] }) (v u : Value) (hs : a.eval s = v) (hx : a.eval x = u) {v' : Value} {w' : World}
    (hr : (Builtin.append_ #[t, t'] o.type #[v, u]).run P w = .ok v' w') (hK : K (a.put o.dst v') w') : o.wp P a w K Q := by
  unfold Oper.wp execOp
  simp only [ho, resolve, invoke, builtin, Sem.run_bind, Sem.run_pure, Result.andThen_ok, List.map_toArray, List.map_cons, List.map_nil, hs, hx, hr]
  exact hK
variable {ops : Array Oper} {rest : List Oper}
end
section
variable {α : Type} {E : Elem α}
theorem RowX.take {w : World} {F : Nat → Prop} {xs : List Value} {ls : List α} (h : RowX E w F xs ls) (m : Nat) : RowX E w F (xs.take (m * E.n)) (ls.take m) := by
  refine ⟨by rw [List.length_take, List.length_take, h.1, Nat.mul_min_mul_right], fun j hj => ?_⟩
  have hj' := hj
  rw [List.length_take] at hj'
  have h2 : (j + 1) * E.n ≤ m * E.n := Nat.mul_le_mul_right _ (by omega)
  rw [Nat.succ_mul] at h2
  have := h.2 j (by omega)
  rw [List.drop_take, List.take_take, Nat.min_eq_left (by omega), List.getElem_take]
  exact this
theorem RowX.drop {w : World} {F : Nat → Prop} {xs : List Value} {ls : List α} (h : RowX E w F xs ls) (m : Nat) : RowX E w F (xs.drop (m * E.n)) (ls.drop m) := by
  refine ⟨by rw [List.length_drop, List.length_drop, h.1, Nat.sub_mul], fun j hj => ?_⟩
  rw [List.length_drop] at hj
  have := h.2 (m + j) (by omega)
  rw [List.drop_drop, ← Nat.add_mul, List.getElem_drop]
  exact this
end
section
variable {α : Type} {E : Elem α}
end
section
variable {α : Type} {E : Elem α}
end
section
variable {P : Program} {w : World} {o : Oper} {a : Act} {Q : Exit → Act → World → Prop} {ops : Array Oper} {rest : List Oper}
theorem wpList_append_run (hgd : o.guard = none) (s x : Operand) (t t' : TypeId) (ho : o.op = .call { callee := .builtin .append, args := #[s, x], argTypes := #[t, t'] }) (v u : Value) (hs : a.eval s = v) (hx : a.eval x = u) {v' : Value} {w' : World}
    (hr : (Builtin.append_ #[t, t'] o.type #[v, u]).run P w = .ok v' w') (hK : wpList P ops Q rest (a.put o.dst v') w') : wpList P ops Q (o :: rest) a w := wpList_plain hgd fun _ hk => wp_append_run s x t t' ho v u hs hx hr (hk _ _ hK)
end
end Go.Proofs.YtdhlejhflkfoaaaDoor
/- TzHK: TzH TzI TzJ TzK. -/
/- The program: copyNode, Copy: a tree in memory of one's own. -/
namespace Go.Proofs.YtdhlejhflkfoaaaDoor
open Go.RowKit Go.Shelf
set_option linter.unusedVariables false
set_option maxRecDepth 100000
set_option linter.unusedSimpArgs false

theorem entZero (w : World) : (zeroValue 80).run Tryd.prog w = .ok (.agg ([sv [], .int .u32 0] : List Value).toArray) w := by kernel_rfl
theorem take_snoc {α : Type} {l : List α} {k : Nat} (h : k < l.length) : l.take (k + 1) = l.take k ++ [l[k]] := List.take_succ_eq_append_getElem h
/-! ### Copy -/
theorem wpList_buildNd {w : World} {ops : Array Oper} {rest : List Oper} {o : Oper} {a : Act} {Q : Exit → Act → World → Prop} (hgd : o.guard = none) (x : Operand) (ho : o.op = .buildSlice 22 1 #[(0, x)]) (n : Nd) (dv nv : Value) (hx : a.eval x = .agg (ndC n dv nv).toArray)
    (hK : ∀ g w', Cs w' g 48 (ndC n dv nv).toArray → Below w.heap.size w w' → w.heap.size ≤ g → wpList Tryd.prog ops Q rest (a.put o.dst (.slice (some ⟨g, 0, none⟩) 1 1)) w') : wpList Tryd.prog ops Q (o :: rest) a w := by
  refine wpList_plain hgd fun _ hh => wp_of_run2 (v := .slice (some ⟨w.heap.size, 0, none⟩) 1 1) (w' := w.alloc (.cells (ndC n dv nv).toArray 48)) ?_ (hh _ _ (hK _ _ (Cs.new _ _ _) ((Below.refl _ _).alloc (Nat.le_refl _) _) (Nat.le_refl _)))
  unfold execOp
  simp only [ho, hx, List.map_toArray, List.map_cons, List.map_nil, ndC]
  go_simp
/-- a tree of one's own, as a value -/
structure TrO (w : World) (N : Nat) (nv : Value) (ss : List Value) (t : Tr) (ls : List (Nd × Sup)) (S : Sup) : Prop where
  own : OwnX (nodeO N) w N (N ≤ ·) nv ls
  nds : ls.map (·.1) = t.nodes
  dis : Apart ls
  sup : ∀ p ∈ ls, ∀ k, p.2 k → N ≤ k ∧ k < w.heap.size
  ses : SesAt w S ss t.sess
  far : ∀ k, S k → N ≤ k ∧ k < w.heap.size ∧ nv.ownBlock ≠ some k ∧ ∀ p ∈ ls, ¬ p.2 k
  len : t.sess.length = 4 ∧ ss.length = 12
  big : t.lastGen < 4294967296 ∧ t.boot < 4294967296 ∧ t.count < 4294967296
def sesC (x : Nat × Nat × List UInt8) (v : Value) : List Value := [.int .u32 (x.1 : Int), .int .u64 (x.2.1 : Int), v]
theorem SesAt.four {w : World} {F : Nat → Prop} {cs : List Value} {l : List (Nat × Nat × List UInt8)} (h : SesAt w F cs l) (hl : l.length = 4) (hc : cs.length = 12) : ∃ x0 x1 x2 x3 b0 b1 b2 b3, l = [x0, x1, x2, x3] ∧ cs = sesC x0 b0 ++ sesC x1 b1 ++ sesC x2 b2 ++ sesC x3 b3 ∧ BsV w F b0 x0.2.2 ∧ BsV w F b1 x1.2.2 ∧ BsV w F b2 x2.2.2 ∧ BsV w F b3 x3.2.2 ∧ (∀ x ∈ l, x.1 < 4294967296 ∧ x.2.1 < 18446744073709551616 ∧ x.2.2.length ≤ 140737488355328) := by
  match l, hl, h with
  | [x0, x1, x2, x3], _, ⟨⟨b0, e0, h0, i0⟩, ⟨b1, e1, h1, i1⟩, ⟨b2, e2, h2, i2⟩, ⟨b3, e3, h3, i3⟩, hn⟩ =>
    refine ⟨x0, x1, x2, x3, b0, b1, b2, b3, rfl, ?_, h0, h1, h2, h3, fun x hx => ?_⟩
    · simp only [List.drop_drop] at e1 e2 e3 hn
      have hn' : List.drop 12 cs = [] := by simpa [SesAt] using hn
      unfold sesC
      rw [← e0, ← e1, ← e2, ← e3]
      have k1 := List.take_append_drop 3 cs
      have k2 := List.take_append_drop 3 (cs.drop 3)
      have k3 := List.take_append_drop 3 (cs.drop 6)
      have k4 := List.take_append_drop 3 (cs.drop 9)
      simp only [List.drop_drop] at k2 k3 k4
      rw [hn', List.append_nil] at k4
      simp only [List.append_assoc]
      rw [k4, k3, k2, k1]
    · simp at hx
      rcases hx with rfl | rfl | rfl | rfl
      · exact i0
      · exact i1
      · exact i2
      · exact i3
theorem ses_four {w : World} {F : Nat → Prop} {x0 x1 x2 x3 : Nat × Nat × List UInt8} {b0 b1 b2 b3 : Value} (h0 : BsV w F b0 x0.2.2) (h1 : BsV w F b1 x1.2.2) (h2 : BsV w F b2 x2.2.2) (h3 : BsV w F b3 x3.2.2) (hn : ∀ x ∈ [x0, x1, x2, x3], x.1 < 4294967296 ∧ x.2.1 < 18446744073709551616 ∧ x.2.2.length ≤ 140737488355328) : SesAt w F (sesC x0 b0 ++ sesC x1 b1 ++ sesC x2 b2 ++ sesC x3 b3) [x0, x1, x2, x3] :=
  ⟨⟨b0, rfl, h0, hn x0 (by simp)⟩, ⟨b1, rfl, h1, hn x1 (by simp)⟩, ⟨b2, rfl, h2, hn x2 (by simp)⟩, ⟨b3, rfl, h3, hn x3 (by simp)⟩, rfl⟩
/-- how far the sessions have come -/
def SesF (N : Nat) (F : Nat → Prop) (j k : Nat) : Nat → Prop := fun q => (j < k ∧ N ≤ q) ∨ (¬ j < k ∧ F q)
theorem SesF.next {N : Nat} {F : Nat → Prop} {j k : Nat} (h : j ≠ k) {q : Nat} (hq : SesF N F j k q) : SesF N F j (k + 1) q := by
  rcases hq with ⟨h1, h2⟩ | ⟨h1, h2⟩
  · exact .inl ⟨by omega, h2⟩
  · exact .inr ⟨by omega, h2⟩
end Go.Proofs.YtdhlejhflkfoaaaDoor

/- The program: lastChange, change, sized. -/
namespace Go.Proofs.YtdhlejhflkfoaaaDoor
open Go.RowKit Go.Shelf
set_option linter.unusedVariables false
set_option maxRecDepth 100000
set_option linter.unusedSimpArgs false

theorem infoU64 : (Tryd.prog.info? 24).map (·.size) = some 1 := by kernel_rfl
theorem infoU32c : (Tryd.prog.info? 23).map (·.size) = some 1 := by kernel_rfl
set_option maxHeartbeats 2000000 in
theorem lastChange_v (cs : List Value) (boot count : Nat) (w : World) (hb : boot < 4294967296) (hc : count < 4294967296) (h2 : cs[2]? = some (.int .u32 (boot : Int))) (h3 : cs[3]? = some (.int .u32 (count : Int))) :
    Calls Tryd.prog 66 #[.agg cs.toArray] w fun e w' => e = .returned (.int .u64 ((boot * 4294967296 + count : Nat) : Int)) ∧ Below w.heap.size w w' := by
  have H2 := Lib.hid h2
  have H3 := Lib.hid h3
  have i1 := Lib.hid (show (boot : Int) < 4294967296 by omega)
  have i2 := Lib.hid (show (count : Int) < 4294967296 by omega)
  have j1 : IntKind.u64.wrap ((boot : Int) * 4294967296) = (boot : Int) * 4294967296 := IntWalk.u64_in _ (by omega)
  have j2 : IntKind.u64.wrap ((boot : Int) * 4294967296 + (count : Int)) = (boot : Int) * 4294967296 + (count : Int) := IntWalk.u64_in _ (by omega)
  have j3 : IntKind.u64.wrap (boot : Int) = boot := IntWalk.u64_in _ (by omega)
  have j4 : IntKind.u64.wrap (count : Int) = count := IntWalk.u64_in _ (by omega)
  clear h2 h3
  go_enter Tryd.func66, Tryd.ntmps66
  go_wp2_with (first
    | ((with_reducible show wpList _ _ _ _ _ w); refine wpList_boxS rfl 30 _ rfl cs rfl ?_; intro g1 w1 hk1 hb1 hg1; go_frame; have q2 : w1.cell? ⟨g1, 2, none⟩ = some (.int .u32 (boot : Int)) := hk1.cell 2 (by simpa using H2.out); have q3 : w1.cell? ⟨g1, 3, none⟩ = some (.int .u32 (count : Int)) := hk1.cell 3 (by simpa using H3.out); have B1 := Lib.hid hb1; clear hk1 hb1 hg1)
    | fail)
  go_ret
  exact ⟨by simp, B1.out⟩

/-! ### change -/
def stampS (b st : Nat) (cur : Array Value) (p : Nat × Nat) : Array Value := if p.1 = b then cur.setIfInBounds (p.2 + 3) (.int .u64 (st : Int)) else cur
def stampA (b st : Nat) (ps : List (Nat × Nat)) (cur : Array Value) : Array Value := ps.foldl (stampS b st) cur
theorem stampS_size (b st : Nat) (cur : Array Value) (p : Nat × Nat) : (stampS b st cur p).size = cur.size := by
  unfold stampS
  split <;> simp
theorem stampA_size (b st : Nat) : ∀ (ps : List (Nat × Nat)) (cur : Array Value), (stampA b st ps cur).size = cur.size
  | [], _ => rfl
  | p :: r, cur => (stampA_size b st r (stampS b st cur p)).trans (stampS_size b st cur p)
theorem stampA_snoc (b st : Nat) (ps : List (Nat × Nat)) (p : Nat × Nat) (cur : Array Value) : stampA b st (ps ++ [p]) cur = stampS b st (stampA b st ps cur) p := by
  unfold stampA
  rw [List.foldl_append]
  rfl
structure ChgI (w w' : World) (B vb st : Nat) (c1 : List Value) (ps qs : List (Nat × Nat)) : Prop where
  box : Cs w' B 30 c1.toArray
  ptrs : Cs w' vb 76 (ps.map fun p => Value.pointer (some ⟨p.1, p.2, none⟩)).toArray
  turn : Turn w w' (fun q => q = B ∨ ∃ p ∈ ps, q = p.1)
  blk : ∀ b ty cur, b ≠ B → Cs w b ty cur → Cs w' b ty (stampA b st qs cur)
set_option maxHeartbeats 8000000 in
theorem change_v (cs : List Value) (boot count B vb : Nat) (ps : List (Nat × Nat)) (w : World) (hB : Cs w B 30 cs.toArray) (hl : cs.length = 16) (h2 : cs[2]? = some (.int .u32 (boot : Int))) (h3 : cs[3]? = some (.int .u32 (count : Int))) (hbt : boot < 4294967296) (hct : count + 1 < 4294967296)
    (hv : Cs w vb 76 (ps.map fun p => Value.pointer (some ⟨p.1, p.2, none⟩)).toArray) (hlen : ps.length ≤ 1000) (hvB : vb ≠ B) (hp : ∀ p ∈ ps, p.1 ≠ B ∧ p.1 ≠ vb ∧ ∃ ty cur, Cs w p.1 ty cur ∧ p.2 + 3 < cur.size) :
    Calls Tryd.prog 44 #[.pointer (some ⟨B, 0, none⟩), .slice (some ⟨vb, 0, none⟩) ps.length ps.length] w fun e w' => e = .returned (.tuple #[]) ∧ ChgI w w' B vb (boot * 4294967296 + (count + 1)) (cs.set 3 (.int .u32 ((count + 1 : Nat) : Int))) ps ps := by
  have HB := Lib.hid hB
  have HV := Lib.hid hv
  have HP := Lib.hid hp
  have HVB := Lib.hid hvB
  have q3 : w.cell? ⟨B, 3, none⟩ = some (.int .u32 (count : Int)) := hB.cell 3 (by simpa using h3)
  obtain ⟨c1, hc1⟩ : ∃ c1, c1 = cs.set 3 (.int .u32 ((count + 1 : Nat) : Int)) := ⟨_, rfl⟩
  have HC1 := Lib.hid hc1
  have HL1 := Lib.hid (show c1.length = 16 by rw [hc1, List.length_set, hl])
  have H12 := Lib.hid (show c1[2]? = some (.int .u32 (boot : Int)) by rw [hc1, List.getElem?_set_ne (by decide)]; exact h2)
  have H13 := Lib.hid (show c1[3]? = some (.int .u32 ((count + 1 : Nat) : Int)) by rw [hc1]; simp [hl])
  have HO1 := Lib.hid (show cs.length = 16 from hl)
  have i1 : (count : Int) + 1 ≤ 4294967295 := by omega
  have HBT := Lib.hid hbt
  have HCT := Lib.hid hct
  obtain ⟨st, hst⟩ : ∃ st, st = boot * 4294967296 + (count + 1) := ⟨_, rfl⟩
  have HST := Lib.hid hst
  have jw : IntKind.u32.wrap ((count : Int) + 1) = (count : Int) + 1 := IntWalk.u32_in _ (by omega)
  rw [← hc1, ← hst]
  have HEQ := Lib.hid (show (cs.toArray.setIfInBounds 3 (.int .u32 ((count : Int) + 1))) = c1.toArray by rw [hc1]; simp)
  clear hB hv hp hvB hc1 hl h2 h3 hst hbt hct
  go_enter Tryd.func44, Tryd.ntmps44
  go_wp2_with (first
    | ((with_reducible show wpList _ _ _ _ _ w); refine wpList_store1 rfl 23 _ _ rfl B 3 rfl (.int .u32 ((count : Int) + 1)) rfl rfl infoU32c _ _ HB.out (by rw [List.size_toArray, HO1.out]; decide) ?_; intro w1 hk2 ht2; go_frame; have B1 := Lib.hid (show Cs w1 B 30 c1.toArray by rw [HEQ.out] at hk2; exact hk2); have T1 := Lib.hid ht2; clear hk2 ht2)
    | fail)
  go_loopw [15] (fun j wr => ∃ k : Nat, j = .int .i64 k ∧ k ≤ ps.length ∧ ChgI w wr B vb st c1 ps (ps.take k)) (fun j _ => ps.length - (RowKit.intOf j).toNat)
  case atStart => exact ⟨0, rfl, Nat.zero_le _, ⟨B1.out, HV.out.turn T1.out HVB.out, T1.out.mono fun q _ h => .inl h, fun b ty cur hb hc => hc.turn T1.out hb⟩⟩
  case round =>
    obtain ⟨k, rfl, hk, hI⟩ := hrel
    have HI := Lib.hid hI
    clear hI
    by_cases hlt : k < ps.length
    · have q0 : wr.cell? ⟨vb, k, none⟩ = some (.pointer (some ⟨ps[k].1, ps[k].2, none⟩)) := HI.out.ptrs.cell k (by simp [hlt])
      have HTS := Lib.hid (take_snoc hlt)
      have HPK := Lib.hid (HP.out _ (List.getElem_mem hlt))
      have HMM := Lib.hid (List.getElem_mem hlt)
      obtain ⟨hpB, hpv, ty, cur, hcur, hsz⟩ := HP.out _ (List.getElem_mem hlt)
      have HCU := Lib.hid (HI.out.blk _ ty cur hpB hcur)
      have HSZ := Lib.hid (show ps[k].2 + 3 < (stampA ps[k].1 st (ps.take k) cur).size by rw [stampA_size]; exact hsz)
      generalize ps[k] = p at *
      clear hpB hpv hcur hsz
      obtain ⟨pb, po⟩ := p
      dsimp only at *
      go_wp2_with (first
        | ((with_reducible show wpList _ _ _ _ _ wr); refine wpList_loadS rfl 30 _ rfl B rfl c1 HI.out.box _ Tryd.underlying30 rfl (by rw [HL1.out]; exact infoTree) ?_; go_frame)
        | fail)
      have hlc := lastChange_v c1 boot (count + 1) wr HBT.out HCT.out H12.out H13.out
      rw [← HST.out] at hlc
      refine hlc.mono ?_
      clear hlc
      rintro e w5 ⟨rfl, hb⟩
      have B5 := Lib.hid hb
      have CU5 := Lib.hid (HCU.out.below hb HCU.out.lt)
      clear hb q0
      go_wp2_with (first
        | ((with_reducible show wpList _ _ _ _ _ w5); refine wpList_store1 rfl 24 _ _ rfl pb (po + 3) rfl (.int .u64 (st : Int)) rfl rfl infoU64 _ _ CU5.out HSZ.out ?_; intro w6 hk2 ht2; go_frame; have T6 := Lib.hid ht2; have C6 := Lib.hid hk2; clear hk2 ht2)
        | fail)
      go_roundw
      case rel =>
        refine ⟨k + 1, by go_num, hlt, ⟨(HI.out.box.below B5.out HI.out.box.lt).turn T6.out HPK.out.1.symm, (HI.out.ptrs.below B5.out HI.out.ptrs.lt).turn T6.out HPK.out.2.1.symm, ((HI.out.turn.trans (Turn.of_below B5.out _) fun _ _ h => h).trans T6.out fun q _ e => .inr ⟨_, HMM.out, e⟩), fun b ty' cur' hb hc => ?_⟩⟩
        rw [HTS.out, stampA_snoc]
        have h5 := (HI.out.blk b ty' cur' hb hc)
        have h6 := h5.below B5.out h5.lt
        unfold stampS
        split
        · rename_i e
          dsimp only at e
          subst e
          have e1 : (some (Obj.cells (stampA pb st (ps.take k) cur') ty' (0, 0)) : Option Obj) = some (Obj.cells (stampA pb st (ps.take k) cur) ty (0, 0)) := h6.symm.trans CU5.out
          injection e1 with e1
          injection e1 with e1 e2
          subst e2
          rw [e1]
          exact C6.out
        · rename_i e
          exact h6.turn T6.out fun e2 => e (by rw [e2])
      case measure => simp [RowKit.intOf]; omega
    · obtain rfl : k = ps.length := by omega
      go_wp2_with fail
      first
        | (refine bodyPost_ret (results_none rfl _ _ _) rfl ?_; exact ⟨rfl, by have := HI.out; rw [List.take_length] at this; exact this⟩)
        | (go_end0; exact ⟨rfl, by have := HI.out; rw [List.take_length] at this; exact this⟩)

end Go.Proofs.YtdhlejhflkfoaaaDoor

/- The program: sized, setEntry, cutEntry, cutNode. -/
namespace Go.Proofs.YtdhlejhflkfoaaaDoor
open Go.RowKit Go.Shelf
set_option linter.unusedVariables false
set_option maxRecDepth 100000
set_option linter.unusedSimpArgs false

/-- bytes of one's own, known whole -/
def OwnB (w w' : World) (v : Value) (l : List UInt8) : Prop := ∃ g, v = .slice (some ⟨g, 0, none⟩) l.length l.length ∧ w.heap.size ≤ g ∧ Cs w' g 5 (cellsOf l).toArray
theorem OwnB.bs {w w' : World} {v : Value} {l : List UInt8} (h : OwnB w w' v l) (hl : l.length ≤ maxLen) : BsV w' (fun q => w.heap.size ≤ q) v l := by
  obtain ⟨g, rfl, h1, h2⟩ := h
  refine ⟨some ⟨g, 0, none⟩, l.length, rfl, .inr ⟨g, 0, rfl, h1, fun j hj => ?_⟩, (fun e => by cases e), Nat.le_refl _, hl⟩
  rw [Nat.zero_add]
  exact h2.cell j (by simp [cellsOf, List.getElem?_eq_getElem hj])
end Go.Proofs.YtdhlejhflkfoaaaDoor

/- The program: setEntry, cutEntry, cutNode. -/
namespace Go.Proofs.YtdhlejhflkfoaaaDoor
open Go.RowKit Go.Shelf
set_option linter.unusedVariables false
set_option maxRecDepth 100000
set_option linter.unusedSimpArgs false

end Go.Proofs.YtdhlejhflkfoaaaDoor
/- TzLK: TzU TzL TzM TzN TzO. -/
/- What is beneath a node, gathered one behind the other: plain. Of no program. -/
namespace Go.Proofs.YtdhlejhflkfoaaaDoor
open Go.RowKit Go.Shelf
set_option linter.unusedVariables false
set_option maxRecDepth 100000
set_option linter.unusedSimpArgs false

def kidsN (n : Nd) : List Nat := n.names.map (·.2)
/-- how deep a node lies -/
inductive Deep (l : List Nd) : Nat → Nat → Prop
  | root : Deep l 0 1
  | step {d : Nat} {n : Nd} {e : Ent} : n ∈ l → e ∈ n.names → Deep l d n.ino → Deep l (d + 1) e.2
theorem kid_mem {l : List Nd} {n : Nd} {e : Ent} (hn : n ∈ l) (he : e ∈ n.names) : e.2 ∈ (entsL l).map (·.2) := List.mem_map.2 ⟨e, mem_ents.2 ⟨n, hn, he⟩, rfl⟩
theorem Deep.one {t : Tr} (h : MayT t) : ∀ {d y : Nat}, Deep t.nodes d y → ∀ {d' : Nat}, Deep t.nodes d' y → d = d' := by
  intro d y h1
  induction h1 with
  | root =>
    intro d' h2
    generalize hz : (1 : Nat) = z at h2
    cases h2 with
    | root => rfl
    | step hn he hd => exact absurd (kid_mem hn he) (by rw [← hz]; exact h.noroot)
  | @step d n e hn he hd ih =>
    intro d' h2
    have hx : e.2 ∈ (entsL t.nodes).map (·.2) := kid_mem hn he
    generalize hy : e.2 = y at h2 hx
    cases h2 with
    | root => exact absurd hx h.noroot
    | @step d2 n2 e2 hn2 he2 hd2 =>
      obtain rfl := ents_dir h.rise h.once hn hn2 he he2 hy
      rw [ih hd2]
theorem Deep.of {l : List Nd} {y : Nat} (h : Under l 1 y) : ∃ d, Deep l d y := by
  induction h with
  | here => exact ⟨0, .root⟩
  | step hn he _ ih =>
    obtain ⟨d, hd⟩ := ih
    exact ⟨d + 1, .step hn he hd⟩
/-- what is beneath lies deeper -/
theorem Deep.le {t : Tr} (h : MayT t) {f y : Nat} (hu : Under t.nodes f y) {d d' : Nat} (hf : Deep t.nodes d f) (hy : Deep t.nodes d' y) : d ≤ d' := by
  induction hu generalizing d' with
  | here => rw [hf.one h hy]; exact Nat.le_refl _
  | @step n e hn he hu ih =>
    obtain ⟨dn, hdn⟩ := Deep.of (h.above n hn)
    have h1 := ih hdn
    have h2 := hy.one h (.step hn he hdn)
    omega
/-- no node is beneath its own child -/
theorem no_ring {t : Tr} (h : MayT t) {n : Nd} {e : Ent} (hn : n ∈ t.nodes) (he : e ∈ n.names) : ¬ Under t.nodes e.2 n.ino := fun hu => by
  obtain ⟨d, hd⟩ := Deep.of (h.above n hn)
  have := Deep.le h hu (.step hn he hd) hd
  omega
/-- how far it has come: what is done, and what is ahead -/
structure UI (l : List Nd) (f : Nat) (D Q : List Nat) : Prop where
  nd : (D ++ Q).Nodup
  un : ∀ y ∈ D ++ Q, Under l f y
  up : ∀ y ∈ D ++ Q, y = f ∨ ∃ n ∈ l, n.ino ∈ D ∧ ∃ e ∈ n.names, e.2 = y
  dn : ∀ n ∈ l, n.ino ∈ D → ∀ e ∈ n.names, e.2 ∈ D ++ Q
  at0 : f ∈ D ++ Q
theorem UI.start (l : List Nd) (f : Nat) : UI l f [] [f] := ⟨by simp, fun y hy => by simp at hy; subst hy; exact .here, fun y hy => by simp at hy; exact .inl hy, fun n hn h => (by cases h), by simp⟩
theorem UI.ino {t : Tr} (h : MayT t) {f : Nat} (hf : f ∈ inosL t.nodes) {D Q : List Nat} (hI : UI t.nodes f D Q) : ∀ y ∈ D ++ Q, y ∈ inosL t.nodes := fun y hy => by
  rcases hI.up y hy with rfl | ⟨n, hn, -, e, he, rfl⟩
  · exact hf
  · exact ((h.ok n hn).good e he).2
theorem UI.next {t : Tr} (h : MayT t) {f y : Nat} {D Q : List Nat} (hI : UI t.nodes f D (y :: Q)) {n : Nd} (hn : n ∈ t.nodes) (hy : n.ino = y) : UI t.nodes f (D ++ [y]) (Q ++ kidsN n) := by
  have hyD : y ∉ D := fun hd => by
    have := hI.nd
    rw [List.nodup_append] at this
    exact this.2.2 y hd y (by simp) rfl
  have e1 : (D ++ [y]) ++ (Q ++ kidsN n) = (D ++ y :: Q) ++ kidsN n := by simp
  have hkid : ∀ c ∈ kidsN n, c ∉ D ++ y :: Q := fun c hc hcd => by
    obtain ⟨e, he, rfl⟩ := List.mem_map.1 hc
    rcases hI.up e.2 hcd with hf | ⟨m, hm, hmD, e', he', e2⟩
    · refine no_ring h hn he ?_
      rw [hf, hy]
      exact hI.un y (by simp)
    · obtain rfl := ents_dir h.rise h.once hm hn he' he e2
      rw [hy] at hmD
      exact hyD hmD
  have hsub : ∀ z, z ∈ D ++ y :: Q → z ∈ (D ++ [y]) ++ (Q ++ kidsN n) := fun z hz => by rw [e1]; exact List.mem_append_left _ hz
  refine ⟨?_, fun z hz => ?_, fun z hz => ?_, fun m hm hmD e he => ?_, hsub _ hI.at0⟩
  · rw [e1, List.nodup_append]
    refine ⟨hI.nd, ?_, fun a ha b hb e => hkid b hb (e ▸ ha)⟩
    obtain ⟨pre, post, h1, -, -⟩ := sort_split h.rise hn
    have := h.once
    rw [h1, entsL_app, entsL_cons, List.map_append, List.map_append] at this
    exact ((List.nodup_append.1 this).2.1 |> List.nodup_append.1).1
  · rw [e1] at hz
    rcases List.mem_append.1 hz with hz | hz
    · exact hI.un z hz
    · obtain ⟨e, he, rfl⟩ := List.mem_map.1 hz
      exact .step hn he (by rw [hy]; exact hI.un y (by simp))
  · rw [e1] at hz
    rcases List.mem_append.1 hz with hz | hz
    · rcases hI.up z hz with h1 | ⟨m, hm, hmD, h2⟩
      · exact .inl h1
      · exact .inr ⟨m, hm, List.mem_append_left _ hmD, h2⟩
    · obtain ⟨e, he, rfl⟩ := List.mem_map.1 hz
      exact .inr ⟨n, hn, by rw [hy]; simp, e, he, rfl⟩
  · rw [e1]
    rcases List.mem_append.1 hmD with h1 | h1
    · exact List.mem_append_left _ (hI.dn m hm h1 e he)
    · rw [List.mem_singleton] at h1
      obtain rfl := sort_one h.rise hm hn (by rw [h1, hy])
      exact List.mem_append_right _ (List.mem_map.2 ⟨e, he, rfl⟩)
theorem UI.fresh {l : List Nd} {f y : Nat} {D Q : List Nat} (hI : UI l f D (y :: Q)) : y ∉ D := fun hd => by
  have := hI.nd
  rw [List.nodup_append] at this
  exact this.2.2 y hd y (by simp) rfl
theorem UI.over {l : List Nd} {f : Nat} {D : List Nat} (hI : UI l f D []) (y : Nat) : y ∈ D ↔ Under l f y := by
  have hI' := hI
  constructor
  · exact fun hy => hI.un y (by simp [hy])
  · intro hu
    induction hu with
    | here => have := hI.at0; simpa using this
    | @step n e hn he _ ih => have := hI.dn n hn ih e he; simpa using this
theorem nodup_sub_le : ∀ {a b : List Nat}, a.Nodup → (∀ z ∈ a, z ∈ b) → a.length ≤ b.length
  | [], b, _, _ => Nat.zero_le _
  | x :: a, b, h, hs => by
    obtain ⟨p, q, rfl⟩ := List.append_of_mem (hs x (by simp))
    rw [List.nodup_cons] at h
    have := nodup_sub_le (a := a) (b := p ++ q) h.2 fun z hz => by
      have h1 := hs z (by simp [hz])
      simp only [List.mem_append, List.mem_cons] at h1 ⊢
      rcases h1 with h1 | rfl | h1
      · exact .inl h1
      · exact absurd hz h.1
      · exact .inr h1
    simp only [List.length_append, List.length_cons] at this ⊢
    omega
theorem UI.len {t : Tr} (h : MayT t) {f : Nat} (hf : f ∈ inosL t.nodes) {D Q : List Nat} (hI : UI t.nodes f D Q) : (D ++ Q).length ≤ t.nodes.length := by
  have := nodup_sub_le hI.nd (hI.ino h hf)
  unfold inosL at this
  rwa [List.length_map] at this
/-- from the root on it is all -/
theorem UI.all {t : Tr} (h : MayT t) {D : List Nat} (hI : UI t.nodes 1 D []) : D.length = t.nodes.length := by
  obtain ⟨r, hr, hr1, -⟩ := h.root
  have h1 := hI.len h (mem_inos.2 ⟨r, hr, hr1⟩)
  have h2 : (inosL t.nodes).Nodup := (List.pairwise_map.2 h.rise).imp fun {a b} hab => by omega
  have h3 := nodup_sub_le (b := D) h2 fun z hz => by
    obtain ⟨n, hn, rfl⟩ := mem_inos.1 hz
    exact (hI.over n.ino).2 (h.above n hn)
  unfold inosL at h3
  rw [List.length_map] at h3
  rw [List.append_nil] at h1
  omega

end Go.Proofs.YtdhlejhflkfoaaaDoor

/- The program: under: a set of numbers, a queue of numbers. -/
namespace Go.Proofs.YtdhlejhflkfoaaaDoor
open Go.RowKit Go.Shelf Go.Maps
set_option linter.unusedVariables false
set_option maxRecDepth 100000
set_option linter.unusedSimpArgs false

/-! ### a set of numbers -/
def kyU (y : Nat) : Lit := .int .u32 (y : Int)
def SetIs (w : World) (b : Nat) (D : List Nat) : Prop := ∃ M : DataW Unit, w.ownsMap Tryd.prog 23 unitElem b D.length M ∧ (∀ y, Maps.has M (kyU y) = decide (y ∈ D)) ∧ Maps.size M = D.length
theorem SetIs.lt {w : World} {b : Nat} {D : List Nat} (h : SetIs w b D) : b < w.heap.size := by obtain ⟨M, h, _⟩ := h; exact h.lt
theorem SetIs.turn {w w' : World} {F : Nat → Prop} {b : Nat} {D : List Nat} (h : SetIs w b D) (ht : Turn w w' F) (hF : ¬ F b) : SetIs w' b D := by
  obtain ⟨M, h, r⟩ := h
  exact ⟨M, ownsMap_turn h ht hF, r⟩
theorem SetIs.below {w w' : World} {b : Nat} {D : List Nat} (h : SetIs w b D) (hb : Below w.heap.size w w') : SetIs w' b D := h.turn (Turn.of_below hb fun _ => False) fun h => h
theorem SetIs.new (w : World) : SetIs (w.alloc (.map #[] 0)) w.heap.size [] := ⟨.map [], World.ownsMap_made w Tryd.prog _ _, fun y => by simp [Maps.has_eq], rfl⟩
theorem keyedU : Keyed Tryd.prog 23 := int_keyed Tryd.underlying23
theorem wfU {y : Nat} (h : y < 4294967296) : (Lit.int .u32 (y : Int)).wf = true := by
  simp [Lit.wf, IntKind.min, IntKind.max, IntKind.signed, IntKind.bits]
  omega
theorem zeroUnit (w : World) : (zeroValue 109).run Tryd.prog w = .ok (.agg #[]) w := by kernel_rfl
theorem kyU_ne {a b : Nat} (h : a ≠ b) : kyU a ≠ kyU b := fun e => h (by unfold kyU at e; injection e with _ e; omega)
section
variable {w : World} {ops : Array Oper} {rest : List Oper} {o : Oper} {a : Act} {Q : Exit → Act → World → Prop}
theorem wpList_setHas (hgd : o.guard = none) (m x : Operand) (ho : o.op = .lookup 107 m x true) (b : Nat) (D : List Nat) (hm : a.eval m = .map (some b)) (hs : SetIs w b D) (y : Nat) (hy : y < 4294967296) (hx : a.eval x = .int .u32 (y : Int)) (q : Bool) (hq : decide (y ∈ D) = q)
    (h : wpList Tryd.prog ops Q rest (a.put o.dst (.tuple #[.agg #[], .bool q])) w) : wpList Tryd.prog ops Q (o :: rest) a w := by
  obtain ⟨M, h1, h2, h3⟩ := hs
  refine wpList_lookup_own_unit w hgd m x 107 ho 23 109 keyedU Tryd.underlying107 (zeroUnit w) b D.length M hm h1 _ (kyU y) hx (keyOf_int_mk Tryd.underlying23 (wfU hy)) ?_
  rw [h2 y, hq]
  exact h
theorem wpList_setPut (hgd : o.guard = none) (m x v : Operand) (ho : o.op = .mapUpdate 107 m x v) (b : Nat) (D : List Nat) (hm : a.eval m = .map (some b)) (hs : SetIs w b D) (hl : D.length ≤ 1000000) (y : Nat) (hy : y < 4294967296) (hx : a.eval x = .int .u32 (y : Int)) (hv : a.eval v = .agg #[]) (hD : y ∉ D)
    (h : ∀ w', SetIs w' b (D ++ [y]) → Turn w w' (· = b) → wpList Tryd.prog ops Q rest (a.put o.dst undef) w') : wpList Tryd.prog ops Q (o :: rest) a w := by
  obtain ⟨M, h1, h2, h3⟩ := hs
  refine wpList_mapUpdate_in w hgd m x v 107 ho 23 109 keyedU Tryd.underlying107 unitElem b D.length M hm h1 (by simp only [maxLen]; omega) _ _ (kyU y) hx hv (keyOf_int_mk Tryd.underlying23 (wfU hy)) (.agg []) [] unitElem_mk ?_
  intro w' h4 h5
  refine h w' ⟨M.put (kyU y) (.agg []), by rw [List.length_append]; exact h4, fun z => ?_, ?_⟩ ((Turn.of_grown h5.grown).mono fun k _ e => by injection e with e; exact e.symm)
  · by_cases e : z = y
    · subst e
      rw [has_put_same h1.isMap (by trivial)]
      simp
    · rw [has_put_other (kyU_ne e), h2 z]
      simp [e]
  · rw [size_put (h1.tidy keyedU), h2 y, if_neg (by simpa using hD), h3]
    simp
end
/-! ### a queue of numbers -/
def Qu (w : World) (base : Nat) (v : Value) (l : List Nat) : Prop := ∃ g o c cur, v = .slice (some ⟨g, o, none⟩) l.length c ∧ Cs w g 23 cur ∧ base ≤ g ∧ o + c ≤ cur.size ∧ l.length ≤ c ∧ c ≤ maxLen ∧ ∀ j (h : j < l.length), cur[o + j]? = some (.int .u32 (l[j] : Int))
theorem Qu.turn {w w' : World} {F : Nat → Prop} {base : Nat} {v : Value} {l : List Nat} (h : Qu w base v l) (ht : Turn w w' F) (hF : ∀ k, v.ownBlock = some k → ¬ F k) : Qu w' base v l := by
  obtain ⟨g, o, c, cur, rfl, h1, h2⟩ := h
  exact ⟨g, o, c, cur, rfl, h1.turn ht (hF g rfl), h2⟩
theorem Qu.below {w w' : World} {base : Nat} {v : Value} {l : List Nat} (h : Qu w base v l) (hb : Below w.heap.size w w') : Qu w' base v l := h.turn (Turn.of_below hb fun _ => False) fun _ _ h => h
theorem Qu.apart {w : World} {base b : Nat} {v : Value} {l D : List Nat} (h : Qu w base v l) (hs : SetIs w b D) : v.ownBlock ≠ some b := by
  obtain ⟨g, o, c, cur, rfl, h1, -⟩ := h
  obtain ⟨M, ⟨es, clock, h2, -⟩, -⟩ := hs
  intro e
  injection e with e
  dsimp only at e
  subst e
  rw [show w.heap[g]? = _ from h1] at h2
  cases h2
theorem infoU32x : ∃ i, Tryd.prog.info? 23 = some i ∧ i.zero = some (.int .u32 0) ∧ i.size = 1 ∧ i.bytes = 4 := ⟨_, rfl, rfl, rfl, rfl⟩
section
variable {w : World} {ops : Array Oper} {rest : List Oper} {o : Oper} {a : Act} {Q : Exit → Act → World → Prop}
theorem run_app_q {w : World} (ty : TypeId) {base : Nat} {v : Value} {l : List Nat} (hq : Qu w base v l) (vb x : Nat) (hv : Cs w vb 23 #[.int .u32 (x : Int)]) (hl : l.length ≤ 1000000) (hb : base ≤ w.heap.size) :
    ∃ v' w', (Builtin.append_ #[135, 135] ty #[v, .slice (some ⟨vb, 0, none⟩) 1 1]).run Tryd.prog w = .ok v' w' ∧ Qu w' base v' (l ++ [x]) ∧ Turn w w' (fun k => v.ownBlock = some k) := by
  obtain ⟨g, o, c, cur, rfl, hg, h1, h2, h3, h4, h5⟩ := hq
  obtain ⟨i, hi, hz, hs, hby⟩ := infoU32x
  have hnews : ∀ j u, [Value.int .u32 (x : Int)][j]? = some u → w.cell? ((⟨vb, 0, none⟩ : Addr).add j) = some u := fun j u hu => by
    rw [addr_add, Nat.zero_add]
    exact hv.cell j (by simpa using hu)
  have hone : ∀ u ∈ [Value.int .u32 (x : Int)], u.oneCell' = true := by intro u hu; simp at hu; subst hu; rfl
  by_cases hr : l.length + 1 ≤ c
  · have hf := run_firstCells_some (P := Tryd.prog) w i.size 1 ⟨vb, 0, none⟩ 1 1 [Value.int .u32 (x : Int)] (by simp [hs]) hnews
    have hst := run_storeCells_at Tryd.prog g (o + l.length) 23 [Value.int .u32 (x : Int)] 0 cur w hg (by simp; omega) hone
    simp only [Nat.add_zero] at hst
    rw [hs] at hf
    have hrun : (Builtin.append_ #[135, 135] ty #[.slice (some ⟨g, o, none⟩) l.length c, .slice (some ⟨vb, 0, none⟩) 1 1]).run Tryd.prog w = .ok (.slice (some ⟨g, o, none⟩) (l.length + 1) c) (w.setRow g (over cur (o + l.length) [.int .u32 (x : Int)])) := by
      simp [Builtin.append_, run_underlying Tryd.underlying135, sizeOf, typeInfo, hi, Builtin.lenOf, hr, hf, Addr.add_lit, hs, hst, over]
    refine ⟨_, _, hrun, ⟨g, o, c, _, by rw [List.length_append]; rfl, hg.row _, h1, ?_, by rw [List.length_append]; exact hr, h4, fun j hj => ?_⟩, ?_⟩
    · rw [over_size _ _ _ (by simp; omega)]; exact h2
    · by_cases e : j = l.length
      · subst e
        have := over_in cur (o + l.length) [.int .u32 (x : Int)] (by simp; omega) 0 (by simp)
        rw [Nat.add_zero] at this
        rw [this]
        simp
      · have hj2 : j < l.length := by rw [List.length_append] at hj; simp at hj; omega
        rw [over_out cur (o + l.length) _ (by simp; omega) (o + j) (by omega), h5 j hj2, List.getElem_append_left hj2]
    · exact ((Turn.of_grown (grown_row w g _)).mono fun k _ e => e)
  · obtain ⟨v', w', hrun, h6, h7⟩ := run_append_arg_grows (P := Tryd.prog) w 135 ty 23 i (.int .u32 0) 1 4 Tryd.underlying135 hi hz hs hby rfl (by decide) ⟨g, o, none⟩ l.length c (l.map fun n : Nat => Value.int .u32 (n : Int)) (by simp) (fun j u hu => by
      have hj : j < l.length := by have := (List.getElem?_eq_some_iff.1 hu).1; rwa [List.length_map] at this
      rw [addr_add]
      rw [List.getElem?_map, List.getElem?_eq_getElem hj] at hu
      exact hg.cell _ ((h5 j hj).trans hu)) ⟨vb, 0, none⟩ 1 1 [.int .u32 (x : Int)] (by simp) hnews (by omega) (by simp only [maxLen]; omega) (by omega)
    refine ⟨v', w', hrun, ?_, (Turn.of_grown h7).mono fun k _ e => by cases e⟩
    rcases h6.2 with ⟨_, h0⟩ | ⟨g', cap, cur', rfl, hb', hg', hc', hm', hs', ht'⟩
    · omega
    · refine ⟨g', 0, cap, cur', by rw [List.length_append]; rfl, hg', Nat.le_trans hb hb', by omega, by rw [List.length_append]; exact hc', hm', fun j hj => ?_⟩
      rw [Nat.zero_add]
      have hj' : j < (l.length + 1) * 1 := by rw [List.length_append] at hj; simp at hj; omega
      have e1 : cur'.toList[j]? = (cur'.toList.take ((l.length + 1) * 1))[j]? := by rw [List.getElem?_take_of_lt hj']
      rw [ht'] at e1
      have e2 : cur'[j]? = cur'.toList[j]? := by simp
      rw [e2, e1, show (l.map fun n : Nat => Value.int .u32 (n : Int)) ++ [.int .u32 (x : Int)] = (l ++ [x]).map fun n : Nat => Value.int .u32 (n : Int) by simp, List.getElem?_map, List.getElem?_eq_getElem hj]
      rfl
theorem wpList_appQ (hgd : o.guard = none) (s x : Operand) (ho : o.op = .call { callee := .builtin .append, args := #[s, x], argTypes := #[135, 135] }) {base : Nat} {v : Value} {l : List Nat} (hs : a.eval s = v) (hq : Qu w base v l) (vb y : Nat) (hx : a.eval x = .slice (some ⟨vb, 0, none⟩) 1 1) (hv : Cs w vb 23 #[.int .u32 (y : Int)]) (hl : l.length ≤ 1000000) (hb : base ≤ w.heap.size)
    (h : ∀ v' w', Qu w' base v' (l ++ [y]) → Turn w w' (fun k => v.ownBlock = some k) → wpList Tryd.prog ops Q rest (a.put o.dst v') w') : wpList Tryd.prog ops Q (o :: rest) a w := by
  obtain ⟨v', w', hr, h1, h2⟩ := run_app_q o.type hq vb y hv hl hb
  refine wpList_plain hgd fun K hK => ?_
  unfold Oper.wp execOp
  simp only [ho, resolve, invoke, builtin, Sem.run_bind, Sem.run_pure, Result.andThen_ok, List.map_toArray, List.map_cons, List.map_nil, hs, hx, hr]
  exact hK _ _ (h v' w' h1 h2)
end
theorem Qu.tail {w : World} {base : Nat} {g o c y : Nat} {l : List Nat} (h : Qu w base (.slice (some ⟨g, o, none⟩) (y :: l).length c) (y :: l)) : Qu w base (.slice (if c = 1 then some ⟨g, o, none⟩ else some ⟨g, o + 1, none⟩) l.length (c - 1)) l := by
  obtain ⟨g', o', c', cur, e, h1, h2, h3, h4, h5, h6⟩ := h
  injection e with e1 _ e2
  injection e1 with e1
  injection e1 with e3 e4
  subst e3 e4 e2
  simp only [List.length_cons] at h4
  by_cases hc : c = 1
  · subst hc
    have : l = [] := List.eq_nil_of_length_eq_zero (by omega)
    subst this
    exact ⟨g, o, 0, cur, by simp, h1, h2, by omega, by simp, by omega, fun j hj => by simp at hj⟩
  · refine ⟨g, o + 1, c - 1, cur, by simp [hc], h1, h2, by omega, by omega, by omega, fun j hj => ?_⟩
    have := h6 (j + 1) (by simp; omega)
    rw [show o + 1 + j = o + (j + 1) by omega, this]
    simp

end Go.Proofs.YtdhlejhflkfoaaaDoor

/- The program: under: what is beneath a node. -/
namespace Go.Proofs.YtdhlejhflkfoaaaDoor
open Go.RowKit Go.Shelf Go.Maps
set_option linter.unusedVariables false
set_option maxRecDepth 100000
set_option linter.unusedSimpArgs false

theorem Qu.head {w : World} {base : Nat} {v : Value} {y : Nat} {l : List Nat} (h : Qu w base v (y :: l)) : ∃ g o c, v = .slice (some ⟨g, o, none⟩) (l.length + 1) c ∧ l.length + 1 ≤ c ∧ w.cell? ⟨g, o, none⟩ = some (.int .u32 (y : Int)) := by
  obtain ⟨g, o, c, cur, rfl, h1, h2, h3, h4, h5, h6⟩ := h
  have := h6 0 (by simp)
  exact ⟨g, o, c, rfl, h4, h1.cell o (by simpa using this)⟩
theorem wpList_buildU {w : World} {ops : Array Oper} {rest : List Oper} {o : Oper} {a : Act} {Q : Exit → Act → World → Prop} (hgd : o.guard = none) (x : Operand) (ho : o.op = .buildSlice 135 1 #[(0, x)]) (n : Nat) (hx : a.eval x = .int .u32 (n : Int))
    (hK : ∀ g w', Cs w' g 23 #[.int .u32 (n : Int)] → Below w.heap.size w w' → w.heap.size ≤ g → wpList Tryd.prog ops Q rest (a.put o.dst (.slice (some ⟨g, 0, none⟩) 1 1)) w') : wpList Tryd.prog ops Q (o :: rest) a w := by
  refine wpList_plain hgd fun _ hh => wp_of_run2 (v := .slice (some ⟨w.heap.size, 0, none⟩) 1 1) (w' := w.alloc (.cells #[.int .u32 (n : Int)] 23)) ?_ (hh _ _ (hK _ _ (Cs.new _ _ _) ((Below.refl _ _).alloc (Nat.le_refl _) _) (Nat.le_refl _)))
  unfold execOp
  simp only [ho, hx, List.map_toArray, List.map_cons, List.map_nil]
  go_simp
theorem Qu.one {w : World} {base g f : Nat} (h : Cs w g 23 #[.int .u32 (f : Int)]) (hb : base ≤ g) : Qu w base (.slice (some ⟨g, 0, none⟩) 1 1) [f] := ⟨g, 0, 1, _, rfl, h, hb, by simp, by simp, by simp [maxLen], fun j hj => by simp at hj; subst hj; rfl⟩
end Go.Proofs.YtdhlejhflkfoaaaDoor

/- The program: May, of a tree that may be. -/
namespace Go.Proofs.YtdhlejhflkfoaaaDoor
open Go.RowKit Go.Shelf Go.Maps
set_option linter.unusedVariables false
set_option maxRecDepth 100000
set_option linter.unusedSimpArgs false

theorem bytesLess_is : ∀ a b : List UInt8, Op.bytesLess a b = decide (a < b)
  | [], [] => by simp [Op.bytesLess]
  | [], b :: q => by simp [Op.bytesLess]
  | a :: p, [] => by simp [Op.bytesLess]
  | a :: p, b :: q => by
    have ih := bytesLess_is p q
    unfold Op.bytesLess
    rw [ih]
    by_cases h1 : a < b
    · simp [h1, List.cons_lt_cons_iff]
    · by_cases h2 : a = b
      · subst h2
        simp [List.cons_lt_cons_iff]
      · simp [h1, h2, List.cons_lt_cons_iff]
theorem geq_sv (a b : Key) (h : lessK a b = true) (w : World) : (binOp .geq 9 (sv a) (sv b)).run Tryd.prog w = .ok (.bool false) w := by
  have h1 : Op.bytesLess a b = true := by
    rw [bytesLess_is]
    exact h
  have h2 : ¬ b = a := fun e => lessK_ne h e.symm
  have e1 : (⟨a.toArray⟩ : ByteArray).toList = a := by rw [Lib.toList_data]
  have e2 : (⟨b.toArray⟩ : ByteArray).toList = b := by rw [Lib.toList_data]
  unfold sv
  go_simp
  all_goals (try simp [e1, e2, h1, h2])

set_option maxHeartbeats 1000000 in
theorem inoOf_v (n : Nd) (cs : List Value) (G : Nat → Prop) (W : World) (h : NdAt W G cs n) :
    Calls Tryd.prog 50 #[.agg cs.toArray] W fun e w' => e = .returned (.int .u32 (n.ino : Int)) ∧ Below W.heap.size W w' := by
  obtain ⟨dv, nv, rfl, -⟩ := h
  go_enter Tryd.func50, Tryd.ntmps50
  go_wp2_with (first
    | ((with_reducible show wpList _ _ _ _ _ W); refine wpList_boxS rfl 48 _ rfl (ndC n dv nv) rfl ?_; intro g1 w1 hk1 hb1 hg1; go_frame; have q0 : w1.cell? ⟨g1, 0, none⟩ = some (.int .u32 (n.ino : Int)) := hk1.cell 0 rfl; have B1 := Lib.hid hb1; clear hk1 hb1 hg1)
    | fail)
  go_ret
  exact ⟨rfl, B1.out⟩
set_option maxHeartbeats 1000000 in
theorem nameOf_v (x : Ent) (cs : List Value) (G : Nat → Prop) (W : World) (h : entE.rd W G cs x) :
    Calls Tryd.prog 87 #[.agg cs.toArray] W fun e w' => e = .returned (sv x.1) ∧ Below W.heap.size W w' := by
  obtain ⟨rfl, -⟩ := h
  go_enter Tryd.func87, Tryd.ntmps87
  go_wp2_with (first
    | ((with_reducible show wpList _ _ _ _ _ W); refine wpList_boxS rfl 80 _ rfl [sv x.1, .int .u32 (x.2 : Int)] rfl ?_; intro g1 w1 hk1 hb1 hg1; go_frame; have q0 : w1.cell? ⟨g1, 0, none⟩ = some (sv x.1) := hk1.cell 0 rfl; have B1 := Lib.hid hb1; clear hk1 hb1 hg1)
    | fail)
  go_ret
  exact ⟨rfl, B1.out⟩
set_option maxHeartbeats 1000000 in
theorem isNoName_v (x : Ent) (cs : List Value) (G : Nat → Prop) (W : World) (hT : Tabs W) (h : entE.rd W G cs x) :
    Calls Tryd.prog 89 #[.agg cs.toArray] W fun e w' => e = .returned (.bool (!nameL x.1)) ∧ Below W.heap.size W w' := by
  obtain ⟨rfl, -⟩ := h
  have HT := Lib.hid hT
  clear hT
  go_enter Tryd.func89, Tryd.ntmps89
  go_wp2_with (first
    | ((with_reducible show wpList _ _ _ _ _ W); refine wpList_boxS rfl 80 _ rfl [sv x.1, .int .u32 (x.2 : Int)] rfl ?_; intro g1 w1 hk1 hb1 hg1; go_frame; have q0 : w1.cell? ⟨g1, 0, none⟩ = some (sv x.1) := hk1.cell 0 rfl; have B1 := Lib.hid hb1; have T1 := Lib.hid (HT.out.below hb1); clear hk1 hb1 hg1)
    | fail)
  refine (Is_sv x.1 w1 T1.out).mono ?_
  rintro e w2 ⟨rfl, hb⟩
  have B2 := Lib.hid (below_chain B1.out hb)
  clear hb
  go_wp2_with fail
  go_ret
  exact ⟨rfl, B2.out⟩
/-- a node may be, by itself -/
structure HoldN (n : Nd) : Prop where
  file : n.dir = false → n.names = [] ∧ n.data.length ≤ 4096
  dir : n.dir = true → n.data = [] ∧ n.names.length ≤ 32 ∧ SortE n.names ∧ ∀ e ∈ n.names, nameL e.1 = true
theorem hold_of {l : List Nd} {a b : Nat} {n : Nd} (h : NdOk l a b n) : HoldN n := ⟨fun e => ⟨h.file e, h.size⟩, fun e => ⟨h.isDir e, h.many, h.sort, fun x hx => (h.good x hx).1⟩⟩
end Go.Proofs.YtdhlejhflkfoaaaDoor

/- The program: May, of a tree that may be: it is true. -/
namespace Go.Proofs.YtdhlejhflkfoaaaDoor
open Go.RowKit Go.Shelf Go.Maps
set_option linter.unusedVariables false
set_option maxRecDepth 100000
set_option linter.unusedSimpArgs false

theorem wpList_setLenG {w : World} {ops : Array Oper} {rest : List Oper} {o : Oper} {a : Act} {Q : Exit → Act → World → Prop} (hw : Region.wanted o (yielded ops a.tmps) = true) (m : Operand) (ho : o.op = .call { callee := .builtin .len, args := #[m], argTypes := #[107] }) (b : Nat) (D : List Nat) (hm : a.eval m = .map (some b)) (hs : SetIs w b D)
    (h : wpList Tryd.prog ops Q rest (a.put o.dst (.int .i64 (D.length : Int))) w) : wpList Tryd.prog ops Q (o :: rest) a w := by
  obtain ⟨M, h1, h2, h3⟩ := hs
  refine BigFrame.wpList_want hw fun K hK => ?_
  have hr := h1.len (ty := o.type) Tryd.underlying107
  unfold Oper.wp execOp
  simp only [ho, resolve, invoke, builtin, Sem.run_bind, Sem.run_pure, Result.andThen_ok, List.map_toArray, List.map_cons, List.map_nil, hm, hr]
  rw [h3]
  exact hK _ _ h
def gensT (t : Tr) (k : Nat) : List Nat := (t.nodes.take k).map (·.gen)
theorem gens_snoc {t : Tr} {k : Nat} (h : k < t.nodes.length) : gensT t (k + 1) = gensT t k ++ [t.nodes[k].gen] := by
  unfold gensT
  rw [take_snoc h, List.map_append]
  rfl
theorem root_first {t : Tr} (hm : MayT t) : ∃ h : 0 < t.nodes.length, t.nodes[0].ino = 1 ∧ t.nodes[0].gen = 1 ∧ t.nodes[0].dir = true := by
  obtain ⟨r, h1, h2, h3, h4⟩ := hm.root
  have h0 : 0 < t.nodes.length := List.length_pos_of_mem h1
  refine ⟨h0, ?_⟩
  have e : t.nodes[0] = r := by
    obtain ⟨j, hj, e⟩ := List.getElem_of_mem h1
    by_cases hj0 : j = 0
    · subst hj0; exact e
    · have := List.pairwise_iff_getElem.1 hm.rise 0 j h0 hj (by omega)
      have h5 := (hm.ok _ (List.getElem_mem h0)).pos
      rw [e, h2] at this
      omega
  rw [e]
  exact ⟨h2, h3, h4⟩
end Go.Proofs.YtdhlejhflkfoaaaDoor
