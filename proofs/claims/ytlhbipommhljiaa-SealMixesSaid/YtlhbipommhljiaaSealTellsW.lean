/- SealTells, the walk: what the program answers is what the document answers. -/
import Derived.Test.YtlhbipommhljiaaSealLives
namespace Go.Proofs.Ytlhbipommhljiaa
open Go.RowKit Go.Shelf
set_option linter.unusedVariables false
set_option linter.unusedSimpArgs false

section
variable {w : World} {ops : Array Oper} {rest : List Oper} {o : Oper} {a : Act} {Q : Exit → Act → World → Prop} {K : Act → World → Prop}
theorem exec_eql_blk (x y : Operand) (yt : TypeId) (ho : o.op = .binOp .eql 25 x y yt) (l m : Blk) (hx : a.eval x = bv l) (hy : a.eval y = bv m) (hl : l.length = 64) (hm : m.length = 64) : (execOp a.eval o).run Try.prog w = .ok (.value (.bool (l == m))) w := by
  have hg := run_eqGuard_agg (P := Try.prog) w .eql 25 x y (cellsOf l).toArray (cellsOf m).toArray Try.eqGuardType25
  have he := run_equalIn_bytes (P := Try.prog) w 9998 25 5 64 Try.underlying25 Try.underlying5 Try.sizeOf5 l m hl hm
  have hn : (binOp .eql 25 (bv l) (bv m)).run Try.prog w = .ok (.bool (l == m)) w := by
    unfold bv
    rw [run_eql_struct]
    show ((Op.equalIn (9998 + 2) 25 (.agg (cellsOf l).toArray) (.agg (cellsOf m).toArray)).run Try.prog w).andThen _ = _
    rw [show (Op.equalIn (9998 + 2) 25 (.agg (cellsOf l).toArray) (.agg (cellsOf m).toArray)).run Try.prog w = .ok (l == m) w from he]
    rfl
  unfold execOp
  simp only [ho, hx, hy, Sem.run_bind, Sem.run_pure]
  rw [show (eqGuard .eql 25 x y (bv l) (bv m)).run Try.prog w = .ok () w from hg]
  simp only [Result.andThen_ok, hn]
theorem wpList_neq_blk (hw : Region.wanted o (yielded ops a.tmps) = true) (x y : Operand) (yt : TypeId) (ho : o.op = .binOp .neq 25 x y yt) (l m : Blk) (hx : a.eval x = bv l) (hy : a.eval y = bv m) (hl : l.length = 64) (hm : m.length = 64) (c : Bool) (hc : (!(l == m)) = c)
    (hK : wpList Try.prog ops Q rest (a.put o.dst (.bool c)) w) : wpList Try.prog ops Q (o :: rest) a w :=
  BigFrame.wpList_want hw fun K h => wp_of_run (exec_neq_blk x y yt ho l m hx hy hl hm) (h _ _ (by rw [hc]; exact hK))
theorem wpList_eql_blk (hw : Region.wanted o (yielded ops a.tmps) = true) (x y : Operand) (yt : TypeId) (ho : o.op = .binOp .eql 25 x y yt) (l m : Blk) (hx : a.eval x = bv l) (hy : a.eval y = bv m) (hl : l.length = 64) (hm : m.length = 64) (c : Bool) (hc : (l == m) = c)
    (hK : wpList Try.prog ops Q rest (a.put o.dst (.bool c)) w) : wpList Try.prog ops Q (o :: rest) a w :=
  BigFrame.wpList_want hw fun K h => wp_of_run (exec_eql_blk x y yt ho l m hx hy hl hm) (h _ _ (by rw [hc]; exact hK))
end
theorem OwnCur.mono {w : World} {B B' g : Nat} {l : List UInt8} (h : OwnCur w B g l) (hb : B' ≤ B) : OwnCur w B' g l := ⟨Nat.le_trans hb h.1, h.2⟩
theorem get_no (x : Blk) (hx : x.length = 64) (h : getE x ≠ 0) (w : World) : Calls Try.prog 9 #[bv x] w fun e w' => e = .returned (.tuple #[.int .u32 0, .slice none 0 0, .int .i64 (getE x)]) ∧ Below w.heap.size w w' :=
  (SGet_any x hx w).mono fun e w' ⟨hb, hh⟩ => by
    rcases hh with ⟨_, he⟩ | ⟨h0, _⟩
    · exact ⟨he, hb⟩
    · exact absurd h0 h
theorem get_ok (x : Blk) (hx : x.length = 64) (h : getE x = 0) (w : World) : Calls Try.prog 9 #[bv x] w fun e w' => ∃ g, e = .returned (.tuple #[.int .u32 (tag x 0), .slice (some ⟨g, 0, none⟩) 44 44, .int .i64 0]) ∧ OwnCur w' w.heap.size g (bodyOf x) ∧ Below w.heap.size w w' :=
  (SGet_any x hx w).mono fun e w' ⟨hb, hh⟩ => by
    rcases hh with ⟨h0, _⟩ | ⟨_, g, he, ho⟩
    · exact absurd h h0
    · exact ⟨g, he, ho, hb⟩
theorem getRef_no (x : Blk) (hx : x.length = 64) (h : getE x ≠ 0) (w : World) : Calls Try.prog 10 #[bv x] w fun e w' => e = .returned (.tuple #[.int .u32 0, .slice none 0 0, .int .i64 (getE x)]) ∧ Below w.heap.size w w' :=
  (SGetRef_any x hx w).mono fun e w' ⟨hb, hh⟩ => by
    rcases hh with ⟨_, he⟩ | ⟨h0, _⟩
    · exact ⟨he, hb⟩
    · exact absurd h0 h
theorem getRef_ok (x : Blk) (hx : x.length = 64) (h : getE x = 0) (w : World) : Calls Try.prog 10 #[bv x] w fun e w' => ∃ g cap, e = .returned (.tuple #[.int .u32 (tag x 0), .slice (some ⟨g, 0, none⟩) 44 cap, .int .i64 0]) ∧ Rd w' (some ⟨g, 0, none⟩) (bodyOf x) ∧ Below w.heap.size w w' :=
  (SGetRef_any x hx w).mono fun e w' ⟨hb, hh⟩ => by
    rcases hh with ⟨h0, _⟩ | ⟨_, g, cap, he, _, _, hr⟩
    · exact absurd h h0
    · exact ⟨g, cap, he, hr, hb⟩
set_option maxRecDepth 100000 in
set_option maxHeartbeats 8000000 in
theorem tells_no (n : Int) (l : List UInt8) (A : Option Addr) (cp : Nat) (x y : Blk) (bs : Int) (w : World) (h0 : 0 ≤ n) (h1 : n < 4294967296) (hl : l.length + 3 ≤ 140737488355328) (hr : Rd w A l) (hA : A = none → l = [] ∧ cp = 0) (hx : x.length = 64) (hy : y.length = 64) (h8 : 0 ≤ bs) (h9 : bs < 256) (hg0 : getE x ≠ 0) :
    Calls Try.prog 3 #[.int .u32 n, .slice A l.length cp, bv x, bv y, .int .u8 bs] w fun e w' => e = .returned (.bool true) ∧ Below w.heap.size w w' := by
  have HX := Lib.hid hx
  have HY := Lib.hid hy
  have hwide := fun W h => Wide_any l A cp W (by omega) h hA
  have hput := fun g cap W h => Put_any n l (some ⟨g, 0, none⟩) cap W (by omega) h0 h1 h
  have hrput := fun W h => RefPut_any n l A cp W (by omega) h0 h1 h
  have hleft := fun g cap W hc hm h h2 => Left_any l A cp g cap W hc hm h h2
  have HPL := Lib.hid (putB_len n l)
  have HGG := Lib.hid (Greatest_any x hx)
  have HGR := Lib.hid (GreatestRef_any x hx)
  have HMM := Lib.hid (fun W => Mix_any x y bs W hx hy h8 h9)
  have HMR := Lib.hid (fun W => MixRef_any x y bs W hx hy h8 h9)
  have HTL := Lib.hid (torn_len x y bs hx hy)
  have HR := Lib.hid hr
  have hmix : Try.prog.follows .mixedOrders = true := by kernel_rfl
  have hget := get_no x hx hg0
  have hgetr := getRef_no x hx hg0
  generalize getE x = ge at *
  generalize putB n l = pb at *
  generalize putE n l = pe at *
  generalize greatest x = gr at *
  generalize torn x y bs = tn at *
  have h1' : n ≤ 4294967295 := by omega
  have h9' : bs ≤ 255 := by omega
  clear hx hy hr hA hl h1 h9 hg0
  go_enter Try.func3, Try.ntmps3
  go_wp2_with (first 
    | (refine wpList_box_blk rfl (.tmp 2) rfl x rfl ?_; intro g7 u1 hk hb hg; go_frame; have K7 := Lib.hid hk; have B1 := Lib.hid hb; clear hk hb hg) 
    | (refine wpList_box_blk rfl (.tmp 3) rfl y rfl ?_; intro g8 u2 hk hb hg; go_frame; have K8 := Lib.hid hk; have B2 := Lib.hid hb; clear hk hb hg))
  have BW := Lib.hid (below_chain B1.out B2.out)
  have K7b := Lib.hid (K7.out.below B2.out K7.out.lt)
  clear K7 B1 B2
  refine (hwide _ (HR.out.below BW.out)).mono ?_
  clear hwide
  rintro e v1 ⟨go, cap, rfl, hc1, hc2, hrw, hb⟩
  have RW := Lib.hid hrw
  have HC1 := Lib.hid hc1
  have HC2 := Lib.hid hc2
  have B3 := Lib.hid hb
  have hc2' : cap ≤ 9223372036854775807 := by unfold maxLen at hc2; exact hc2
  clear hrw hb hc1 hc2
  go_wp2_with fail
  refine (hput _ _ _ (rd_prefix RW.out)).mono ?_
  clear hput
  rintro e v2 ⟨rfl, hb⟩
  have B4 := Lib.hid (below_chain B3.out hb)
  have RW2 := Lib.hid (RW.out.below hb)
  clear hb B3 RW
  go_wp2_with (first 
    | (refine wpList_alloc_blk rfl rfl ?_; intro g12 u3 hk hb hg; go_frame; have KA12 := Lib.hid hk; have BA12 := Lib.hid hb; have GA12 := Lib.hid hg; clear hk hb hg) 
    | (refine wpList_fill_blk rfl (.tmp 12) _ rfl g12 rfl pb rfl HPL.out KA12.out ?_; intro x3 hk hr; go_frame; have KF12 := Lib.hid hk; have BF12 := Lib.hid (keep_own BA12.out hr GA12.out); clear hk hr))
  have B5 := Lib.hid (below_chain B4.out BF12.out)
  have RW3 := Lib.hid (RW2.out.below BF12.out)
  clear B4 RW2 BA12 GA12 KA12 BF12
  refine (hrput _ (HR.out.below (below_chain BW.out B5.out))).mono ?_
  clear hrput
  rintro e v3 ⟨rfl, hb⟩
  have B6 := Lib.hid (below_chain B5.out hb)
  have RW4 := Lib.hid (RW3.out.below hb)
  have K12 := Lib.hid (KF12.out.below hb KF12.out.lt)
  clear hb B5 RW3 KF12
  go_wp2_with (first 
    | (refine wpList_alloc_blk rfl rfl ?_; intro g14 u4 hk hb hg; go_frame; have KA14 := Lib.hid hk; have BA14 := Lib.hid hb; have GA14 := Lib.hid hg; clear hk hb hg) 
    | (refine wpList_fill_blk rfl (.tmp 14) _ rfl g14 rfl pb rfl HPL.out KA14.out ?_; intro x4 hk hr; go_frame; have KF14 := Lib.hid hk; have BF14 := Lib.hid (keep_own BA14.out hr GA14.out); clear hk hr) 
    | (refine wpList_load_blk rfl (.tmp 7) rfl g7 0 rfl x HX.out (At.whole ((K7b.out.below B6.out K7b.out.lt).below BF14.out (K7b.out.below B6.out K7b.out.lt).lt)) ?_; go_frame))
  have B7 := Lib.hid (below_chain B6.out BF14.out)
  have RW5 := Lib.hid (RW4.out.below BF14.out)
  have K12b := Lib.hid (K12.out.below BF14.out K12.out.lt)
  have K7c := Lib.hid (K7b.out.below B7.out K7b.out.lt)
  have K8c := Lib.hid (K8.out.below B7.out K8.out.lt)
  have BV := Lib.hid (below_chain BW.out B7.out)
  have RL := Lib.hid (HR.out.below BV.out)
  clear B6 RW4 K12 BA14 GA14 KA14 BF14 B7 K7b K8 BW HR
  refine (hget _).mono ?_
  rintro e v4 ⟨rfl, hb⟩
  have H1 := Lib.hid hb
  clear hb
  go_wp2_with (first 
    | (refine wpList_load_blk rfl (.tmp 7) rfl g7 0 rfl x HX.out (At.whole (K7c.out.below H1.out K7c.out.lt)) ?_; go_frame))
  refine (hgetr _).mono ?_
  clear hgetr
  rintro e v5 ⟨rfl, hb⟩
  have H2 := Lib.hid (below_chain H1.out hb)
  clear hb H1
  go_wp2_with (first 
    | (refine wpList_load_blk rfl (.tmp 12) rfl g12 0 rfl pb HPL.out (At.whole (K12b.out.below H2.out K12b.out.lt)) ?_; go_frame) 
    | (refine wpList_load_blk rfl (.tmp 14) rfl g14 0 rfl pb HPL.out (At.whole (KF14.out.below H2.out KF14.out.lt)) ?_; go_frame) 
    | (refine wpList_neq_blk (by kernel_rfl) (.tmp 51) (.tmp 52) _ rfl pb pb rfl rfl HPL.out HPL.out false (by simp) ?_; go_frame))
  have hsame := Same_any none none [] [] 0 0 v5 (.inl rfl) (.inl rfl)
  rw [show (([] : List UInt8) == []) = true by decide] at hsame
  refine hsame.mono ?_
  clear hsame
  rintro e _ ⟨rfl, rfl⟩
  go_wp2_with fail
  refine (hleft _ _ _ HC1.out HC2.out (RW5.out.below H2.out) (RL.out.below H2.out)).mono ?_
  clear hleft
  rintro e _ ⟨rfl, rfl⟩
  go_wp2_with fail
  refine (Spoil_nil 3 _).mono ?_
  rintro e _ ⟨⟨sv, rfl⟩, rfl⟩
  have H3 := H2
  clear RW5 RL K12b KF14 HC1 HC2 HPL H2
  go_wp2_with (first 
    | (refine wpList_load_blk rfl (.tmp 7) rfl g7 0 rfl x HX.out (At.whole (K7c.out.below H3.out K7c.out.lt)) ?_; go_frame))
  refine (hget _).mono ?_
  clear hget
  rintro e v7 ⟨rfl, hb⟩
  have H4 := Lib.hid (below_chain H3.out hb)
  clear hb H3
  go_wp2_with fail
  refine wp_region_U (S := fun w9 => Below x4.heap.size x4 w9) hmix H4.out.drew ?_
  change wpAnyU _ _ _ _ _ _ _ _
  refine wpAnyU_take (i := 0) (v := .int .u32 0) rfl (by kernel_rfl) (by kernel_rfl) (by kernel_rfl) (fun _ _ _ h => h) (DoesIf.reads (by rfl) fun w9 hS => by go_simp) ?_
  try simp only [List.getElem_toArray, List.getElem_cons_succ, List.getElem_cons_zero, Act.put, List.setIfInBounds_toArray, List.set_cons_succ, List.set_cons_zero]
  refine wpAnyU_take (i := 1) (v := .int .u32 0) rfl (by kernel_rfl) (by kernel_rfl) (by kernel_rfl) (fun _ _ _ h => h) (DoesIf.reads (by rfl) fun w9 hS => by go_simp) ?_
  try simp only [List.getElem_toArray, List.getElem_cons_succ, List.getElem_cons_zero, Act.put, List.setIfInBounds_toArray, List.set_cons_succ, List.set_cons_zero]
  refine wpAnyU_take (i := 2) (v := .bool true) rfl (by kernel_rfl) (by kernel_rfl) (by kernel_rfl) (fun _ _ _ h => h) (DoesIf.reads (by rfl) fun w9 hS => by go_simp) ?_
  try simp only [List.getElem_toArray, List.getElem_cons_succ, List.getElem_cons_zero, Act.put, List.setIfInBounds_toArray, List.set_cons_succ, List.set_cons_zero]
  refine wpAnyU_take (i := 3) (v := .bool true) rfl (by kernel_rfl) (by kernel_rfl) (by kernel_rfl) (fun _ _ _ h => h) (DoesIf.reads (by rfl) fun w9 hS => by go_simp) ?_
  try simp only [List.getElem_toArray, List.getElem_cons_succ, List.getElem_cons_zero, Act.put, List.setIfInBounds_toArray, List.set_cons_succ, List.set_cons_zero]
  refine wpAnyU_take (i := 4) (v := .int .i64 ge) rfl (by kernel_rfl) (by kernel_rfl) (by kernel_rfl) (fun _ _ _ h => h) (DoesIf.reads (by rfl) fun w9 hS => by go_simp) ?_
  try simp only [List.getElem_toArray, List.getElem_cons_succ, List.getElem_cons_zero, Act.put, List.setIfInBounds_toArray, List.set_cons_succ, List.set_cons_zero]
  refine wpAnyU_take (i := 5) (v := .int .i64 ge) rfl (by kernel_rfl) (by kernel_rfl) (by kernel_rfl) (fun _ _ _ h => h) (DoesIf.reads (by rfl) fun w9 hS => by go_simp) ?_
  try simp only [List.getElem_toArray, List.getElem_cons_succ, List.getElem_cons_zero, Act.put, List.setIfInBounds_toArray, List.set_cons_succ, List.set_cons_zero]
  refine wpAnyU_take (i := 6) (v := .bool true) rfl (by kernel_rfl) (by kernel_rfl) (by kernel_rfl) (fun _ _ _ h => h) (DoesIf.reads (by rfl) fun w9 hS => by go_simp) ?_
  try simp only [List.getElem_toArray, List.getElem_cons_succ, List.getElem_cons_zero, Act.put, List.setIfInBounds_toArray, List.set_cons_succ, List.set_cons_zero]
  refine wpAnyU_take (i := 7) (v := .bool true) rfl (by kernel_rfl) (by kernel_rfl) (by kernel_rfl) (fun _ _ _ h => h) (DoesIf.reads (by rfl) fun w9 hS => by go_simp) ?_
  try simp only [List.getElem_toArray, List.getElem_cons_succ, List.getElem_cons_zero, Act.put, List.setIfInBounds_toArray, List.set_cons_succ, List.set_cons_zero]
  refine wpAnyU_take (i := 8) (v := .bool true) rfl (by kernel_rfl) (by kernel_rfl) (by kernel_rfl) (fun _ _ _ h => h) (DoesIf.reads (by rfl) fun w9 hS => by go_simp) ?_
  try simp only [List.getElem_toArray, List.getElem_cons_succ, List.getElem_cons_zero, Act.put, List.setIfInBounds_toArray, List.set_cons_succ, List.set_cons_zero]
  refine wpAnyU_take (i := 9) (v := bv x) rfl (by kernel_rfl) (by kernel_rfl) (by kernel_rfl) (fun _ _ _ h => h) (DoesIf.reads (by rfl) fun w9 hS => exec_load_blk (.tmp 7) rfl g7 0 rfl x HX.out (At.whole (K7c.out.below hS K7c.out.lt))) ?_
  try simp only [List.getElem_toArray, List.getElem_cons_succ, List.getElem_cons_zero, Act.put, List.setIfInBounds_toArray, List.set_cons_succ, List.set_cons_zero]
  refine wpAnyU_take (i := 11) (v := bv x) rfl (by kernel_rfl) (by kernel_rfl) (by kernel_rfl) (fun _ _ _ h => h) (DoesIf.reads (by rfl) fun w9 hS => exec_load_blk (.tmp 7) rfl g7 0 rfl x HX.out (At.whole (K7c.out.below hS K7c.out.lt))) ?_
  try simp only [List.getElem_toArray, List.getElem_cons_succ, List.getElem_cons_zero, Act.put, List.setIfInBounds_toArray, List.set_cons_succ, List.set_cons_zero]
  refine wpAnyU_take (i := 10) (v := .int .u32 gr) rfl (by kernel_rfl) (by kernel_rfl) (by kernel_rfl) (fun _ _ _ h => h) (DoesIf.calls (f := 14) (args := #[bv x]) (by rfl) (fun w9 hS => by go_simp) (fun w9 hS => (HGG.out w9).mono fun e w' h => ⟨h.1, below_chain hS h.2⟩)) ?_
  try simp only [List.getElem_toArray, List.getElem_cons_succ, List.getElem_cons_zero, Act.put, List.setIfInBounds_toArray, List.set_cons_succ, List.set_cons_zero]
  refine wpAnyU_take (i := 12) (v := .int .u32 gr) rfl (by kernel_rfl) (by kernel_rfl) (by kernel_rfl) (fun _ _ _ h => h) (DoesIf.calls (f := 15) (args := #[bv x]) (by rfl) (fun w9 hS => by go_simp) (fun w9 hS => (HGR.out w9).mono fun e w' h => ⟨h.1, below_chain hS h.2⟩)) ?_
  try simp only [List.getElem_toArray, List.getElem_cons_succ, List.getElem_cons_zero, Act.put, List.setIfInBounds_toArray, List.set_cons_succ, List.set_cons_zero]
  refine wpAnyU_take (i := 13) (v := .bool true) rfl (by kernel_rfl) (by kernel_rfl) (by kernel_rfl) (fun _ _ _ h => h) (DoesIf.reads (by rfl) fun w9 hS => by go_simp) ?_
  try simp only [List.getElem_toArray, List.getElem_cons_succ, List.getElem_cons_zero, Act.put, List.setIfInBounds_toArray, List.set_cons_succ, List.set_cons_zero]
  refine wpAnyU_take (i := 14) (v := .bool true) rfl (by kernel_rfl) (by kernel_rfl) (by kernel_rfl) (fun _ _ _ h => h) (DoesIf.reads (by rfl) fun w9 hS => by go_simp) ?_
  try simp only [List.getElem_toArray, List.getElem_cons_succ, List.getElem_cons_zero, Act.put, List.setIfInBounds_toArray, List.set_cons_succ, List.set_cons_zero]
  refine wpAnyU_take (i := 15) (v := .bool true) rfl (by kernel_rfl) (by kernel_rfl) (by kernel_rfl) (fun _ _ _ h => h) (DoesIf.reads (by rfl) fun w9 hS => by go_simp) ?_
  try simp only [List.getElem_toArray, List.getElem_cons_succ, List.getElem_cons_zero, Act.put, List.setIfInBounds_toArray, List.set_cons_succ, List.set_cons_zero]
  refine wpAnyU_take (i := 16) (v := bv x) rfl (by kernel_rfl) (by kernel_rfl) (by kernel_rfl) (fun _ _ _ h => h) (DoesIf.reads (by rfl) fun w9 hS => exec_load_blk (.tmp 7) rfl g7 0 rfl x HX.out (At.whole (K7c.out.below hS K7c.out.lt))) ?_
  try simp only [List.getElem_toArray, List.getElem_cons_succ, List.getElem_cons_zero, Act.put, List.setIfInBounds_toArray, List.set_cons_succ, List.set_cons_zero]
  refine wpAnyU_take (i := 17) (v := bv y) rfl (by kernel_rfl) (by kernel_rfl) (by kernel_rfl) (fun _ _ _ h => h) (DoesIf.reads (by rfl) fun w9 hS => exec_load_blk (.tmp 8) rfl g8 0 rfl y HY.out (At.whole (K8c.out.below hS K8c.out.lt))) ?_
  try simp only [List.getElem_toArray, List.getElem_cons_succ, List.getElem_cons_zero, Act.put, List.setIfInBounds_toArray, List.set_cons_succ, List.set_cons_zero]
  refine wpAnyU_take (i := 18) (v := .int .u8 bs) rfl (by kernel_rfl) (by kernel_rfl) (by kernel_rfl) (fun _ _ _ h => h) (DoesIf.reads (by rfl) fun w9 hS => by go_simp) ?_
  try simp only [List.getElem_toArray, List.getElem_cons_succ, List.getElem_cons_zero, Act.put, List.setIfInBounds_toArray, List.set_cons_succ, List.set_cons_zero]
  refine wpAnyU_take (i := 20) (v := bv x) rfl (by kernel_rfl) (by kernel_rfl) (by kernel_rfl) (fun _ _ _ h => h) (DoesIf.reads (by rfl) fun w9 hS => exec_load_blk (.tmp 7) rfl g7 0 rfl x HX.out (At.whole (K7c.out.below hS K7c.out.lt))) ?_
  try simp only [List.getElem_toArray, List.getElem_cons_succ, List.getElem_cons_zero, Act.put, List.setIfInBounds_toArray, List.set_cons_succ, List.set_cons_zero]
  refine wpAnyU_take (i := 21) (v := bv y) rfl (by kernel_rfl) (by kernel_rfl) (by kernel_rfl) (fun _ _ _ h => h) (DoesIf.reads (by rfl) fun w9 hS => exec_load_blk (.tmp 8) rfl g8 0 rfl y HY.out (At.whole (K8c.out.below hS K8c.out.lt))) ?_
  try simp only [List.getElem_toArray, List.getElem_cons_succ, List.getElem_cons_zero, Act.put, List.setIfInBounds_toArray, List.set_cons_succ, List.set_cons_zero]
  refine wpAnyU_take (i := 22) (v := .int .u8 bs) rfl (by kernel_rfl) (by kernel_rfl) (by kernel_rfl) (fun _ _ _ h => h) (DoesIf.reads (by rfl) fun w9 hS => by go_simp) ?_
  try simp only [List.getElem_toArray, List.getElem_cons_succ, List.getElem_cons_zero, Act.put, List.setIfInBounds_toArray, List.set_cons_succ, List.set_cons_zero]
  refine wpAnyU_take (i := 19) (v := bv tn) rfl (by kernel_rfl) (by kernel_rfl) (by kernel_rfl) (fun _ _ _ h => h) (DoesIf.calls (f := 16) (args := #[bv x, bv y, .int .u8 bs]) (by rfl) (fun w9 hS => by go_simp) (fun w9 hS => (HMM.out w9).mono fun e w' h => ⟨h.1, below_chain hS h.2⟩)) ?_
  try simp only [List.getElem_toArray, List.getElem_cons_succ, List.getElem_cons_zero, Act.put, List.setIfInBounds_toArray, List.set_cons_succ, List.set_cons_zero]
  refine wpAnyU_take (i := 23) (v := bv tn) rfl (by kernel_rfl) (by kernel_rfl) (by kernel_rfl) (fun _ _ _ h => h) (DoesIf.calls (f := 17) (args := #[bv x, bv y, .int .u8 bs]) (by rfl) (fun w9 hS => by go_simp) (fun w9 hS => (HMR.out w9).mono fun e w' h => ⟨h.1, below_chain hS h.2⟩)) ?_
  try simp only [List.getElem_toArray, List.getElem_cons_succ, List.getElem_cons_zero, Act.put, List.setIfInBounds_toArray, List.set_cons_succ, List.set_cons_zero]
  refine wpAnyU_take (i := 24) (v := .bool true) rfl (by kernel_rfl) (by kernel_rfl) (by kernel_rfl) (fun _ _ _ h => h) (DoesIf.reads (by rfl) fun w9 hS => (exec_eql_blk (.tmp 108) (.tmp 112) _ rfl tn tn rfl rfl HTL.out HTL.out).trans (by rw [beq_self_eq_true])) ?_
  try simp only [List.getElem_toArray, List.getElem_cons_succ, List.getElem_cons_zero, Act.put, List.setIfInBounds_toArray, List.set_cons_succ, List.set_cons_zero]
  refine wpAnyU_take (i := 25) (v := .bool true) rfl (by kernel_rfl) (by kernel_rfl) (by kernel_rfl) (fun _ _ _ h => h) (DoesIf.reads (by rfl) fun w9 hS => by go_simp) ?_
  try simp only [List.getElem_toArray, List.getElem_cons_succ, List.getElem_cons_zero, Act.put, List.setIfInBounds_toArray, List.set_cons_succ, List.set_cons_zero]
  refine wpAnyU_take (i := 26) (v := .bool true) rfl (by kernel_rfl) (by kernel_rfl) (by kernel_rfl) (fun _ _ _ h => h) (DoesIf.reads (by rfl) fun w9 hS => by go_simp) ?_
  try simp only [List.getElem_toArray, List.getElem_cons_succ, List.getElem_cons_zero, Act.put, List.setIfInBounds_toArray, List.set_cons_succ, List.set_cons_zero]
  refine wpAnyU_take (i := 27) (v := .bool true) rfl (by kernel_rfl) (by kernel_rfl) (by kernel_rfl) (fun _ _ _ h => h) (DoesIf.calls (f := 18) (args := #[]) (by rfl) (fun w9 hS => by go_simp) (fun w9 hS => (lives_any w9).mono fun e w' h => ⟨h.1, below_chain hS h.2⟩)) ?_
  try simp only [List.getElem_toArray, List.getElem_cons_succ, List.getElem_cons_zero, Act.put, List.setIfInBounds_toArray, List.set_cons_succ, List.set_cons_zero]
  refine wpAnyU_take (i := 28) (v := .bool true) rfl (by kernel_rfl) (by kernel_rfl) (by kernel_rfl) (fun _ _ _ h => h) (DoesIf.reads (by rfl) fun w9 hS => by go_simp) ?_
  try simp only [List.getElem_toArray, List.getElem_cons_succ, List.getElem_cons_zero, Act.put, List.setIfInBounds_toArray, List.set_cons_succ, List.set_cons_zero]
  refine wpAnyU_take (i := 29) (v := .bool true) rfl (by kernel_rfl) (by kernel_rfl) (by kernel_rfl) (fun _ _ _ h => h) (DoesIf.reads (by rfl) fun w9 hS => by go_simp) ?_
  try simp only [List.getElem_toArray, List.getElem_cons_succ, List.getElem_cons_zero, Act.put, List.setIfInBounds_toArray, List.set_cons_succ, List.set_cons_zero]
  refine wpAnyU_done (by kernel_rfl) (fun w9 hS => ?_) _
  go_wp2
  go_ret
  exact ⟨rfl, below_chain BV.out hS⟩
set_option maxRecDepth 100000 in
set_option maxHeartbeats 8000000 in
theorem tells_ok (n : Int) (l : List UInt8) (A : Option Addr) (cp : Nat) (x y : Blk) (bs : Int) (w : World) (h0 : 0 ≤ n) (h1 : n < 4294967296) (hl : l.length + 3 ≤ 140737488355328) (hr : Rd w A l) (hA : A = none → l = [] ∧ cp = 0) (hx : x.length = 64) (hy : y.length = 64) (h8 : 0 ≤ bs) (h9 : bs < 256) (hg0 : getE x = 0) :
    Calls Try.prog 3 #[.int .u32 n, .slice A l.length cp, bv x, bv y, .int .u8 bs] w fun e w' => e = .returned (.bool true) ∧ Below w.heap.size w w' := by
  have HX := Lib.hid hx
  have HY := Lib.hid hy
  have hwide := fun W h => Wide_any l A cp W (by omega) h hA
  have hput := fun g cap W h => Put_any n l (some ⟨g, 0, none⟩) cap W (by omega) h0 h1 h
  have hrput := fun W h => RefPut_any n l A cp W (by omega) h0 h1 h
  have hleft := fun g cap W hc hm h h2 => Left_any l A cp g cap W hc hm h h2
  have HPL := Lib.hid (putB_len n l)
  have HGG := Lib.hid (Greatest_any x hx)
  have HGR := Lib.hid (GreatestRef_any x hx)
  have HMM := Lib.hid (fun W => Mix_any x y bs W hx hy h8 h9)
  have HMR := Lib.hid (fun W => MixRef_any x y bs W hx hy h8 h9)
  have HTL := Lib.hid (torn_len x y bs hx hy)
  have HR := Lib.hid hr
  have hmix : Try.prog.follows .mixedOrders = true := by kernel_rfl
  have hget := get_ok x hx hg0
  have hgetr := getRef_ok x hx hg0
  have HBL := Lib.hid (bodyOf_len x hx)
  generalize putB n l = pb at *
  generalize putE n l = pe at *
  generalize greatest x = gr at *
  generalize torn x y bs = tn at *
  generalize hbo : bodyOf x = bo at *
  generalize tag x 0 = tg at *
  clear hbo
  have h1' : n ≤ 4294967295 := by omega
  have h9' : bs ≤ 255 := by omega
  clear hx hy hr hA hl h1 h9 hg0
  go_enter Try.func3, Try.ntmps3
  go_wp2_with (first 
    | (refine wpList_box_blk rfl (.tmp 2) rfl x rfl ?_; intro g7 u1 hk hb hg; go_frame; have K7 := Lib.hid hk; have B1 := Lib.hid hb; clear hk hb hg) 
    | (refine wpList_box_blk rfl (.tmp 3) rfl y rfl ?_; intro g8 u2 hk hb hg; go_frame; have K8 := Lib.hid hk; have B2 := Lib.hid hb; clear hk hb hg))
  have BW := Lib.hid (below_chain B1.out B2.out)
  have K7b := Lib.hid (K7.out.below B2.out K7.out.lt)
  clear K7 B1 B2
  refine (hwide _ (HR.out.below BW.out)).mono ?_
  clear hwide
  rintro e v1 ⟨go, cap, rfl, hc1, hc2, hrw, hb⟩
  have RW := Lib.hid hrw
  have HC1 := Lib.hid hc1
  have HC2 := Lib.hid hc2
  have B3 := Lib.hid hb
  have hc2' : cap ≤ 9223372036854775807 := by unfold maxLen at hc2; exact hc2
  clear hrw hb hc1 hc2
  go_wp2_with fail
  refine (hput _ _ _ (rd_prefix RW.out)).mono ?_
  clear hput
  rintro e v2 ⟨rfl, hb⟩
  have B4 := Lib.hid (below_chain B3.out hb)
  have RW2 := Lib.hid (RW.out.below hb)
  clear hb B3 RW
  go_wp2_with (first 
    | (refine wpList_alloc_blk rfl rfl ?_; intro g12 u3 hk hb hg; go_frame; have KA12 := Lib.hid hk; have BA12 := Lib.hid hb; have GA12 := Lib.hid hg; clear hk hb hg) 
    | (refine wpList_fill_blk rfl (.tmp 12) _ rfl g12 rfl pb rfl HPL.out KA12.out ?_; intro x3 hk hr; go_frame; have KF12 := Lib.hid hk; have BF12 := Lib.hid (keep_own BA12.out hr GA12.out); clear hk hr))
  have B5 := Lib.hid (below_chain B4.out BF12.out)
  have RW3 := Lib.hid (RW2.out.below BF12.out)
  clear B4 RW2 BA12 GA12 KA12 BF12
  refine (hrput _ (HR.out.below (below_chain BW.out B5.out))).mono ?_
  clear hrput
  rintro e v3 ⟨rfl, hb⟩
  have B6 := Lib.hid (below_chain B5.out hb)
  have RW4 := Lib.hid (RW3.out.below hb)
  have K12 := Lib.hid (KF12.out.below hb KF12.out.lt)
  clear hb B5 RW3 KF12
  go_wp2_with (first 
    | (refine wpList_alloc_blk rfl rfl ?_; intro g14 u4 hk hb hg; go_frame; have KA14 := Lib.hid hk; have BA14 := Lib.hid hb; have GA14 := Lib.hid hg; clear hk hb hg) 
    | (refine wpList_fill_blk rfl (.tmp 14) _ rfl g14 rfl pb rfl HPL.out KA14.out ?_; intro x4 hk hr; go_frame; have KF14 := Lib.hid hk; have BF14 := Lib.hid (keep_own BA14.out hr GA14.out); clear hk hr) 
    | (refine wpList_load_blk rfl (.tmp 7) rfl g7 0 rfl x HX.out (At.whole ((K7b.out.below B6.out K7b.out.lt).below BF14.out (K7b.out.below B6.out K7b.out.lt).lt)) ?_; go_frame))
  have B7 := Lib.hid (below_chain B6.out BF14.out)
  have RW5 := Lib.hid (RW4.out.below BF14.out)
  have K12b := Lib.hid (K12.out.below BF14.out K12.out.lt)
  have K7c := Lib.hid (K7b.out.below B7.out K7b.out.lt)
  have K8c := Lib.hid (K8.out.below B7.out K8.out.lt)
  have BV := Lib.hid (below_chain BW.out B7.out)
  have RL := Lib.hid (HR.out.below BV.out)
  clear B6 RW4 K12 BA14 GA14 KA14 BF14 B7 K7b K8 BW HR
  refine (hget _).mono ?_
  rintro e v4 ⟨gc, rfl, hoc, hb⟩
  have OC := Lib.hid hoc
  have H1 := Lib.hid hb
  clear hb hoc
  go_wp2_with (first 
    | (refine wpList_load_blk rfl (.tmp 7) rfl g7 0 rfl x HX.out (At.whole (K7c.out.below H1.out K7c.out.lt)) ?_; go_frame))
  refine (hgetr _).mono ?_
  clear hgetr
  rintro e v5 ⟨gd, capd, rfl, hrd, hb⟩
  have RD := Lib.hid hrd
  have H2 := Lib.hid (below_chain H1.out hb)
  have OC2 := Lib.hid (OC.out.below hb)
  clear hrd hb H1 OC
  go_wp2_with (first 
    | (refine wpList_load_blk rfl (.tmp 12) rfl g12 0 rfl pb HPL.out (At.whole (K12b.out.below H2.out K12b.out.lt)) ?_; go_frame) 
    | (refine wpList_load_blk rfl (.tmp 14) rfl g14 0 rfl pb HPL.out (At.whole (KF14.out.below H2.out KF14.out.lt)) ?_; go_frame) 
    | (refine wpList_neq_blk (by kernel_rfl) (.tmp 51) (.tmp 52) _ rfl pb pb rfl rfl HPL.out HPL.out false (by simp) ?_; go_frame))
  have hsame := Same_any (some ⟨gc, 0, none⟩) (some ⟨gd, 0, none⟩) bo bo 44 capd v5 OC2.out.rd RD.out
  rw [show (bo == bo) = true by simp, HBL.out] at hsame
  refine hsame.mono ?_
  clear hsame
  rintro e _ ⟨rfl, rfl⟩
  go_wp2_with fail
  refine (hleft _ _ _ HC1.out HC2.out (RW5.out.below H2.out) (RL.out.below H2.out)).mono ?_
  clear hleft
  rintro e _ ⟨rfl, rfl⟩
  go_wp2_with fail
  refine (Spoil_own gc bo x4 v5 HBL.out OC2.out H2.out).mono ?_
  rintro e v6 ⟨⟨sv, rfl⟩, hb⟩
  have H3 := Lib.hid hb
  clear hb OC2 RD
  clear RW5 RL K12b KF14 HC1 HC2 HPL H2
  go_wp2_with (first 
    | (refine wpList_load_blk rfl (.tmp 7) rfl g7 0 rfl x HX.out (At.whole (K7c.out.below H3.out K7c.out.lt)) ?_; go_frame))
  refine (hget _).mono ?_
  clear hget
  rintro e v7 ⟨gc2, rfl, -, hb⟩
  have H4 := Lib.hid (below_chain H3.out hb)
  clear hb H3
  go_wp2_with fail
  refine wp_region_U (S := fun w9 => Below x4.heap.size x4 w9) hmix H4.out.drew ?_
  change wpAnyU _ _ _ _ _ _ _ _
  refine wpAnyU_take (i := 0) (v := .int .u32 tg) rfl (by kernel_rfl) (by kernel_rfl) (by kernel_rfl) (fun _ _ _ h => h) (DoesIf.reads (by rfl) fun w9 hS => by go_simp) ?_
  try simp only [List.getElem_toArray, List.getElem_cons_succ, List.getElem_cons_zero, Act.put, List.setIfInBounds_toArray, List.set_cons_succ, List.set_cons_zero]
  refine wpAnyU_take (i := 1) (v := .int .u32 tg) rfl (by kernel_rfl) (by kernel_rfl) (by kernel_rfl) (fun _ _ _ h => h) (DoesIf.reads (by rfl) fun w9 hS => by go_simp) ?_
  try simp only [List.getElem_toArray, List.getElem_cons_succ, List.getElem_cons_zero, Act.put, List.setIfInBounds_toArray, List.set_cons_succ, List.set_cons_zero]
  refine wpAnyU_take (i := 2) (v := .bool true) rfl (by kernel_rfl) (by kernel_rfl) (by kernel_rfl) (fun _ _ _ h => h) (DoesIf.reads (by rfl) fun w9 hS => by go_simp) ?_
  try simp only [List.getElem_toArray, List.getElem_cons_succ, List.getElem_cons_zero, Act.put, List.setIfInBounds_toArray, List.set_cons_succ, List.set_cons_zero]
  refine wpAnyU_take (i := 3) (v := .bool true) rfl (by kernel_rfl) (by kernel_rfl) (by kernel_rfl) (fun _ _ _ h => h) (DoesIf.reads (by rfl) fun w9 hS => by go_simp) ?_
  try simp only [List.getElem_toArray, List.getElem_cons_succ, List.getElem_cons_zero, Act.put, List.setIfInBounds_toArray, List.set_cons_succ, List.set_cons_zero]
  refine wpAnyU_take (i := 4) (v := .int .i64 0) rfl (by kernel_rfl) (by kernel_rfl) (by kernel_rfl) (fun _ _ _ h => h) (DoesIf.reads (by rfl) fun w9 hS => by go_simp) ?_
  try simp only [List.getElem_toArray, List.getElem_cons_succ, List.getElem_cons_zero, Act.put, List.setIfInBounds_toArray, List.set_cons_succ, List.set_cons_zero]
  refine wpAnyU_take (i := 5) (v := .int .i64 0) rfl (by kernel_rfl) (by kernel_rfl) (by kernel_rfl) (fun _ _ _ h => h) (DoesIf.reads (by rfl) fun w9 hS => by go_simp) ?_
  try simp only [List.getElem_toArray, List.getElem_cons_succ, List.getElem_cons_zero, Act.put, List.setIfInBounds_toArray, List.set_cons_succ, List.set_cons_zero]
  refine wpAnyU_take (i := 6) (v := .bool true) rfl (by kernel_rfl) (by kernel_rfl) (by kernel_rfl) (fun _ _ _ h => h) (DoesIf.reads (by rfl) fun w9 hS => by go_simp) ?_
  try simp only [List.getElem_toArray, List.getElem_cons_succ, List.getElem_cons_zero, Act.put, List.setIfInBounds_toArray, List.set_cons_succ, List.set_cons_zero]
  refine wpAnyU_take (i := 7) (v := .bool true) rfl (by kernel_rfl) (by kernel_rfl) (by kernel_rfl) (fun _ _ _ h => h) (DoesIf.reads (by rfl) fun w9 hS => by go_simp) ?_
  try simp only [List.getElem_toArray, List.getElem_cons_succ, List.getElem_cons_zero, Act.put, List.setIfInBounds_toArray, List.set_cons_succ, List.set_cons_zero]
  refine wpAnyU_take (i := 8) (v := .bool true) rfl (by kernel_rfl) (by kernel_rfl) (by kernel_rfl) (fun _ _ _ h => h) (DoesIf.reads (by rfl) fun w9 hS => by go_simp) ?_
  try simp only [List.getElem_toArray, List.getElem_cons_succ, List.getElem_cons_zero, Act.put, List.setIfInBounds_toArray, List.set_cons_succ, List.set_cons_zero]
  refine wpAnyU_take (i := 9) (v := bv x) rfl (by kernel_rfl) (by kernel_rfl) (by kernel_rfl) (fun _ _ _ h => h) (DoesIf.reads (by rfl) fun w9 hS => exec_load_blk (.tmp 7) rfl g7 0 rfl x HX.out (At.whole (K7c.out.below hS K7c.out.lt))) ?_
  try simp only [List.getElem_toArray, List.getElem_cons_succ, List.getElem_cons_zero, Act.put, List.setIfInBounds_toArray, List.set_cons_succ, List.set_cons_zero]
  refine wpAnyU_take (i := 11) (v := bv x) rfl (by kernel_rfl) (by kernel_rfl) (by kernel_rfl) (fun _ _ _ h => h) (DoesIf.reads (by rfl) fun w9 hS => exec_load_blk (.tmp 7) rfl g7 0 rfl x HX.out (At.whole (K7c.out.below hS K7c.out.lt))) ?_
  try simp only [List.getElem_toArray, List.getElem_cons_succ, List.getElem_cons_zero, Act.put, List.setIfInBounds_toArray, List.set_cons_succ, List.set_cons_zero]
  refine wpAnyU_take (i := 10) (v := .int .u32 gr) rfl (by kernel_rfl) (by kernel_rfl) (by kernel_rfl) (fun _ _ _ h => h) (DoesIf.calls (f := 14) (args := #[bv x]) (by rfl) (fun w9 hS => by go_simp) (fun w9 hS => (HGG.out w9).mono fun e w' h => ⟨h.1, below_chain hS h.2⟩)) ?_
  try simp only [List.getElem_toArray, List.getElem_cons_succ, List.getElem_cons_zero, Act.put, List.setIfInBounds_toArray, List.set_cons_succ, List.set_cons_zero]
  refine wpAnyU_take (i := 12) (v := .int .u32 gr) rfl (by kernel_rfl) (by kernel_rfl) (by kernel_rfl) (fun _ _ _ h => h) (DoesIf.calls (f := 15) (args := #[bv x]) (by rfl) (fun w9 hS => by go_simp) (fun w9 hS => (HGR.out w9).mono fun e w' h => ⟨h.1, below_chain hS h.2⟩)) ?_
  try simp only [List.getElem_toArray, List.getElem_cons_succ, List.getElem_cons_zero, Act.put, List.setIfInBounds_toArray, List.set_cons_succ, List.set_cons_zero]
  refine wpAnyU_take (i := 13) (v := .bool true) rfl (by kernel_rfl) (by kernel_rfl) (by kernel_rfl) (fun _ _ _ h => h) (DoesIf.reads (by rfl) fun w9 hS => by go_simp) ?_
  try simp only [List.getElem_toArray, List.getElem_cons_succ, List.getElem_cons_zero, Act.put, List.setIfInBounds_toArray, List.set_cons_succ, List.set_cons_zero]
  refine wpAnyU_take (i := 14) (v := .bool true) rfl (by kernel_rfl) (by kernel_rfl) (by kernel_rfl) (fun _ _ _ h => h) (DoesIf.reads (by rfl) fun w9 hS => by go_simp) ?_
  try simp only [List.getElem_toArray, List.getElem_cons_succ, List.getElem_cons_zero, Act.put, List.setIfInBounds_toArray, List.set_cons_succ, List.set_cons_zero]
  refine wpAnyU_take (i := 15) (v := .bool true) rfl (by kernel_rfl) (by kernel_rfl) (by kernel_rfl) (fun _ _ _ h => h) (DoesIf.reads (by rfl) fun w9 hS => by go_simp) ?_
  try simp only [List.getElem_toArray, List.getElem_cons_succ, List.getElem_cons_zero, Act.put, List.setIfInBounds_toArray, List.set_cons_succ, List.set_cons_zero]
  refine wpAnyU_take (i := 16) (v := bv x) rfl (by kernel_rfl) (by kernel_rfl) (by kernel_rfl) (fun _ _ _ h => h) (DoesIf.reads (by rfl) fun w9 hS => exec_load_blk (.tmp 7) rfl g7 0 rfl x HX.out (At.whole (K7c.out.below hS K7c.out.lt))) ?_
  try simp only [List.getElem_toArray, List.getElem_cons_succ, List.getElem_cons_zero, Act.put, List.setIfInBounds_toArray, List.set_cons_succ, List.set_cons_zero]
  refine wpAnyU_take (i := 17) (v := bv y) rfl (by kernel_rfl) (by kernel_rfl) (by kernel_rfl) (fun _ _ _ h => h) (DoesIf.reads (by rfl) fun w9 hS => exec_load_blk (.tmp 8) rfl g8 0 rfl y HY.out (At.whole (K8c.out.below hS K8c.out.lt))) ?_
  try simp only [List.getElem_toArray, List.getElem_cons_succ, List.getElem_cons_zero, Act.put, List.setIfInBounds_toArray, List.set_cons_succ, List.set_cons_zero]
  refine wpAnyU_take (i := 18) (v := .int .u8 bs) rfl (by kernel_rfl) (by kernel_rfl) (by kernel_rfl) (fun _ _ _ h => h) (DoesIf.reads (by rfl) fun w9 hS => by go_simp) ?_
  try simp only [List.getElem_toArray, List.getElem_cons_succ, List.getElem_cons_zero, Act.put, List.setIfInBounds_toArray, List.set_cons_succ, List.set_cons_zero]
  refine wpAnyU_take (i := 20) (v := bv x) rfl (by kernel_rfl) (by kernel_rfl) (by kernel_rfl) (fun _ _ _ h => h) (DoesIf.reads (by rfl) fun w9 hS => exec_load_blk (.tmp 7) rfl g7 0 rfl x HX.out (At.whole (K7c.out.below hS K7c.out.lt))) ?_
  try simp only [List.getElem_toArray, List.getElem_cons_succ, List.getElem_cons_zero, Act.put, List.setIfInBounds_toArray, List.set_cons_succ, List.set_cons_zero]
  refine wpAnyU_take (i := 21) (v := bv y) rfl (by kernel_rfl) (by kernel_rfl) (by kernel_rfl) (fun _ _ _ h => h) (DoesIf.reads (by rfl) fun w9 hS => exec_load_blk (.tmp 8) rfl g8 0 rfl y HY.out (At.whole (K8c.out.below hS K8c.out.lt))) ?_
  try simp only [List.getElem_toArray, List.getElem_cons_succ, List.getElem_cons_zero, Act.put, List.setIfInBounds_toArray, List.set_cons_succ, List.set_cons_zero]
  refine wpAnyU_take (i := 22) (v := .int .u8 bs) rfl (by kernel_rfl) (by kernel_rfl) (by kernel_rfl) (fun _ _ _ h => h) (DoesIf.reads (by rfl) fun w9 hS => by go_simp) ?_
  try simp only [List.getElem_toArray, List.getElem_cons_succ, List.getElem_cons_zero, Act.put, List.setIfInBounds_toArray, List.set_cons_succ, List.set_cons_zero]
  refine wpAnyU_take (i := 19) (v := bv tn) rfl (by kernel_rfl) (by kernel_rfl) (by kernel_rfl) (fun _ _ _ h => h) (DoesIf.calls (f := 16) (args := #[bv x, bv y, .int .u8 bs]) (by rfl) (fun w9 hS => by go_simp) (fun w9 hS => (HMM.out w9).mono fun e w' h => ⟨h.1, below_chain hS h.2⟩)) ?_
  try simp only [List.getElem_toArray, List.getElem_cons_succ, List.getElem_cons_zero, Act.put, List.setIfInBounds_toArray, List.set_cons_succ, List.set_cons_zero]
  refine wpAnyU_take (i := 23) (v := bv tn) rfl (by kernel_rfl) (by kernel_rfl) (by kernel_rfl) (fun _ _ _ h => h) (DoesIf.calls (f := 17) (args := #[bv x, bv y, .int .u8 bs]) (by rfl) (fun w9 hS => by go_simp) (fun w9 hS => (HMR.out w9).mono fun e w' h => ⟨h.1, below_chain hS h.2⟩)) ?_
  try simp only [List.getElem_toArray, List.getElem_cons_succ, List.getElem_cons_zero, Act.put, List.setIfInBounds_toArray, List.set_cons_succ, List.set_cons_zero]
  refine wpAnyU_take (i := 24) (v := .bool true) rfl (by kernel_rfl) (by kernel_rfl) (by kernel_rfl) (fun _ _ _ h => h) (DoesIf.reads (by rfl) fun w9 hS => (exec_eql_blk (.tmp 108) (.tmp 112) _ rfl tn tn rfl rfl HTL.out HTL.out).trans (by rw [beq_self_eq_true])) ?_
  try simp only [List.getElem_toArray, List.getElem_cons_succ, List.getElem_cons_zero, Act.put, List.setIfInBounds_toArray, List.set_cons_succ, List.set_cons_zero]
  refine wpAnyU_take (i := 25) (v := .bool true) rfl (by kernel_rfl) (by kernel_rfl) (by kernel_rfl) (fun _ _ _ h => h) (DoesIf.reads (by rfl) fun w9 hS => by go_simp) ?_
  try simp only [List.getElem_toArray, List.getElem_cons_succ, List.getElem_cons_zero, Act.put, List.setIfInBounds_toArray, List.set_cons_succ, List.set_cons_zero]
  refine wpAnyU_take (i := 26) (v := .bool true) rfl (by kernel_rfl) (by kernel_rfl) (by kernel_rfl) (fun _ _ _ h => h) (DoesIf.reads (by rfl) fun w9 hS => by go_simp) ?_
  try simp only [List.getElem_toArray, List.getElem_cons_succ, List.getElem_cons_zero, Act.put, List.setIfInBounds_toArray, List.set_cons_succ, List.set_cons_zero]
  refine wpAnyU_take (i := 27) (v := .bool true) rfl (by kernel_rfl) (by kernel_rfl) (by kernel_rfl) (fun _ _ _ h => h) (DoesIf.calls (f := 18) (args := #[]) (by rfl) (fun w9 hS => by go_simp) (fun w9 hS => (lives_any w9).mono fun e w' h => ⟨h.1, below_chain hS h.2⟩)) ?_
  try simp only [List.getElem_toArray, List.getElem_cons_succ, List.getElem_cons_zero, Act.put, List.setIfInBounds_toArray, List.set_cons_succ, List.set_cons_zero]
  refine wpAnyU_take (i := 28) (v := .bool true) rfl (by kernel_rfl) (by kernel_rfl) (by kernel_rfl) (fun _ _ _ h => h) (DoesIf.reads (by rfl) fun w9 hS => by go_simp) ?_
  try simp only [List.getElem_toArray, List.getElem_cons_succ, List.getElem_cons_zero, Act.put, List.setIfInBounds_toArray, List.set_cons_succ, List.set_cons_zero]
  refine wpAnyU_take (i := 29) (v := .bool true) rfl (by kernel_rfl) (by kernel_rfl) (by kernel_rfl) (fun _ _ _ h => h) (DoesIf.reads (by rfl) fun w9 hS => by go_simp) ?_
  try simp only [List.getElem_toArray, List.getElem_cons_succ, List.getElem_cons_zero, Act.put, List.setIfInBounds_toArray, List.set_cons_succ, List.set_cons_zero]
  refine wpAnyU_done (by kernel_rfl) (fun w9 hS => ?_) _
  go_wp2
  go_ret
  exact ⟨rfl, below_chain BV.out hS⟩
theorem tells (n : Int) (l : List UInt8) (A : Option Addr) (cp : Nat) (x y : Blk) (bs : Int) (w : World) (h0 : 0 ≤ n) (h1 : n < 4294967296) (hl : l.length + 3 ≤ 140737488355328) (hr : Rd w A l) (hA : A = none → l = [] ∧ cp = 0) (hx : x.length = 64) (hy : y.length = 64) (h8 : 0 ≤ bs) (h9 : bs < 256) :
    Calls Try.prog 3 #[.int .u32 n, .slice A l.length cp, bv x, bv y, .int .u8 bs] w fun e w' => e = .returned (.bool true) ∧ Below w.heap.size w w' := by
  by_cases hg : getE x = 0
  · exact tells_ok n l A cp x y bs w h0 h1 hl hr hA hx hy h8 h9 hg
  · exact tells_no n l A cp x y bs w h0 h1 hl hr hA hx hy h8 h9 hg

end Go.Proofs.Ytlhbipommhljiaa
