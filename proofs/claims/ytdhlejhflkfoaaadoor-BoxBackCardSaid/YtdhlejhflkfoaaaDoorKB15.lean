/- SWEPT -/
import Derived.Test.YtdhlejhflkfoaaaDoorKB14
import Derived.Test.YtdhlejhflkfoaaaDoorKB3
import Derived.SizedLaws
import Derived.BigQuiet
import Derived.Test.YtdhlejhflkfoaaaDoorKB4
import Derived.Test.YtdhlejhflkfoaaaDoorKB1
import Derived.Test.YtdhlejhflkfoaaaDoorKB9
import Derived.Test.YtdhlejhflkfoaaaDoorKB7
/- The reference: the tree that rows would be. -/
namespace Go.Proofs.YtdhlejhflkfoaaaDoor
open Go.RowKit Go.Shelf
set_option linter.unusedVariables false
set_option maxRecDepth 100000
set_option linter.unusedSimpArgs false

def nodG (k v : List UInt8) : Nd :=
  ⟨numD k 4, numD (v.drop 0) 4, decide (numD (v.drop 4) 1 = 1), numD (v.drop 5) 8, if numD (v.drop 4) 1 = 1 then [] else v.drop 13, if numD (v.drop 4) 1 = 1 then namG (v.drop 13) else []⟩
def isN (x : Rw) : Prop := x.1.length = 5 ∧ x.1[0]? = some 110 ∧ 13 ≤ x.2.length
def isS (x : Rw) : Prop := x.1.length = 2 ∧ x.1[0]? = some 115 ∧ numD (x.1.drop 1) 1 < 4 ∧ 12 ≤ x.2.length
def isT (x : Rw) : Prop := x.1.length = 1 ∧ x.1[0]? = some 116 ∧ x.2.length = 12
open Classical in
noncomputable def stepG (t : Tr) (x : Rw) : Tr :=
  if isN x then { t with nodes := t.nodes ++ [nodG (x.1.drop 1) x.2] }
  else if isS x then { t with sess := t.sess.set (numD (x.1.drop 1) 1) (sesD x.2) }
  else if isT x then restS t x.2
  else t
noncomputable def guessP (l : List Rw) : Tr := l.foldl stepG zeroT
theorem stepG_N {t : Tr} {x : Rw} (h : isN x) : stepG t x = { t with nodes := t.nodes ++ [nodG (x.1.drop 1) x.2] } := by unfold stepG; rw [if_pos h]
theorem stepG_S {t : Tr} {x : Rw} (h : isS x) : stepG t x = { t with sess := t.sess.set (numD (x.1.drop 1) 1) (sesD x.2) } := by
  unfold stepG
  rw [if_neg (fun k => by have := h.1; rw [k.1] at this; cases this), if_pos h]
theorem stepG_T {t : Tr} {x : Rw} (h : isT x) : stepG t x = restS t x.2 := by
  unfold stepG
  rw [if_neg (fun k => by have := h.1; rw [k.1] at this; cases this), if_neg (fun k => by have := h.1; rw [k.1] at this; cases this), if_pos h]
theorem cell_b {W u : World} (hb : Below W.heap.size W u) {p : Addr} {v : Value} (h : W.cell? p = some v) : u.cell? p = some v := (hb.cell (lt_of_cell h)).trans h
/-- the tree's variable -/
def GuAt (w : World) (base g : Nat) (t : Tr) : Prop := ∃ hd, Cs w g 30 hd.toArray ∧ LoT w base g hd t
theorem GuAt.below {w w' : World} {base g : Nat} {t : Tr} (h : GuAt w base g t) (hb : Below w.heap.size w w') : GuAt w' base g t := by
  obtain ⟨hd, h1, h2⟩ := h
  exact ⟨hd, h1.below hb h1.lt, h2.below hb⟩
end Go.Proofs.YtdhlejhflkfoaaaDoor
/- The reference: Load; of the program and of it: what is loaded, in plain words. -/
namespace Go.Proofs.YtdhlejhflkfoaaaDoor
open Go.RowKit Go.Shelf
set_option linter.unusedVariables false
set_option maxRecDepth 100000
set_option linter.unusedSimpArgs false

theorem nodG_of {l : List Nd} {g top : Nat} {n : Nd} (h : NdOk l g top n) (h1 : n.ino < 4294967296) (h2 : n.gen < 4294967296) (h3 : n.chg < 18446744073709551616) (h4 : ∀ e ∈ n.names, e.2 < 4294967296) : nodG (beL (n.ino : Int) 4) (nodV n) = n := by
  have a0 : (nodV n).drop 4 = beL (dirN n.dir : Int) 1 ++ (beL (n.chg : Int) 8 ++ (n.data ++ n.names.flatMap entV)) := by rw [nodV_is, drop_beL]
  have a1 : numD ((nodV n).drop 0) 4 = n.gen := by rw [List.drop_zero, nodV_is, numD_put _ 4 _ (by omega)]
  have a2 : numD ((nodV n).drop 4) 1 = dirN n.dir := by rw [a0, numD_put _ 1 _ (by have := dirN_lt n.dir; omega)]
  have a3 : numD ((nodV n).drop 5) 8 = n.chg := by rw [drop_5, a0, drop_beL, numD_put _ 8 _ (by omega)]
  have a4 : (nodV n).drop 13 = n.data ++ n.names.flatMap entV := by rw [drop_13, a0, drop_beL, drop_beL]
  unfold nodG
  rw [numD_put0 _ 4 (by omega), a1, a2, a3, a4]
  obtain ⟨ino, gen, dir, chg, data, names⟩ := n
  cases dir
  · have := h.file rfl
    simp only at this
    subst this
    simp [dirN]
  · have := h.isDir rfl
    simp only at this
    subst this
    simp only [dirN, if_true, decide_true, List.nil_append]
    rw [namG_flat names fun e he => ⟨name_lenB (h.good e he).1, h4 e he⟩]
theorem nodV_len (n : Nd) : 13 ≤ (nodV n).length := by
  unfold nodV
  rw [List.length_append, nodH_len]
  omega
theorem reads_stepG : Reads stepG where
  node t0 l g top n h h1 h2 h3 h4 := by
    rw [stepG_N (x := nodR n) ⟨by simp [nodR, beL_length], rfl, nodV_len n⟩]
    have e : nodG ((nodR n).1.drop 1) (nodR n).2 = n := nodG_of h h1 h2 h3 h4
    rw [e]
  ses t0 i s hi h1 h2 := by
    have e0 : numD ((sesR i s).1.drop 1) 1 = i := numD_put0 i 1 (by omega)
    rw [stepG_S (x := sesR i s) ⟨by simp [sesR, beL_length], rfl, by rw [e0]; exact hi, by simp [sesR, sesV, beL_length]; omega⟩, e0]
    have e : sesD (sesR i s).2 = s := sesD_of h1 h2
    rw [e]
  rest t0 t h := by
    rw [stepG_T (x := rstR t) ⟨rfl, rfl, by simp [rstR, rstV, beL_length]⟩]
    exact restS_of t0 t h
/-- the reference loads rows -/
structure LoadPR (l : List Rw) : Prop where
  may : mayP l = true
  whole : WholeT (guessP l)
  rows : rowsT (guessP l) = l
def LoadRet (l : List Rw) (w : World) (e : Ending) (w' : World) : Prop :=
  ((∃ t, RngT t ∧ WholeT t ∧ rowsT t = l ∧ ∃ L cs, e = .returned (.tuple #[.agg cs.toArray, .int .i64 0]) ∧ LoT w' w.heap.size L cs t) ∨ ((∀ t, RngT t → WholeT t → rowsT t ≠ l) ∧ e = .returned (.tuple #[.agg treeZ.toArray, .int .i64 5]))) ∧ Below w.heap.size w w'
def LoadRawR (l : List Rw) (w : World) (e : Ending) (w' : World) : Prop :=
  ((LoadPR l ∧ ∃ L cs, e = .returned (.tuple #[.agg cs.toArray, .int .i64 0]) ∧ LoT w' w.heap.size L cs (guessP l)) ∨ (¬ LoadPR l ∧ e = .returned (.tuple #[.agg treeZ.toArray, .int .i64 5]))) ∧ Below w.heap.size w w'
theorem loadPR_iff {l : List Rw} : (∃ t, RngT t ∧ WholeT t ∧ rowsT t = l) → LoadPR l := fun ⟨t, k, h, e⟩ => by
  subst e
  have e1 : guessP (rowsT t) = t := reads_stepG.back h k
  exact ⟨rows_may h k, by rw [e1]; exact h, by rw [e1]⟩
theorem LoadRaw.ret {l : List Rw} {w w' : World} {e : Ending} (h : LoadRaw l w e w') : LoadRet l w e w' := by
  rcases h with ⟨⟨hp, L, cs, he, hl⟩ | ⟨hp, he⟩, hb⟩
  · exact ⟨.inl ⟨readD l, hl.rng, hp.whole, hp.rows, L, cs, he, hl⟩, hb⟩
  · exact ⟨.inr ⟨fun t k h e => hp (load_iff ⟨t, k, h, e⟩), he⟩, hb⟩
theorem LoadRawR.ret {l : List Rw} {w w' : World} {e : Ending} (h : LoadRawR l w e w') : LoadRet l w e w' := by
  rcases h with ⟨⟨hp, L, cs, he, hl⟩ | ⟨hp, he⟩, hb⟩
  · exact ⟨.inl ⟨guessP l, hl.rng, hp.whole, hp.rows, L, cs, he, hl⟩, hb⟩
  · exact ⟨.inr ⟨fun t k h e => hp (loadPR_iff ⟨t, k, h, e⟩), he⟩, hb⟩
theorem Load_k (l : List Rw) (v : Value) (F : Nat → Prop) (w : World) (hT : Tabs w) (h : LsW rowE w F v l) (hln : l.length ≤ 20000) (hs : SmallR l) :
    Calls Tryd.prog 17 #[v] w fun e w' => LoadRet l w e w' := (Load_v l v F w hT h hln hs).mono fun _ _ h => h.ret
/-- one tree has these rows -/
theorem rows_one {t t' : Tr} (h : WholeT t) (k : RngT t) (h' : WholeT t') (k' : RngT t') (e : rowsT t = rowsT t') : t = t' := by
  rw [← read_rows h k, ← read_rows h' k', e]

end Go.Proofs.YtdhlejhflkfoaaaDoor
/- Rows among the arguments, each value no longer than a machine holds. -/
namespace Go.Proofs.YtdhlejhflkfoaaaDoor
open Go.RowKit Go.Shelf Go.ChangeShapes Go.WideShapes Go.ChangeAt Go.Deep
set_option linter.unusedVariables false
set_option maxRecDepth 100000
set_option linter.unusedSimpArgs false

section
variable {H : Type} {enc : TypeId × Value → H} {W : World} {fuel : Nat}
theorem weights_mem_all {P : Program} {e : TypeId} : ∀ {ds : List (DataW H)} {d : DataW H}, d ∈ ds → ∀ n ∈ d.weights P e, n ∈ DataW.weightsAll P e ds
  | d0 :: ds, d, h, n, hn => by
    simp only [DataW.weightsAll, List.mem_append]
    rcases List.mem_cons.1 h with rfl | h
    · exact .inl hn
    · exact .inr (weights_mem_all h n hn)
theorem trod_bytesV_sz {cs : List Value} {x : DataW H × List MemPlace} (h : DataW.trod enc Tryd.prog W 0 (fun _ => true) true fuel 25 cs = some x) (hz : ∀ n ∈ x.1.weights Tryd.prog 25, n ≤ reachBytes) : ∀ v l, cs = [v] → BsV W (· < W.heap.size) v l → l.length ≤ reachBytes := by
  intro v l hv hb
  obtain ⟨A, c, rfl, h1, h2, h3, h4⟩ := hb
  rcases open_ints Tryd.underlying25 Tryd.underlying5 (by kernel_rfl) h with ⟨hcs, _⟩ | ⟨a, len, cap, zs, hcs, _, hl, hm, hzs, rfl, _, _⟩
  · rw [hcs] at hv
    simp at hv
    omega
  · rw [hcs] at hv
    simp at hv
    have := hz _ (by rw [DataW.weights, Tryd.underlying25]; exact List.mem_cons_self)
    rw [Try_bytes5] at this
    have hzs' : zs.length = cap := by simpa using hzs
    simp [lits] at this
    omega
theorem trod_row_sz {cs : List Value} {x : DataW H × List MemPlace} (h : DataW.trod enc Tryd.prog W 0 (fun _ => true) true fuel 41 cs = some x) (hz : ∀ n ∈ x.1.weights Tryd.prog 41, n ≤ reachBytes) : ∃ z : Rw, rowE.rd W (· < W.heap.size) cs z ∧ z.1.length ≤ maxLen ∧ z.2.length ≤ reachBytes := by
  obtain ⟨z, ⟨v, hcs, hv⟩, hk⟩ := trod_row h
  obtain ⟨y0, y1, n, rfl, hl, f0, f1⟩ := trod_struct2 Tryd.underlying41 h
  have h2 : Tryd.prog.cellsOf 25 = 1 := by kernel_rfl
  subst hcs
  change DataW.trod enc Tryd.prog W 0 _ true n 25 (([sv z.1, v].drop 1).take (Tryd.prog.cellsOf 25)) = some y1 at f1
  rw [h2] at f1
  refine ⟨z, ⟨v, rfl, hv⟩, hk, trod_bytesV_sz f1 (fun m hm => hz m ?_) v z.2 rfl hv⟩
  rw [DataW.weights, Tryd.underlying41]
  exact DataW.weights_mem_each (j := 1) (t := 25) (d := y1.1) rfl rfl m hm
/-- a list of elements, each weighed -/
theorem open_list_sz {α : Type} {E : Elem α} (Pr : α → Prop) (hE : ∀ fuel cs x, DataW.trod enc Tryd.prog W 0 (fun _ => true) true fuel E.ety cs = some x → (∀ n ∈ x.1.weights Tryd.prog E.ety, n ≤ reachBytes) → ∃ z, E.rd W (· < W.heap.size) cs z ∧ Pr z) (hn : Tryd.prog.cellsOf E.ety = E.n)
    {base : Nat} {v : Value} {d : DataW H} {p : List MemPlace} (hv : Value.okWide Tryd.prog W .any base E.sty v) (h : DataW.Trod enc Tryd.prog W 0 (fun _ => true) true E.sty v d p) (hz : ∀ n ∈ d.weights Tryd.prog E.sty, n ≤ reachBytes) :
    ∃ A l c, v = .slice A l.length c ∧ RdX E W (· < W.heap.size) A l ∧ (∀ x ∈ l, Pr x) ∧ l.length ≤ c ∧ c ≤ maxLen ∧ (A = none → l = [] ∧ c = 0) := by
  obtain ⟨A, len, cap, rfl⟩ := okWide_slice E.und hv
  obtain ⟨fuel, hf⟩ := h
  rcases open_slice E.und hf with ⟨hcs, hx⟩ | ⟨x, len', cap', m, n, D, Pl, hcs, _, hl, hm, hmm, hx, hi⟩
  · simp [Value.cells] at hcs
    obtain ⟨rfl, rfl, rfl⟩ := hcs
    exact ⟨none, [], 0, rfl, .inl rfl, by simp, Nat.le_refl _, Nat.zero_le _, fun _ => ⟨rfl, rfl⟩⟩
  · simp [Value.cells] at hcs
    obtain ⟨rfl, rfl, rfl⟩ := hcs
    have hmle : len ≤ m := by rw [hmm]; split <;> omega
    have hD : ∀ k, k < len → ∀ n ∈ (D k).weights Tryd.prog E.ety, n ≤ reachBytes := fun k hk n hn => by
      refine hz n ?_
      have : d = .slice ((List.range len).map D) ((List.range (m - len)).map fun j => D (len + j)) := congrArg Prod.fst hx
      rw [this, DataW.weights, E.und]
      refine List.mem_cons_of_mem _ (List.mem_append_left _ (weights_mem_all (d := D k) (List.mem_map_of_mem (List.mem_range.2 hk)) n hn))
    have key : ∀ k, k ≤ len → ∃ (xs : List Value) (ls : List α), ls.length = k ∧ RowX E W (· < W.heap.size) xs ls ∧ (∀ z ∈ ls, Pr z) ∧ ∀ i u, xs[i]? = some u → W.cell? (x.add i) = some u := by
      intro k
      induction k with
      | zero => exact fun _ => ⟨[], [], rfl, RowX.nil _ _, by simp, fun i u h => by simp at h⟩
      | succ k ih =>
        intro hk
        obtain ⟨xs, ls, h1, h2, h3, h4⟩ := ih (by omega)
        obtain ⟨cs', hc, ht⟩ := hi k (by omega)
        obtain ⟨z, hz, hp⟩ := hE _ _ _ ht (hD k (by omega))
        obtain ⟨_, hcl, hat⟩ := World.cells?_some hc
        rw [hn] at hcl hat
        refine ⟨xs ++ cs', ls ++ [z], by simp [h1], h2.append (RowX.single hz), fun y hy => ?_, fun i u hu => ?_⟩
        · rcases List.mem_append.1 hy with hy | hy
          · exact h3 y hy
          · rw [List.mem_singleton] at hy; subst hy; exact hp
        · have hxl : xs.length = k * E.n := by rw [h2.1, h1]
          by_cases hlt : i < xs.length
          · rw [List.getElem?_append_left hlt] at hu
            exact h4 i u hu
          · rw [List.getElem?_append_right (by omega)] at hu
            have hj := (List.getElem?_eq_some_iff.1 hu).1
            have := hat (i - xs.length) (by omega)
            have e1 : (x.add (k * E.n)).add (i - xs.length) = x.add i := by
              rw [addr_add2, show k * E.n + (i - xs.length) = i by omega]
            rw [e1, hu] at this
            exact this
    obtain ⟨xs, ls, h1, h2, h3, h4⟩ := key len (Nat.le_refl _)
    subst h1
    refine ⟨some x, ls, cap, rfl, ?_, h3, hl, hm, fun h => by cases h⟩
    by_cases h0 : ls = []
    · exact .inl h0
    · have hpos : 0 < xs.length := by rw [h2.1]; exact Nat.mul_pos (List.length_pos_iff.2 h0) E.pos
      obtain ⟨b, off, spot⟩ := x
      have hc0 := h4 0 _ (List.getElem?_eq_getElem hpos)
      have hspot : spot = none := by simpa [Addr.add] using World.cell?_spot hc0
      subst hspot
      have e1 : ∀ i, (⟨b, off, none⟩ : Addr).add i = ⟨b, off + i, none⟩ := fun i => by
        unfold Addr.add
        split <;> simp_all
      refine .inr ⟨b, off, xs, rfl, ?_, h2, fun i u hu => by rw [← e1]; exact h4 i u hu⟩
      rw [e1] at hc0
      exact lt_of_cell hc0
end
theorem open_rows_sz {H : Type} {enc : TypeId × Value → H} {W : World} {base : Nat} {v : Value} {d : DataW H} {p : List MemPlace} {ts : List TypeId} {ds : List (DataW H)} (hsz : (DataW.weightsEach Tryd.prog ts ds).all (· ≤ reachBytes) = true) (j : Nat) (hj : ts[j]? = some 34) (hd : ds[j]? = some d)
    (hv : Value.okWide Tryd.prog W .any base 34 v) (h : DataW.Trod enc Tryd.prog W 0 (fun _ => true) true 34 v d p) :
    ∃ A l c, v = .slice A l.length c ∧ RdX rowE W (· < W.heap.size) A l ∧ (∀ x ∈ l, x.1.length ≤ maxLen ∧ x.2.length ≤ 140737488351232) ∧ l.length ≤ c ∧ c ≤ maxLen ∧ (A = none → l = [] ∧ c = 0) :=
  open_list_sz (E := rowE) (fun x => x.1.length ≤ maxLen ∧ x.2.length ≤ 140737488351232) (fun _ _ _ h hz => by
    obtain ⟨z, h1, h2, h3⟩ := trod_row_sz h hz
    exact ⟨z, h1, h2, by simpa [reachBytes] using h3⟩) (by kernel_rfl) hv h (fun n hn => by
    have := List.all_eq_true.1 hsz n (DataW.weights_mem_each hj hd n hn)
    simpa using this)

end Go.Proofs.YtdhlejhflkfoaaaDoor
/- Layer 14's laws: a tree among the arguments. -/
namespace Go.Proofs.YtdhlejhflkfoaaaDoor
open Go.RowKit Go.Shelf Go.ChangeShapes Go.WideShapes Go.ChangeAt Go.Deep
set_option linter.unusedVariables false
set_option maxRecDepth 100000
set_option linter.unusedSimpArgs false

section
variable {H : Type} {enc : TypeId × Value → H} {W : World} {fuel : Nat}
theorem tr32 {v : Value} {x : DataW H × List MemPlace} (h : DataW.trod enc Tryd.prog W 0 (fun _ => true) true fuel 23 [v] = some x) : ∃ n : Nat, v = .int .u32 (n : Int) ∧ n < 4294967296 := by
  obtain ⟨a, e, _, w⟩ := DataW.trod_int Tryd.underlying23 h
  simp at e
  simp [Lit.wf, IntKind.min, IntKind.max, IntKind.signed, IntKind.bits] at w
  obtain ⟨n, rfl⟩ := Int.eq_ofNat_of_zero_le (show 0 ≤ a by omega)
  exact ⟨n, e, by omega⟩
theorem tr64 {v : Value} {x : DataW H × List MemPlace} (h : DataW.trod enc Tryd.prog W 0 (fun _ => true) true fuel 24 [v] = some x) : ∃ n : Nat, v = .int .u64 (n : Int) ∧ n < 18446744073709551616 := by
  obtain ⟨a, e, _, w⟩ := DataW.trod_int Tryd.underlying24 h
  simp at e
  simp [Lit.wf, IntKind.min, IntKind.max, IntKind.signed, IntKind.bits] at w
  obtain ⟨n, rfl⟩ := Int.eq_ofNat_of_zero_le (show 0 ≤ a by omega)
  exact ⟨n, e, by omega⟩
theorem trB {v : Value} {x : DataW H × List MemPlace} (h : DataW.trod enc Tryd.prog W 0 (fun _ => true) true fuel 4 [v] = some x) : ∃ b : Bool, v = .bool b := by
  obtain ⟨b, e, _⟩ := DataW.trod_bool Tryd.underlying4 h
  simp at e
  exact ⟨b, e⟩
/-- a list of elements, within a value -/
theorem trod_list {α : Type} {E : Elem α} (hE : ∀ fuel cs x, DataW.trod enc Tryd.prog W 0 (fun _ => true) true fuel E.ety cs = some x → ∃ z, E.rd W (· < W.heap.size) cs z) (hn : Tryd.prog.cellsOf E.ety = E.n)
    {cs : List Value} {x : DataW H × List MemPlace} (hf : DataW.trod enc Tryd.prog W 0 (fun _ => true) true fuel E.sty cs = some x) :
    ∃ v l, cs = [v] ∧ LsV E W (· < W.heap.size) v l := by
  rcases open_slice E.und hf with ⟨hcs, hx⟩ | ⟨x, len, cap, m, n, D, Pl, hcs, _, hl, hm, hmm, hx, hi⟩
  · exact ⟨_, [], hcs, LsV.nil _ _⟩
  · have hmle : len ≤ m := by rw [hmm]; split <;> omega
    have key : ∀ k, k ≤ len → ∃ (xs : List Value) (ls : List α), ls.length = k ∧ RowX E W (· < W.heap.size) xs ls ∧ ∀ i u, xs[i]? = some u → W.cell? (x.add i) = some u := by
      intro k
      induction k with
      | zero => exact fun _ => ⟨[], [], rfl, RowX.nil _ _, fun i u h => by simp at h⟩
      | succ k ih =>
        intro hk
        obtain ⟨xs, ls, h1, h2, h4⟩ := ih (by omega)
        obtain ⟨cs', hc, ht⟩ := hi k (by omega)
        obtain ⟨z, hz⟩ := hE _ _ _ ht
        obtain ⟨_, hcl, hat⟩ := World.cells?_some hc
        rw [hn] at hcl hat
        refine ⟨xs ++ cs', ls ++ [z], by simp [h1], h2.append (RowX.single hz), fun i u hu => ?_⟩
        have hxl : xs.length = k * E.n := by rw [h2.1, h1]
        by_cases hlt : i < xs.length
        · rw [List.getElem?_append_left hlt] at hu
          exact h4 i u hu
        · rw [List.getElem?_append_right (by omega)] at hu
          have hj := (List.getElem?_eq_some_iff.1 hu).1
          have := hat (i - xs.length) (by omega)
          have e1 : (x.add (k * E.n)).add (i - xs.length) = x.add i := by
            rw [addr_add2, show k * E.n + (i - xs.length) = i by omega]
          rw [e1, hu] at this
          exact this
    obtain ⟨xs, ls, h1, h2, h4⟩ := key len (Nat.le_refl _)
    subst h1
    refine ⟨_, ls, hcs, some x, cap, rfl, ?_, hl, hm, fun h => by cases h⟩
    by_cases h0 : ls = []
    · exact .inl h0
    · have hpos : 0 < xs.length := by rw [h2.1]; exact Nat.mul_pos (List.length_pos_iff.2 h0) E.pos
      obtain ⟨b, off, spot⟩ := x
      have hc0 := h4 0 _ (List.getElem?_eq_getElem hpos)
      have hspot : spot = none := by simpa [Addr.add] using World.cell?_spot hc0
      subst hspot
      have e1 : ∀ i, (⟨b, off, none⟩ : Addr).add i = ⟨b, off + i, none⟩ := fun i => by
        unfold Addr.add
        split <;> simp_all
      refine .inr ⟨b, off, xs, rfl, ?_, h2, fun i u hu => by rw [← e1]; exact h4 i u hu⟩
      rw [e1] at hc0
      exact lt_of_cell hc0
theorem trod_ent {cs : List Value} {x : DataW H × List MemPlace} (h : DataW.trod enc Tryd.prog W 0 (fun _ => true) true fuel 80 cs = some x) : ∃ z : Ent, entE.rd W (· < W.heap.size) cs z := by
  obtain ⟨y0, y1, n, _, hl, f0, f1⟩ := trod_struct2 Tryd.underlying80 h
  have hc : Tryd.prog.cellsOf 80 = 2 := by kernel_rfl
  have k0 : Tryd.prog.cellsOf 9 = 1 := by kernel_rfl
  have k1 : Tryd.prog.cellsOf 23 = 1 := by kernel_rfl
  rw [hc] at hl
  obtain ⟨c0, c1, rfl⟩ : ∃ c0 c1, cs = [c0, c1] := by
    match cs, hl with
    | [a, b], _ => exact ⟨a, b, rfl⟩
  change DataW.trod enc Tryd.prog W 0 _ true n 9 (([c0, c1].drop 0).take (Tryd.prog.cellsOf 9)) = some y0 at f0
  change DataW.trod enc Tryd.prog W 0 _ true n 23 (([c0, c1].drop 1).take (Tryd.prog.cellsOf 23)) = some y1 at f1
  rw [k0] at f0
  rw [k1] at f1
  obtain ⟨s, e, _⟩ := DataW.trod_string Tryd.underlying9 f0
  simp at e
  subst e
  obtain ⟨m, rfl, hm⟩ := tr32 f1
  exact ⟨(s.data.toList, m), rfl, hm⟩
theorem trod_node {cs : List Value} {x : DataW H × List MemPlace} (h : DataW.trod enc Tryd.prog W 0 (fun _ => true) true fuel 48 cs = some x) : ∃ z : Nd, nodeE.rd W (· < W.heap.size) cs z := by
  obtain ⟨xs, n, _, hx, hl, hlen, hf⟩ := DataW.trod_struct Tryd.underlying48 h
  have hc : Tryd.prog.cellsOf 48 = 6 := by kernel_rfl
  have k0 : Tryd.prog.cellsOf 23 = 1 := by kernel_rfl
  have k2 : Tryd.prog.cellsOf 4 = 1 := by kernel_rfl
  have k3 : Tryd.prog.cellsOf 24 = 1 := by kernel_rfl
  have k4 : Tryd.prog.cellsOf 25 = 1 := by kernel_rfl
  have k5 : Tryd.prog.cellsOf 46 = 1 := by kernel_rfl
  rw [hc] at hl
  match cs, hl, xs, hlen with
  | [c0, c1, c2, c3, c4, c5], _, [y0, y1, y2, y3, y4, y5], _ =>
    have f0 : DataW.trod enc Tryd.prog W 0 (fun _ => true) true n 23 (([c0, c1, c2, c3, c4, c5].drop 0).take (Tryd.prog.cellsOf 23)) = some y0 := hf 0 _ rfl
    have f1 : DataW.trod enc Tryd.prog W 0 (fun _ => true) true n 23 (([c0, c1, c2, c3, c4, c5].drop 1).take (Tryd.prog.cellsOf 23)) = some y1 := hf 1 _ rfl
    have f2 : DataW.trod enc Tryd.prog W 0 (fun _ => true) true n 4 (([c0, c1, c2, c3, c4, c5].drop 2).take (Tryd.prog.cellsOf 4)) = some y2 := hf 2 _ rfl
    have f3 : DataW.trod enc Tryd.prog W 0 (fun _ => true) true n 24 (([c0, c1, c2, c3, c4, c5].drop 3).take (Tryd.prog.cellsOf 24)) = some y3 := hf 3 _ rfl
    have f4 : DataW.trod enc Tryd.prog W 0 (fun _ => true) true n 25 (([c0, c1, c2, c3, c4, c5].drop 4).take (Tryd.prog.cellsOf 25)) = some y4 := hf 4 _ rfl
    have f5 : DataW.trod enc Tryd.prog W 0 (fun _ => true) true n 46 (([c0, c1, c2, c3, c4, c5].drop 5).take (Tryd.prog.cellsOf 46)) = some y5 := hf 5 _ rfl
    rw [k0] at f0 f1
    rw [k2] at f2
    rw [k3] at f3
    rw [k4] at f4
    rw [k5] at f5
    obtain ⟨n0, rfl, b0⟩ := tr32 f0
    obtain ⟨n1, rfl, b1⟩ := tr32 f1
    obtain ⟨n2, rfl⟩ := trB f2
    obtain ⟨n3, rfl, b3⟩ := tr64 f3
    obtain ⟨v, l, e, hv⟩ := trod_bytesV f4
    obtain ⟨u, ns, e2, hu⟩ := trod_list (E := entE) (fun _ _ _ h => trod_ent h) (by kernel_rfl) f5
    simp at e e2
    subst e e2
    exact ⟨⟨n0, n1, n2, n3, l, ns⟩, c4, c5, rfl, hv, hu, b0, b1, b3⟩
theorem weights_all {P : Program} {e : TypeId} : ∀ {ds : List (DataW H)} {d : DataW H}, d ∈ ds → ∀ n ∈ d.weights P e, n ∈ DataW.weightsAll P e ds
  | d0 :: ds, d, h, n, hn => by
    unfold DataW.weightsAll
    rw [List.mem_append]
    rcases List.mem_cons.1 h with rfl | h
    · exact .inl hn
    · exact .inr (weights_all h n hn)
theorem trod_ses {cs : List Value} {x : DataW H × List MemPlace} (h : DataW.trod enc Tryd.prog W 0 (fun _ => true) true fuel 27 cs = some x) (hz : ∀ n ∈ x.1.weights Tryd.prog 27, n ≤ reachBytes) : ∃ z : Ses, SeAt W (· < W.heap.size) cs z := by
  obtain ⟨xs, n, _, hx, hl, hlen, hf⟩ := DataW.trod_struct Tryd.underlying27 h
  have hc : Tryd.prog.cellsOf 27 = 3 := by kernel_rfl
  have k0 : Tryd.prog.cellsOf 23 = 1 := by kernel_rfl
  have k3 : Tryd.prog.cellsOf 24 = 1 := by kernel_rfl
  have k4 : Tryd.prog.cellsOf 25 = 1 := by kernel_rfl
  rw [hc] at hl
  match cs, hl, xs, hlen with
  | [c0, c1, c2], _, [y0, y1, y2], _ =>
    have f0 : DataW.trod enc Tryd.prog W 0 (fun _ => true) true n 23 (([c0, c1, c2].drop 0).take (Tryd.prog.cellsOf 23)) = some y0 := hf 0 _ rfl
    have f1 : DataW.trod enc Tryd.prog W 0 (fun _ => true) true n 24 (([c0, c1, c2].drop 1).take (Tryd.prog.cellsOf 24)) = some y1 := hf 1 _ rfl
    have f2 : DataW.trod enc Tryd.prog W 0 (fun _ => true) true n 25 (([c0, c1, c2].drop 2).take (Tryd.prog.cellsOf 25)) = some y2 := hf 2 _ rfl
    rw [k0] at f0
    rw [k3] at f1
    rw [k4] at f2
    obtain ⟨n0, rfl, b0⟩ := tr32 f0
    obtain ⟨n1, rfl, b1⟩ := tr64 f1
    obtain ⟨v, l, e, hv⟩ := trod_bytesV f2
    have e' : c2 = v := by simpa using e
    subst e'
    have hlen := trod_bytesV_sz f2 (fun m hm => hz m (by
      rw [hx, DataW.weights, Tryd.underlying27]
      exact DataW.weights_mem_each (j := 2) (t := 25) (d := y2.1) rfl rfl m hm)) c2 l rfl hv
    exact ⟨(n0, n1, l), c2, rfl, hv, b0, b1, by unfold reachBytes at hlen; exact Nat.le_trans hlen (by decide)⟩
theorem trod_tree {cs : List Value} {x : DataW H × List MemPlace} (h : DataW.trod enc Tryd.prog W 0 (fun _ => true) true fuel 30 cs = some x) (hz : ∀ n ∈ x.1.weights Tryd.prog 30, n ≤ reachBytes) : ∃ t : Tr, TrAt W (· < W.heap.size) cs t := by
  obtain ⟨xs, n, _, hx, hl, hlen, hf⟩ := DataW.trod_struct Tryd.underlying30 h
  have hc : Tryd.prog.cellsOf 30 = 16 := by kernel_rfl
  have k0 : Tryd.prog.cellsOf 23 = 1 := by kernel_rfl
  have k1 : Tryd.prog.cellsOf 22 = 1 := by kernel_rfl
  have k2 : Tryd.prog.cellsOf 28 = 12 := by kernel_rfl
  have k3 : Tryd.prog.cellsOf 27 = 3 := by kernel_rfl
  rw [hc] at hl
  match cs, hl, xs, hlen with
  | [c0, c1, c2, c3, d0, d1, d2, d3, d4, d5, d6, d7, d8, d9, d10, d11], _, [y0, y1, y2, y3, y4], _ =>
    have f0 : DataW.trod enc Tryd.prog W 0 (fun _ => true) true n 22 (([c0, c1, c2, c3, d0, d1, d2, d3, d4, d5, d6, d7, d8, d9, d10, d11].drop 0).take (Tryd.prog.cellsOf 22)) = some y0 := hf 0 _ rfl
    have f1 : DataW.trod enc Tryd.prog W 0 (fun _ => true) true n 23 (([c0, c1, c2, c3, d0, d1, d2, d3, d4, d5, d6, d7, d8, d9, d10, d11].drop 1).take (Tryd.prog.cellsOf 23)) = some y1 := hf 1 _ rfl
    have f2 : DataW.trod enc Tryd.prog W 0 (fun _ => true) true n 23 (([c0, c1, c2, c3, d0, d1, d2, d3, d4, d5, d6, d7, d8, d9, d10, d11].drop 2).take (Tryd.prog.cellsOf 23)) = some y2 := hf 2 _ rfl
    have f3 : DataW.trod enc Tryd.prog W 0 (fun _ => true) true n 23 (([c0, c1, c2, c3, d0, d1, d2, d3, d4, d5, d6, d7, d8, d9, d10, d11].drop 3).take (Tryd.prog.cellsOf 23)) = some y3 := hf 3 _ rfl
    have f4 : DataW.trod enc Tryd.prog W 0 (fun _ => true) true n 28 (([c0, c1, c2, c3, d0, d1, d2, d3, d4, d5, d6, d7, d8, d9, d10, d11].drop 4).take (Tryd.prog.cellsOf 28)) = some y4 := hf 4 _ rfl
    rw [k1] at f0
    rw [k0] at f1 f2 f3
    rw [k2] at f4
    obtain ⟨v, ns, e, hv⟩ := trod_list (E := nodeE) (fun _ _ _ h => trod_node h) (by kernel_rfl) f0
    obtain ⟨n1, rfl, b1⟩ := tr32 f1
    obtain ⟨n2, rfl, b2⟩ := tr32 f2
    obtain ⟨n3, rfl, b3⟩ := tr32 f3
    have e' : c0 = v := by simpa using e
    subst e'
    obtain ⟨zs, m, _, hz4, _, hzl, hg⟩ := DataW.trod_array Tryd.underlying28 f4
    have hz' : ∀ d ∈ zs, ∀ q ∈ d.1.weights Tryd.prog 27, q ≤ reachBytes := fun d hd q hq => hz q (by
      rw [hx, DataW.weights, Tryd.underlying30]
      refine DataW.weights_mem_each (j := 4) (t := 28) (d := y4.1) rfl rfl q ?_
      rw [hz4, DataW.weights, Tryd.underlying28]
      exact weights_all (List.mem_map_of_mem hd) q hq)
    match zs, hzl, hz', hg with
    | [z0, z1, z2, z3], _, hz', hg =>
      have g0 := hg 0 (by decide)
      have g1 := hg 1 (by decide)
      have g2 := hg 2 (by decide)
      have g3 := hg 3 (by decide)
      rw [k3] at g0 g1 g2 g3
      obtain ⟨s0, a0⟩ := trod_ses (x := z0) g0 (hz' z0 (by simp))
      obtain ⟨s1, a1⟩ := trod_ses (x := z1) g1 (hz' z1 (by simp))
      obtain ⟨s2, a2⟩ := trod_ses (x := z2) g2 (hz' z2 (by simp))
      obtain ⟨s3, a3⟩ := trod_ses (x := z3) g3 (hz' z3 (by simp))
      exact ⟨⟨ns, n1, n2, n3, [s0, s1, s2, s3]⟩, c0, [d0, d1, d2, d3, d4, d5, d6, d7, d8, d9, d10, d11], rfl, hv, ⟨a0, a1, a2, a3, rfl⟩, rfl, rfl, b1, b2, b3⟩
/-- a tree that came in -/
theorem open_tree {base : Nat} {v : Value} {d : DataW H} {p : List MemPlace} (hz : ∀ n ∈ d.weights Tryd.prog 30, n ≤ reachBytes) (hv : Value.okWide Tryd.prog W .any base 30 v) (h : DataW.Trod enc Tryd.prog W 0 (fun _ => true) true 30 v d p) :
    ∃ (t : Tr) (cs : List Value), v = .agg cs.toArray ∧ TrAt W (· < W.heap.size) cs t := by
  obtain ⟨cs, rfl, -⟩ := okWide_struct Tryd.underlying30 hv
  obtain ⟨fuel, hf⟩ := h
  obtain ⟨t, ht⟩ := trod_tree hf hz
  exact ⟨t, cs.toList, by simp, ht⟩
end

end Go.Proofs.YtdhlejhflkfoaaaDoor
/- BatchOwn: rows of their own memory, three bytes of 9 behind each value; are they as they were? -/
namespace Go.Proofs.YtdhlejhflkfoaaaDoor
open Go.RowKit Go.Shelf
set_option linter.unusedVariables false
set_option maxRecDepth 100000
set_option linter.unusedSimpArgs false

/-- bytes, three of 9 behind them -/
def NineV (w : World) (F : Nat → Prop) (v : Value) (l : List UInt8) : Prop := ∃ g cap, v = .slice (some ⟨g, 0, none⟩) l.length cap ∧ F g ∧ g < w.heap.size ∧ l.length + 3 ≤ cap ∧ cap ≤ maxLen ∧ Rd w (some ⟨g, 0, none⟩) (l ++ [9, 9, 9])
theorem NineV.turn {w w' : World} {F G : Nat → Prop} {v : Value} {l : List UInt8} (h : NineV w F v l) (ht : Turn w w' G) (hG : ∀ k, F k → ¬ G k) : NineV w' F v l := by
  obtain ⟨g, cap, rfl, h1, h2, h3, h4, h5⟩ := h
  refine ⟨g, cap, rfl, h1, Nat.lt_of_lt_of_le h2 ht.size, h3, h4, ?_⟩
  rcases h5 with h | ⟨b, off, e, hc⟩
  · simp at h
  · cases e
    exact .inr ⟨g, 0, rfl, fun j hj => (World.cell?_of_block (w := w) (ht.block g h2 (hG g h1))).trans (hc j hj)⟩
theorem NineV.mono {w : World} {F G : Nat → Prop} {v : Value} {l : List UInt8} (h : NineV w F v l) (hF : ∀ k, k < w.heap.size → F k → G k) : NineV w G v l := by
  obtain ⟨g, cap, rfl, h1, h2, h3⟩ := h
  exact ⟨g, cap, rfl, hF g h2 h1, h2, h3⟩
theorem NineV.below {w w' : World} {F : Nat → Prop} {v : Value} {l : List UInt8} (h : NineV w F v l) (hb : Below w.heap.size w w') : NineV w' F v l := h.turn (Turn.of_below hb fun _ => False) fun _ _ h => h
theorem NineV.bs {w : World} {F : Nat → Prop} {v : Value} {l : List UInt8} (h : NineV w F v l) : BsV w F v l := by
  obtain ⟨g, cap, rfl, h1, h2, h3, h4, h5⟩ := h
  exact ⟨_, cap, rfl, (rd_prefix h5).f fun b off e _ => (by cases e; exact h1), (fun e => by cases e), by omega, h4⟩
end Go.Proofs.YtdhlejhflkfoaaaDoor
/- BatchOwn: the walk. -/
namespace Go.Proofs.YtdhlejhflkfoaaaDoor
open Go.RowKit Go.Shelf
set_option linter.unusedVariables false
set_option maxRecDepth 100000
set_option linter.unusedSimpArgs false

end Go.Proofs.YtdhlejhflkfoaaaDoor
/- The reference: Same, of a tree that lies in two places: it is. -/
namespace Go.Proofs.YtdhlejhflkfoaaaDoor
open Go.RowKit Go.Shelf
set_option linter.unusedVariables false
set_option maxRecDepth 100000
set_option linter.unusedSimpArgs false

theorem sameN_self (a : Nd) : sameN a a = true := by
  simp [sameN]
theorem kept_len (g n : Nat) (ty : TypeId) : Kept fun u => ∃ xs : List Value, Cs u g ty xs.toArray ∧ xs.length = n := fun a b h hb => by
  obtain ⟨xs, h1, h2⟩ := h
  exact ⟨xs, h1.below hb h1.lt, h2⟩
theorem kept_true (p : Prop) : Kept fun _ => p := fun a b h hb => h
theorem BsV.partsT {w : World} {F : Nat → Prop} {v : Value} {l : List UInt8} (h : BsV w F v l) : ∃ A c, v = .slice A l.length c ∧ Rd w A l ∧ (A = none → l = [] ∧ c = 0) := by
  obtain ⟨A, c, e, h1, h2, -⟩ := h
  exact ⟨A, c, e, h1.rd, h2⟩
set_option maxHeartbeats 32000000 in
theorem SameR_v (t : Tr) (cs ds : List Value) (F G : Nat → Prop) (w : World) (h : TrAt w F cs t) (k : TrAt w G ds t) (hl : t.nodes.length ≤ 1000000) (hn : ∀ n ∈ t.nodes, n.names.length ≤ 1000000) :
    Calls Tryd.prog 15 #[.agg cs.toArray, .agg ds.toArray] w fun e w' => e = .returned (.bool true) ∧ Below w.heap.size w w' := by
  have hmix : Tryd.prog.follows .mixedOrders = true := by kernel_rfl
  have HTR := Lib.hid h
  have KTR := Lib.hid k
  have HL4 := Lib.hid (show t.sess.length = 4 by obtain ⟨_, _, _, _, _, h, _⟩ := h; exact h)
  have HNN := Lib.hid hn
  obtain ⟨nv, ss', e, ⟨A, c, rfl, hr, -⟩, -⟩ := h
  obtain ⟨nv2, ss2, e2, ⟨B, d, rfl, hr2, -⟩, -⟩ := k
  have HR := Lib.hid hr
  have KR := Lib.hid hr2
  have C0 := Lib.hid (show cs[0]? = some (.slice A t.nodes.length c) ∧ cs[1]? = some (.int .u32 (t.lastGen : Int)) ∧ cs[2]? = some (.int .u32 (t.boot : Int)) ∧ cs[3]? = some (.int .u32 (t.count : Int)) by rw [e]; exact ⟨rfl, rfl, rfl, rfl⟩)
  have D0 := Lib.hid (show ds[0]? = some (.slice B t.nodes.length d) ∧ ds[1]? = some (.int .u32 (t.lastGen : Int)) ∧ ds[2]? = some (.int .u32 (t.boot : Int)) ∧ ds[3]? = some (.int .u32 (t.count : Int)) by rw [e2]; exact ⟨rfl, rfl, rfl, rfl⟩)
  have iln : (t.nodes.length : Int) ≤ 1000000 := by omega
  clear hn e e2 hr hr2 hl
  go_enter Tryd.func15, Tryd.ntmps15
  go_wp2_with (first
    | ((with_reducible show wpList _ _ _ _ _ w); refine wpList_boxS rfl 30 _ rfl cs rfl ?_; intro g1 w1 hk1 hb1 hg1; go_frame; have C1 := Lib.hid hk1; have B1 := Lib.hid hb1; clear hk1 hb1 hg1)
    | ((with_reducible show wpList _ _ _ _ _ w1); refine wpList_boxS rfl 30 _ rfl ds rfl ?_; intro g2 w2 hk1 hb1 hg1; go_frame; have E2 := Lib.hid hk1; have C2 := Lib.hid (C1.out.below hb1 C1.out.lt); have B2 := Lib.hid (below_chain B1.out hb1); have p0 : w2.cell? ⟨g1, 0, none⟩ = some (.slice A t.nodes.length c) := C2.out.cell 0 (by simpa using C0.out.1); have p1 : w2.cell? ⟨g1, 1, none⟩ = some (.int .u32 (t.lastGen : Int)) := C2.out.cell 1 (by simpa using C0.out.2.1); have p2 : w2.cell? ⟨g1, 2, none⟩ = some (.int .u32 (t.boot : Int)) := C2.out.cell 2 (by simpa using C0.out.2.2.1); have p3 : w2.cell? ⟨g1, 3, none⟩ = some (.int .u32 (t.count : Int)) := C2.out.cell 3 (by simpa using C0.out.2.2.2); have q0 : w2.cell? ⟨g2, 0, none⟩ = some (.slice B t.nodes.length d) := hk1.cell 0 (by simpa using D0.out.1); have q1 : w2.cell? ⟨g2, 1, none⟩ = some (.int .u32 (t.lastGen : Int)) := hk1.cell 1 (by simpa using D0.out.2.1); have q2 : w2.cell? ⟨g2, 2, none⟩ = some (.int .u32 (t.boot : Int)) := hk1.cell 2 (by simpa using D0.out.2.2.1); have q3 : w2.cell? ⟨g2, 3, none⟩ = some (.int .u32 (t.count : Int)) := hk1.cell 3 (by simpa using D0.out.2.2.2); clear hk1 hb1 hg1)
    | fail)
  clear p0 p1 p2 p3 q0 q1 q2 q3
  go_loopw [5] (fun j wr => ∃ k : Nat, j = .int .i64 k ∧ k ≤ t.nodes.length ∧ Below w2.heap.size w2 wr) (fun j _ => t.nodes.length - (RowKit.intOf j).toNat)
  case atStart => exact ⟨0, rfl, Nat.zero_le _, Below.refl _ _⟩
  case round =>
    obtain ⟨k, rfl, hk, hB⟩ := hrel
    have HB := Lib.hid hB
    have HBB := Lib.hid (below_chain B2.out hB)
    have CR := Lib.hid (C2.out.below hB C2.out.lt)
    have ER := Lib.hid (E2.out.below hB E2.out.lt)
    have q0 : wr.cell? ⟨g1, 0, none⟩ = some (.slice A t.nodes.length c) := CR.out.cell 0 (by simpa using C0.out.1)
    by_cases hlt : k < t.nodes.length
    · obtain ⟨b, off, xs, rfl, hnd, hat⟩ := (HR.out.below HBB.out).get k hlt
      obtain ⟨b2, off2, ys, rfl, hnd2, hat2⟩ := (KR.out.below HBB.out).get k hlt
      have HA1 := Lib.hid (show At wr b (off + k * 6) xs from hat)
      have HA2 := Lib.hid (show At wr b2 (off2 + k * 6) ys from hat2)
      have HN1 := Lib.hid hnd
      have HN2 := Lib.hid hnd2
      have HX1 := Lib.hid (show xs.length = 6 from hnd.len)
      have HX2 := Lib.hid (show ys.length = 6 from hnd2.len)
      have HNL := Lib.hid (HNN.out _ (List.getElem_mem hlt))
      generalize t.nodes[k] = n at *
      clear hB hat hat2 hnd hnd2
      go_wp2_with fail
      clear q0
      refine wp_region_V [] (fun u => Below wr.heap.size wr u) hmix ((Below.refl _ _).drew) ?_
      change wpAnyV _ _ _ _ _ _ _ _ _
      refine wpAnyV_take (i := 0) (v := .pointer (some ⟨g1, 0, none⟩)) 16 (kept_below _) rfl (by kernel_rfl) (by kernel_rfl) (fun _ _ _ h => h) (fun _ h => h) (DoesV.reads (by rfl) fun w9 hS => by go_simp) ?_
      try simp only [nrm, Act.put]
      refine wpAnyV_take (i := 1) (v := .slice (some ⟨b, off, none⟩) t.nodes.length c) 16 (kept_below _) rfl (by kernel_rfl) (by kernel_rfl) (fun _ _ _ h => h) (fun _ h => h) (DoesV.reads (by rfl) fun w9 hS => by have q0 : w9.cell? ⟨g1, 0, none⟩ = some (.slice (some ⟨b, off, none⟩) t.nodes.length c) := (CR.out.below hS CR.out.lt).cell 0 (by simpa using C0.out.1); go_simp) ?_
      try simp only [nrm, Act.put]
      refine wpAnyV_take (i := 2) (v := .int .i64 (k : Int)) 16 (kept_below _) rfl (by kernel_rfl) (by kernel_rfl) (fun _ _ _ h => h) (fun _ h => h) (DoesV.reads (by rfl) fun w9 hS => by go_simp) ?_
      try simp only [nrm, Act.put]
      refine wpAnyV_take (i := 3) (v := .pointer (some ⟨b, off + k * 6, none⟩)) 16 (kept_below _) rfl (by kernel_rfl) (by kernel_rfl) (fun _ _ _ h => h) (fun _ h => h) (DoesV.reads (by rfl) fun w9 hS => by go_simp) ?_
      try simp only [nrm, Act.put]
      refine wpAnyV_take (i := 4) (v := .agg xs.toArray) 16 (kept_below _) rfl (by kernel_rfl) (by kernel_rfl) (fun _ _ _ h => h) (fun _ h => h) (DoesV.loadT (by rfl) 48 _ rfl b (off + k * 6) rfl xs (fun w9 hS => At.tz HA1.out hS) _ Tryd.underlying48 rfl (by rw [HX1.out]; exact infoNode)) ?_
      try simp only [nrm, Act.put]
      refine wpAnyV_take (i := 5) (v := .pointer (some ⟨g2, 0, none⟩)) 16 (kept_below _) rfl (by kernel_rfl) (by kernel_rfl) (fun _ _ _ h => h) (fun _ h => h) (DoesV.reads (by rfl) fun w9 hS => by go_simp) ?_
      try simp only [nrm, Act.put]
      refine wpAnyV_take (i := 6) (v := .slice (some ⟨b2, off2, none⟩) t.nodes.length d) 16 (kept_below _) rfl (by kernel_rfl) (by kernel_rfl) (fun _ _ _ h => h) (fun _ h => h) (DoesV.reads (by rfl) fun w9 hS => by have q0 : w9.cell? ⟨g2, 0, none⟩ = some (.slice (some ⟨b2, off2, none⟩) t.nodes.length d) := (ER.out.below hS ER.out.lt).cell 0 (by simpa using D0.out.1); go_simp) ?_
      try simp only [nrm, Act.put]
      refine wpAnyV_take (i := 7) (v := .int .i64 (k : Int)) 16 (kept_below _) rfl (by kernel_rfl) (by kernel_rfl) (fun _ _ _ h => h) (fun _ h => h) (DoesV.reads (by rfl) fun w9 hS => by go_simp) ?_
      try simp only [nrm, Act.put]
      refine wpAnyV_take (i := 8) (v := .pointer (some ⟨b2, off2 + k * 6, none⟩)) 16 (kept_below _) rfl (by kernel_rfl) (by kernel_rfl) (fun _ _ _ h => h) (fun _ h => h) (DoesV.reads (by rfl) fun w9 hS => by go_simp) ?_
      try simp only [nrm, Act.put]
      refine wpAnyV_take (i := 9) (v := .agg ys.toArray) 16 (kept_below _) rfl (by kernel_rfl) (by kernel_rfl) (fun _ _ _ h => h) (fun _ h => h) (DoesV.loadT (by rfl) 48 _ rfl b2 (off2 + k * 6) rfl ys (fun w9 hS => At.tz HA2.out hS) _ Tryd.underlying48 rfl (by rw [HX2.out]; exact infoNode)) ?_
      try simp only [nrm, Act.put]
      refine wpAnyV_take (i := 10) (v := .bool true) 16 (kept_below _) rfl (by kernel_rfl) (by kernel_rfl) (fun _ _ _ h => h) (fun _ h => h) (DoesV.calls 33 #[.agg xs.toArray, .agg ys.toArray] (by rfl) (fun w9 hS => by go_simp) (fun w9 hS => (SameNode_v n n xs ys F G w9 (HN1.out.below hS) (HN2.out.below hS) (by have := HNL.out; omega) (by have := HNL.out; omega)).mono fun e w9 h => ⟨by rw [h.1, sameN_self], h.2⟩)) ?_
      try simp only [nrm, Act.put]
      refine wpAnyV_take (i := 11) (v := .bool false) 16 (kept_below _) rfl (by kernel_rfl) (by kernel_rfl) (fun _ _ _ h => h) (fun _ h => h) (DoesV.reads (by rfl) fun w9 hS => by go_simp) ?_
      try simp only [nrm, Act.put]
      refine wpAnyV_done (by kernel_rfl) (fun wz hz => ?_) _
      have BZ := Lib.hid (below_chain HB.out hz)
      clear hz
      go_wp2_with fail
      go_roundw
      case rel => exact ⟨k + 1, by go_num, hlt, BZ.out⟩
      case measure => simp [RowKit.intOf]; omega
    · obtain rfl : k = t.nodes.length := by omega
      have HB1 := Lib.hid hB
      clear hB HB HBB CR ER
      go_wp2_with fail
      clear q0
      go_loopw [6] (fun j wr => ∃ k : Nat, j = .int .i64 k ∧ k ≤ 4 ∧ Below w2.heap.size w2 wr) (fun j _ => 4 - (RowKit.intOf j).toNat)
      case atStart => exact ⟨0, rfl, Nat.zero_le _, HB1.out⟩
      case round =>
        obtain ⟨k, rfl, hk, hB⟩ := hrel
        have HB := Lib.hid hB
        have HBB := Lib.hid (below_chain B2.out hB)
        by_cases hlt : k < 4
        · have hks : k < t.sess.length := by rw [HL4.out]; exact hlt
          obtain ⟨v, hat, hbs⟩ := (four_of HTR.out (C2.out.below hB C2.out.lt) HBB.out).at1 k hks
          obtain ⟨v2, hat2, hbs2⟩ := (four_of KTR.out (E2.out.below hB E2.out.lt) HBB.out).at1 k hks
          have HA1 := Lib.hid hat
          have HA2 := Lib.hid hat2
          generalize t.sess[k] = s at *
          have S1 := Lib.hid hbs
          have S2 := Lib.hid hbs2
          have O1 := Lib.hid (show ∀ q ∈ sesC s v, q.oneCell' = true by intro q hq; simp [sesC] at hq; rcases hq with rfl | rfl | rfl; rfl; rfl; exact hbs.one)
          have O2 := Lib.hid (show ∀ q ∈ sesC s v2, q.oneCell' = true by intro q hq; simp [sesC] at hq; rcases hq with rfl | rfl | rfl; rfl; rfl; exact hbs2.one)
          clear hB hat hat2 hbs hbs2
          go_wp2_with fail
          refine wp_region_V [] (fun u => Below wr.heap.size wr u) hmix ((Below.refl _ _).drew) ?_
          change wpAnyV _ _ _ _ _ _ _ _ _
          refine wpAnyV_take (i := 0) (v := .int .i64 (k : Int)) 16 (kept_below _) rfl (by kernel_rfl) (by kernel_rfl) (fun _ _ _ h => h) (fun _ h => h) (DoesV.reads (by rfl) fun w9 hS => by go_simp) ?_
          try simp only [nrm, Act.put]
          refine wpAnyV_take (i := 1) (v := .pointer (some ⟨g1, 4, none⟩)) 16 (kept_below _) rfl (by kernel_rfl) (by kernel_rfl) (fun _ _ _ h => h) (fun _ h => h) (DoesV.reads (by rfl) fun w9 hS => by go_simp) ?_
          try simp only [nrm, Act.put]
          refine wpAnyV_take (i := 2) (v := .pointer (some ⟨g1, 4 + k * 3, none⟩)) 16 (kept_below _) rfl (by kernel_rfl) (by kernel_rfl) (fun _ _ _ h => h) (fun _ h => h) (DoesV.reads (by rfl) fun w9 hS => by go_simp) ?_
          try simp only [nrm, Act.put]
          refine wpAnyV_take (i := 3) (v := .agg (sesC s v).toArray) 16 (kept_below _) rfl (by kernel_rfl) (by kernel_rfl) (fun _ _ _ h => h) (fun _ h => h) (DoesV.loadT (by rfl) 27 _ rfl g1 (4 + k * 3) rfl (sesC s v) (fun w9 hS => At.tz HA1.out hS) _ Tryd.underlying27 rfl infoSesT) ?_
          try simp only [nrm, Act.put]
          refine wpAnyV_take (i := 4) (v := .int .i64 (k : Int)) 16 (kept_below _) rfl (by kernel_rfl) (by kernel_rfl) (fun _ _ _ h => h) (fun _ h => h) (DoesV.reads (by rfl) fun w9 hS => by go_simp) ?_
          try simp only [nrm, Act.put]
          refine wpAnyV_take (i := 5) (v := .pointer (some ⟨g2, 4, none⟩)) 16 (kept_below _) rfl (by kernel_rfl) (by kernel_rfl) (fun _ _ _ h => h) (fun _ h => h) (DoesV.reads (by rfl) fun w9 hS => by go_simp) ?_
          try simp only [nrm, Act.put]
          refine wpAnyV_take (i := 6) (v := .pointer (some ⟨g2, 4 + k * 3, none⟩)) 16 (kept_below _) rfl (by kernel_rfl) (by kernel_rfl) (fun _ _ _ h => h) (fun _ h => h) (DoesV.reads (by rfl) fun w9 hS => by go_simp) ?_
          try simp only [nrm, Act.put]
          refine wpAnyV_take (i := 7) (v := .agg (sesC s v2).toArray) 16 (kept_below _) rfl (by kernel_rfl) (by kernel_rfl) (fun _ _ _ h => h) (fun _ h => h) (DoesV.loadT (by rfl) 27 _ rfl g2 (4 + k * 3) rfl (sesC s v2) (fun w9 hS => At.tz HA2.out hS) _ Tryd.underlying27 rfl infoSesT) ?_
          try simp only [nrm, Act.put]
          refine wpAnyV_two (i := 8) (j := 9) rfl rfl (by kernel_rfl) rfl rfl (fun u hS => ?_) (fun u hS => ?_)
          · refine wp_allocS 27 rfl sesZ sesZero fun ga u' hk hb hg => ⟨(fun u => (Below wr.heap.size wr u) ∧ wr.heap.size ≤ ga ∧ (∃ xs : List Value, Cs u ga 27 xs.toArray ∧ xs.length = 3)), ⟨(kept_below _) _ _ hS hb, Nat.le_trans (hS).size hg, sesZ, hk, rfl⟩, kept_and (kept_below _) (kept_and (kept_true _) (kept_len _ _ _)), fun _ _ h => h.1, ?_⟩
            clear hk hb hS
            try simp only [nrm, Act.put]
            refine wpAnyV_only (i := 9) rfl (by kernel_rfl) rfl (fun u hS => ?_)
            obtain ⟨zs, hz1, -⟩ := hS.2.2
            have HLT := Lib.hid hz1.lt
            clear hz1
            refine wp_allocS 27 rfl sesZ sesZero fun gb u' hk hb hg => ⟨(fun u => ((Below wr.heap.size wr u) ∧ wr.heap.size ≤ ga ∧ (∃ xs : List Value, Cs u ga 27 xs.toArray ∧ xs.length = 3)) ∧ wr.heap.size ≤ gb ∧ (∃ xs : List Value, Cs u gb 27 xs.toArray ∧ xs.length = 3)), ⟨(kept_and (kept_below _) (kept_and (kept_true _) (kept_len _ _ _))) _ _ hS hb, Nat.le_trans (hS.1).size hg, sesZ, hk, rfl⟩, kept_and (kept_and (kept_below _) (kept_and (kept_true _) (kept_len _ _ _))) (kept_and (kept_true _) (kept_len _ _ _)), fun _ _ h => h.1, ?_⟩
            have HNE := Lib.hid (show ga ≠ gb by have := HLT.out; omega)
            clear hk hb hS
            try simp only [nrm, Act.put]
            refine wpAnyV_only (i := 10) rfl (by kernel_rfl) rfl (fun u hS => ?_)
            obtain ⟨xs, hx1, hx2⟩ := hS.1.2.2
            obtain ⟨ys, hy1, hy2⟩ := hS.2.2
            have hga := hS.1.2.1
            have hgb := hS.2.1
            have hBl := hS.1.1
            refine wp_storeW 27 _ _ rfl ga rfl (sesC s v) xs rfl hx1 (by rw [hx2]; rfl) O1.out infoSesT fun u' hk ht => ⟨(fun u => (((Below wr.heap.size wr u) ∧ wr.heap.size ≤ ga ∧ (∃ xs : List Value, Cs u ga 27 xs.toArray ∧ xs.length = 3)) ∧ wr.heap.size ≤ gb ∧ (∃ xs : List Value, Cs u gb 27 xs.toArray ∧ xs.length = 3)) ∧ Cs u ga 27 (sesC s v).toArray), ⟨⟨⟨Turn.below ht hBl.size (fun q e => by subst e; assumption) |> hBl.trans, hga, sesC s v, hk, rfl⟩, hgb, ys, hy1.turn ht (fun e => HNE.out e.symm), hy2⟩, hk⟩, kept_and (kept_and (kept_and (kept_below _) (kept_and (kept_true _) (kept_len _ _ _))) (kept_and (kept_true _) (kept_len _ _ _))) (kept_cs _ _ _), fun _ _ h => h.1, ?_⟩
            clear hS hx1 hx2 hy1 hy2 hBl hga hgb
            try simp only [nrm, Act.put]
            refine wpAnyV_only (i := 11) rfl (by kernel_rfl) rfl (fun u hS => ?_)
            obtain ⟨xs, hx1, hx2⟩ := hS.1.1.2.2
            obtain ⟨ys, hy1, hy2⟩ := hS.1.2.2
            have hga := hS.1.1.2.1
            have hgb := hS.1.2.1
            have hBl := hS.1.1.1
            refine wp_storeW 27 _ _ rfl gb rfl (sesC s v2) ys rfl hy1 (by rw [hy2]; rfl) O2.out infoSesT fun u' hk ht => ⟨(fun u => ((((Below wr.heap.size wr u) ∧ wr.heap.size ≤ ga ∧ (∃ xs : List Value, Cs u ga 27 xs.toArray ∧ xs.length = 3)) ∧ wr.heap.size ≤ gb ∧ (∃ xs : List Value, Cs u gb 27 xs.toArray ∧ xs.length = 3)) ∧ Cs u ga 27 (sesC s v).toArray) ∧ Cs u gb 27 (sesC s v2).toArray), ⟨⟨⟨⟨Turn.below ht hBl.size (fun q e => by subst e; assumption) |> hBl.trans, hga, xs, hx1.turn ht (fun e => HNE.out e), hx2⟩, hgb, sesC s v2, hk, rfl⟩, hS.2.turn ht (fun e => HNE.out e)⟩, hk⟩, kept_and (kept_and (kept_and (kept_and (kept_below _) (kept_and (kept_true _) (kept_len _ _ _))) (kept_and (kept_true _) (kept_len _ _ _))) (kept_cs _ _ _)) (kept_cs _ _ _), fun _ _ h => h.1, ?_⟩
            clear hS hx1 hx2 hy1 hy2 hBl hga hgb
            try simp only [nrm, Act.put]
            refine wpAnyV_done (by kernel_rfl) (fun wz hz => ?_) _
            have BZ := Lib.hid hz.1.1.1.1
            have CA := Lib.hid hz.1.2
            have CB := Lib.hid hz.2
            clear hz
            have p0 : wz.cell? ⟨ga, 0, none⟩ = some (.int .u32 (s.1 : Int)) := CA.out.cell 0 rfl
            have p1 : wz.cell? ⟨ga, 1, none⟩ = some (.int .u64 (s.2.1 : Int)) := CA.out.cell 1 rfl
            obtain ⟨Aa, ca, rfl, hra, hna⟩ := S1.out.partsT
            obtain ⟨Ab, cb, rfl, hrb, hnb⟩ := S2.out.partsT
            have p2 : wz.cell? ⟨ga, 2, none⟩ = some (.slice Aa s.2.2.length ca) := CA.out.cell 2 rfl
            have q0 : wz.cell? ⟨gb, 0, none⟩ = some (.int .u32 (s.1 : Int)) := CB.out.cell 0 rfl
            have q1 : wz.cell? ⟨gb, 1, none⟩ = some (.int .u64 (s.2.1 : Int)) := CB.out.cell 1 rfl
            have q2 : wz.cell? ⟨gb, 2, none⟩ = some (.slice Ab s.2.2.length cb) := CB.out.cell 2 rfl
            have hc1 := conv_rd (hra.below BZ.out) ca
            have hc2 := conv_rd (hrb.below BZ.out) cb
            go_wp2_with fail
            go_roundw
            case rel => exact ⟨k + 1, by go_num, hlt, below_chain HB.out BZ.out⟩
            case measure => simp [RowKit.intOf]; omega
          · refine wp_allocS 27 rfl sesZ sesZero fun gb u' hk hb hg => ⟨(fun u => (Below wr.heap.size wr u) ∧ wr.heap.size ≤ gb ∧ (∃ xs : List Value, Cs u gb 27 xs.toArray ∧ xs.length = 3)), ⟨(kept_below _) _ _ hS hb, Nat.le_trans (hS).size hg, sesZ, hk, rfl⟩, kept_and (kept_below _) (kept_and (kept_true _) (kept_len _ _ _)), fun _ _ h => h.1, ?_⟩
            clear hk hb hS
            try simp only [nrm, Act.put]
            refine wpAnyV_only (i := 8) rfl (by kernel_rfl) rfl (fun u hS => ?_)
            obtain ⟨zs, hz1, -⟩ := hS.2.2
            have HLT := Lib.hid hz1.lt
            clear hz1
            refine wp_allocS 27 rfl sesZ sesZero fun ga u' hk hb hg => ⟨(fun u => ((Below wr.heap.size wr u) ∧ wr.heap.size ≤ gb ∧ (∃ xs : List Value, Cs u gb 27 xs.toArray ∧ xs.length = 3)) ∧ wr.heap.size ≤ ga ∧ (∃ xs : List Value, Cs u ga 27 xs.toArray ∧ xs.length = 3)), ⟨(kept_and (kept_below _) (kept_and (kept_true _) (kept_len _ _ _))) _ _ hS hb, Nat.le_trans (hS.1).size hg, sesZ, hk, rfl⟩, kept_and (kept_and (kept_below _) (kept_and (kept_true _) (kept_len _ _ _))) (kept_and (kept_true _) (kept_len _ _ _)), fun _ _ h => h.1, ?_⟩
            have HNE := Lib.hid (show ga ≠ gb by have := HLT.out; omega)
            clear hk hb hS
            try simp only [nrm, Act.put]
            refine wpAnyV_only (i := 10) rfl (by kernel_rfl) rfl (fun u hS => ?_)
            obtain ⟨xs, hx1, hx2⟩ := hS.2.2
            obtain ⟨ys, hy1, hy2⟩ := hS.1.2.2
            have hga := hS.2.1
            have hgb := hS.1.2.1
            have hBl := hS.1.1
            refine wp_storeW 27 _ _ rfl ga rfl (sesC s v) xs rfl hx1 (by rw [hx2]; rfl) O1.out infoSesT fun u' hk ht => ⟨(fun u => (((Below wr.heap.size wr u) ∧ wr.heap.size ≤ gb ∧ (∃ xs : List Value, Cs u gb 27 xs.toArray ∧ xs.length = 3)) ∧ wr.heap.size ≤ ga ∧ (∃ xs : List Value, Cs u ga 27 xs.toArray ∧ xs.length = 3)) ∧ Cs u ga 27 (sesC s v).toArray), ⟨⟨⟨Turn.below ht hBl.size (fun q e => by subst e; assumption) |> hBl.trans, hgb, ys, hy1.turn ht (fun e => HNE.out e.symm), hy2⟩, hga, sesC s v, hk, rfl⟩, hk⟩, kept_and (kept_and (kept_and (kept_below _) (kept_and (kept_true _) (kept_len _ _ _))) (kept_and (kept_true _) (kept_len _ _ _))) (kept_cs _ _ _), fun _ _ h => h.1, ?_⟩
            clear hS hx1 hx2 hy1 hy2 hBl hga hgb
            try simp only [nrm, Act.put]
            refine wpAnyV_only (i := 11) rfl (by kernel_rfl) rfl (fun u hS => ?_)
            obtain ⟨xs, hx1, hx2⟩ := hS.1.2.2
            obtain ⟨ys, hy1, hy2⟩ := hS.1.1.2.2
            have hga := hS.1.2.1
            have hgb := hS.1.1.2.1
            have hBl := hS.1.1.1
            refine wp_storeW 27 _ _ rfl gb rfl (sesC s v2) ys rfl hy1 (by rw [hy2]; rfl) O2.out infoSesT fun u' hk ht => ⟨(fun u => ((((Below wr.heap.size wr u) ∧ wr.heap.size ≤ gb ∧ (∃ xs : List Value, Cs u gb 27 xs.toArray ∧ xs.length = 3)) ∧ wr.heap.size ≤ ga ∧ (∃ xs : List Value, Cs u ga 27 xs.toArray ∧ xs.length = 3)) ∧ Cs u ga 27 (sesC s v).toArray) ∧ Cs u gb 27 (sesC s v2).toArray), ⟨⟨⟨⟨Turn.below ht hBl.size (fun q e => by subst e; assumption) |> hBl.trans, hgb, sesC s v2, hk, rfl⟩, hga, xs, hx1.turn ht (fun e => HNE.out e), hx2⟩, hS.2.turn ht (fun e => HNE.out e)⟩, hk⟩, kept_and (kept_and (kept_and (kept_and (kept_below _) (kept_and (kept_true _) (kept_len _ _ _))) (kept_and (kept_true _) (kept_len _ _ _))) (kept_cs _ _ _)) (kept_cs _ _ _), fun _ _ h => h.1, ?_⟩
            clear hS hx1 hx2 hy1 hy2 hBl hga hgb
            try simp only [nrm, Act.put]
            refine wpAnyV_done (by kernel_rfl) (fun wz hz => ?_) _
            have BZ := Lib.hid hz.1.1.1.1
            have CA := Lib.hid hz.1.2
            have CB := Lib.hid hz.2
            clear hz
            have p0 : wz.cell? ⟨ga, 0, none⟩ = some (.int .u32 (s.1 : Int)) := CA.out.cell 0 rfl
            have p1 : wz.cell? ⟨ga, 1, none⟩ = some (.int .u64 (s.2.1 : Int)) := CA.out.cell 1 rfl
            obtain ⟨Aa, ca, rfl, hra, hna⟩ := S1.out.partsT
            obtain ⟨Ab, cb, rfl, hrb, hnb⟩ := S2.out.partsT
            have p2 : wz.cell? ⟨ga, 2, none⟩ = some (.slice Aa s.2.2.length ca) := CA.out.cell 2 rfl
            have q0 : wz.cell? ⟨gb, 0, none⟩ = some (.int .u32 (s.1 : Int)) := CB.out.cell 0 rfl
            have q1 : wz.cell? ⟨gb, 1, none⟩ = some (.int .u64 (s.2.1 : Int)) := CB.out.cell 1 rfl
            have q2 : wz.cell? ⟨gb, 2, none⟩ = some (.slice Ab s.2.2.length cb) := CB.out.cell 2 rfl
            have hc1 := conv_rd (hra.below BZ.out) ca
            have hc2 := conv_rd (hrb.below BZ.out) cb
            go_wp2_with fail
            go_roundw
            case rel => exact ⟨k + 1, by go_num, hlt, below_chain HB.out BZ.out⟩
            case measure => simp [RowKit.intOf]; omega
        · obtain rfl : k = 4 := by omega
          clear hB
          go_wp2_with fail
          go_ret
          exact ⟨rfl, HBB.out⟩

end Go.Proofs.YtdhlejhflkfoaaaDoor
/- TzPK: TzQ TzP TzR. -/
/- The program: asks in a slice; Find, Lookup. -/
namespace Go.Proofs.YtdhlejhflkfoaaaDoor
open Go.RowKit Go.Shelf
set_option linter.unusedVariables false
set_option maxRecDepth 100000
set_option linter.unusedSimpArgs false

/-- a status behind another -/
def orS (a b : Nat) : Nat := if a = 0 then b else a
theorem Chain.cons {w : World} {v : Value} {r : List Value} {s1 s' : Nat} (h256 : s1 < 256) (hA : AskV w v s1) (h : s1 = 0 → Chain w r s') : Chain w (v :: r) (orS s1 s') := by
  refine ⟨s1, h256, hA, fun e => ?_, fun e => ?_⟩
  · unfold orS; rw [if_pos e]; exact h e
  · unfold orS; rw [if_neg e]
end Go.Proofs.YtdhlejhflkfoaaaDoor

/- A tree of one's own in a box: a cell of a node changed, stamps, a node cut or put in; what the lists come to. -/
namespace Go.Proofs.YtdhlejhflkfoaaaDoor
open Go.RowKit Go.Shelf
set_option linter.unusedVariables false
set_option maxRecDepth 100000
set_option linter.unusedSimpArgs false

/-- .. and no memory of the future -/
structure NxB (w : World) (N B : Nat) (nv : Value) (ss : List Value) (t : Tr) (ls : List (Nd × Sup)) (S : Sup) : Prop where
  o : NxO w N B nv ss t ls S
  top : ∀ p ∈ ls, ∀ k, p.2 k → k < w.heap.size
  topS : ∀ k, S k → k < w.heap.size
theorem NxB.below {w w' : World} {N B : Nat} {nv : Value} {ss : List Value} {t : Tr} {ls : List (Nd × Sup)} {S : Sup} (h : NxB w N B nv ss t ls S) (hb : Below w.heap.size w w') : NxB w' N B nv ss t ls S :=
  ⟨h.o.below hb, fun p hp k hk => Nat.lt_of_lt_of_le (h.top p hp k hk) hb.size, fun k hk => Nat.lt_of_lt_of_le (h.topS k hk) hb.size⟩
theorem NxB.blk {w : World} {N B g n c : Nat} {ss : List Value} {t : Tr} {ls : List (Nd × Sup)} {S : Sup} (h : NxB w N B (.slice (some ⟨g, 0, none⟩) n c) ss t ls S) : N ≤ g ∧ g ≠ B := h.o.own.sub g rfl
theorem apart_get {ls : List (Nd × Sup)} (h : Apart ls) {i j : Nat} (hi : i < ls.length) (hj : j < ls.length) (e : i ≠ j) (k : Nat) : ¬ (ls[i].2 k ∧ ls[j].2 k) := by
  rcases Nat.lt_or_gt_of_ne e with h1 | h1
  · exact List.pairwise_iff_getElem.1 h i j hi hj h1 k
  · exact fun hh => List.pairwise_iff_getElem.1 h j i hj hi h1 k ⟨hh.2, hh.1⟩
theorem apart_set {ls : List (Nd × Sup)} (h : Apart ls) {i : Nat} {p : Nd × Sup} (hp : ∀ j (hj : j < ls.length), j ≠ i → ∀ k, ¬ (p.2 k ∧ ls[j].2 k)) : Apart (ls.set i p) := by
  rw [Apart, List.pairwise_iff_getElem]
  intro a b ha hb hab k
  rw [List.length_set] at ha hb
  rw [List.getElem_set, List.getElem_set]
  by_cases e1 : i = a
  · rw [if_pos e1, if_neg (by omega)]
    exact hp b hb (by omega) k
  · rw [if_neg e1]
    by_cases e2 : i = b
    · rw [if_pos e2]
      exact fun hh => hp a ha (by omega) k ⟨hh.2, hh.1⟩
    · rw [if_neg e2]
      exact apart_get h ha hb (by omega) k
/-- a cell of a node -/
theorem NxB.cell {w w' : World} {N B g n c : Nat} {ss : List Value} {t : Tr} {ls : List (Nd × Sup)} {S : Sup} (h : NxB w N B (.slice (some ⟨g, 0, none⟩) n c) ss t ls S) {cur : Array Value} (hg : Cs w g 48 cur) {i f : Nat} (hi : i < ls.length) (hf : f < 6) {u : Value} {y : Nd} {G : Nat → Prop}
    (hk : Cs w' g 48 (cur.setIfInBounds (i * 6 + f) u)) (ht : Turn w w' G) (hG : ∀ k, G k → k = g ∨ (ls[i].2 k ∧ N ≤ k ∧ k ≠ B ∧ k ≠ g) ∨ w.heap.size ≤ k)
    (hy : ∀ cs, NdO w N (fun k => ((N ≤ k ∧ k ≠ B) ∧ k ≠ g) ∧ ls[i].2 k) cs ls[i].1 → NdO w' N (fun k => ((N ≤ k ∧ k ≠ B) ∧ k ≠ g) ∧ (ls[i].2 k ∨ w.heap.size ≤ k)) (cs.set f u) y) :
    NxB w' N B (.slice (some ⟨g, 0, none⟩) n c) ss { t with nodes := t.nodes.set i y } (ls.set i (y, fun k => (ls[i].2 k ∨ w.heap.size ≤ k) ∧ k < w'.heap.size)) S := by
  obtain ⟨hg1, hg2⟩ := h.blk
  have hfar : ∀ k, S k → ¬ G k := fun k hk hgk => by
    obtain ⟨k1, k2, k3, k4⟩ := h.o.far k hk
    rcases hG k hgk with rfl | h1 | h1
    · exact k3 rfl
    · exact k4 _ (List.getElem_mem hi) h1.1
    · have := h.topS k hk
      omega
  refine ⟨⟨h.o.box.turn ht fun hgk => ?_, h.o.low, ?_, ?_, ?_, h.o.ses.turn ht hfar, fun k hk => ?_, h.o.len, h.o.big⟩, fun p hp k hk => ?_, fun k hk => Nat.lt_of_lt_of_le (h.topS k hk) ht.size⟩
  · have := h.o.box.lt
    rcases hG B hgk with h1 | h1 | h1
    · exact hg2 h1.symm
    · exact h1.2.2.1 rfl
    · omega
  · refine OwnX.setc (E := nodeO N) h.o.own hg hi hf (y := (y, fun k => (ls[i].2 k ∨ w.heap.size ≤ k) ∧ k < w'.heap.size)) hk ⟨hg1, hg2⟩ (fun j hj e cs hx => ?_) fun cs hx => ?_
    · refine NdO.turn hx ht fun k hk hgk => ?_
      rcases hG k hgk with h1 | h1 | h1
      · exact hk.1.2 h1
      · exact apart_get h.o.dis hi hj (fun e1 => e e1.symm) k ⟨h1.1, hk.2⟩
      · have := h.top _ (List.getElem_mem hj) k hk.2
        omega
    · exact NdO.mono (hy cs hx) fun k hk hh => ⟨hh.1, hh.2, hk⟩
  · rw [List.map_set, h.o.nds]
  · refine apart_set h.o.dis fun j hj e k hh => ?_
    rcases hh.1.1 with h1 | h1
    · exact apart_get h.o.dis hi hj (fun e1 => e e1.symm) k ⟨h1, hh.2⟩
    · have := h.top _ (List.getElem_mem hj) k hh.2
      omega
  · obtain ⟨k1, k2, k3, k4⟩ := h.o.far k hk
    refine ⟨k1, k2, k3, fun p hp hpk => ?_⟩
    rcases List.mem_or_eq_of_mem_set hp with h1 | rfl
    · exact k4 p h1 hpk
    · rcases hpk.1 with h1 | h1
      · exact k4 _ (List.getElem_mem hi) h1
      · have := h.topS k hk
        omega
  · rcases List.mem_or_eq_of_mem_set hp with h1 | rfl
    · exact Nat.lt_of_lt_of_le (h.top p h1 k hk) ht.size
    · exact hk.2
/-- nodes' cells changed in place -/
theorem NxB.chg {w w' : World} {N B g n c : Nat} {ss : List Value} {t t' : Tr} {ls ls' : List (Nd × Sup)} {S : Sup} (h : NxB w N B (.slice (some ⟨g, 0, none⟩) n c) ss t ls S) {cur cur' : Array Value} (hg : Cs w g 48 cur) {G : Nat → Prop}
    (hB : Cs w' B 30 (trC (.slice (some ⟨g, 0, none⟩) n c) t' ss).toArray) (hk : Cs w' g 48 cur') (ht : Turn w w' G) (hG : ∀ k, G k → k = B ∨ k = g ∨ ((∀ p ∈ ls, ¬ p.2 k) ∧ ¬ S k))
    (hrow : ∀ W F, RowX (nodeO N) W F (cur.toList.take (ls.length * 6)) ls → RowX (nodeO N) W F (cur'.toList.take (ls.length * 6)) ls') (hsz : cur'.size = cur.size) (hl : ls'.length = ls.length) (hsup : ls'.map (·.2) = ls.map (·.2)) (hnd : ls'.map (·.1) = t'.nodes) (hse : t'.sess = t.sess) (hbig : t'.lastGen < 4294967296 ∧ t'.boot < 4294967296 ∧ t'.count < 4294967296) :
    NxB w' N B (.slice (some ⟨g, 0, none⟩) n c) ss t' ls' S := by
  obtain ⟨hg1, hg2⟩ := h.blk
  have hmem : ∀ p ∈ ls', ∃ q ∈ ls, q.2 = p.2 := fun p hp => by
    have : p.2 ∈ ls.map (·.2) := by rw [← hsup]; exact List.mem_map.2 ⟨p, hp, rfl⟩
    exact List.mem_map.1 this
  have hfar : ∀ k, S k → ¬ G k := fun k hk hgk => by
    obtain ⟨k1, k2, k3, k4⟩ := h.o.far k hk
    rcases hG k hgk with rfl | rfl | h1
    · exact k2 rfl
    · exact k3 rfl
    · exact h1.2 hk
  refine ⟨⟨hB, h.o.low, ?_, hnd, ?_, by rw [hse]; exact h.o.ses.turn ht hfar, fun k hk => ?_, by rw [hse]; exact h.o.len, hbig⟩, fun p hp k hk => ?_, fun k hk => Nat.lt_of_lt_of_le (h.topS k hk) ht.size⟩
  · obtain ⟨cur1, k1, k2, k3, k4, k5, k6, kk7⟩ := h.o.own.cur
    obtain rfl : cur1 = cur := by
      have := k1.symm.trans hg
      injection this with this
      injection this
    have e1 : n = ls'.length := by rw [hl]; exact k3
    subst e1
    refine OwnX.mk' (E := nodeO N) (cur := cur') hk k2 ⟨hg1, hg2⟩ (by omega) k5 (by rw [hsz]; exact k6) ?_
    rw [hl]
    refine hrow w' _ ⟨kk7.1, fun j hj => ?_⟩
    refine NdO.turn (kk7.2 j hj) ht fun k hk hgk => ?_
    rcases hG k hgk with h1 | h1 | h1
    · exact hk.1.1.2 h1
    · exact hk.1.2 h1
    · exact h1.1 _ (List.getElem_mem hj) hk.2
  · have h1 : (ls.map (·.2)).Pairwise fun a b : Sup => ∀ k, ¬ (a k ∧ b k) := List.pairwise_map.2 h.o.dis
    rw [← hsup] at h1
    exact List.pairwise_map.1 h1
  · obtain ⟨k1, k2, k3, k4⟩ := h.o.far k hk
    refine ⟨k1, k2, k3, fun p hp hpk => ?_⟩
    obtain ⟨q, hq, e⟩ := hmem p hp
    exact k4 q hq (by rw [e]; exact hpk)
  · obtain ⟨q, hq, e⟩ := hmem p hp
    exact Nat.lt_of_lt_of_le (h.top q hq k (by rw [e]; exact hk)) ht.size
/-- what is read of it in the end -/
theorem NxB.last {w w' : World} {N B : Nat} {nv nv' : Value} {ss : List Value} {t t' : Tr} {ls ls' : List (Nd × Sup)} {S : Sup} (h : NxB w N B nv ss t ls S) {F : Nat → Prop} (ho : OwnX (nodeO N) w' N F nv' ls') (hF : ∀ k, F k → N ≤ k) {G : Nat → Prop} (ht : Turn w w' G) (hG : ∀ k, S k → ¬ G k) (hnd : ls'.map (·.1) = t'.nodes) (hse : t'.sess = t.sess) (hbig : t'.lastGen < 4294967296 ∧ t'.boot < 4294967296 ∧ t'.count < 4294967296) : TrAt w' (N ≤ ·) (trC nv' t' ss) t' :=
  ⟨nv', ss, rfl, by rw [← hnd]; exact (ho.ls.mono fun k _ hk => hF k hk).nd, by rw [hse]; exact (h.o.ses.turn ht hG).mono fun k _ hk => (h.o.far k hk).1, by rw [hse]; exact h.o.len.1, h.o.len.2, hbig⟩

end Go.Proofs.YtdhlejhflkfoaaaDoor

/- The program: Resize. -/
namespace Go.Proofs.YtdhlejhflkfoaaaDoor
open Go.RowKit Go.Shelf
set_option linter.unusedVariables false
set_option maxRecDepth 100000
set_option linter.unusedSimpArgs false

theorem TrO.at1 {w : World} {N : Nat} {nv : Value} {ss : List Value} {t : Tr} {ls : List (Nd × Sup)} {S : Sup} (h : TrO w N nv ss t ls S) : TrAt w (N ≤ ·) (trC nv t ss) t :=
  ⟨nv, ss, rfl, by rw [← h.nds]; exact h.own.ls.nd, h.ses.mono fun k _ hk => (h.far k hk).1, h.len.1, h.len.2, h.big⟩
theorem NxB.rd {w : World} {N B : Nat} {A : Option Addr} {n c : Nat} {ss : List Value} {t : Tr} {ls : List (Nd × Sup)} {S : Sup} (h : NxB w N B (.slice A n c) ss t ls S) : RdX nodeE w (N ≤ ·) A t.nodes ∧ ls.length = t.nodes.length := by
  have h1 := (h.o.own.ls.mono (G := (N ≤ ·)) fun k _ hk => hk.1).nd
  rw [h.o.nds] at h1
  obtain ⟨A', c', e, hr, -⟩ := h1
  injection e with e1 e2 e3
  subst e1
  exact ⟨hr, by rw [← h.o.nds, List.length_map]⟩
theorem NxB.is {w : World} {N B : Nat} {nv : Value} {ss : List Value} {t : Tr} {ls : List (Nd × Sup)} {S : Sup} (h : NxB w N B nv ss t ls S) {i : Nat} (hi : i < ls.length) (hi' : i < t.nodes.length) : ls[i].1 = t.nodes[i] := by
  have := congrArg (fun l : List Nd => l[i]?) h.o.nds
  simp only [List.getElem?_map, List.getElem?_eq_getElem hi, List.getElem?_eq_getElem hi', Option.map_some, Option.some.injEq] at this
  exact this
theorem NxB.cells {w : World} {N B g n c : Nat} {ss : List Value} {t : Tr} {ls : List (Nd × Sup)} {S : Sup} (h : NxB w N B (.slice (some ⟨g, 0, none⟩) n c) ss t ls S) : ∃ cur, Cs w g 48 cur ∧ ls.length * 6 ≤ cur.size ∧ ∀ i (hi : i < ls.length), ∃ dv ev, (∀ f, f < 6 → cur[i * 6 + f]? = (ndC ls[i].1 dv ev)[f]?) ∧ BsV w (fun k => ((N ≤ k ∧ k ≠ B) ∧ k ≠ g) ∧ ls[i].2 k) dv ls[i].1.data ∧ OwnX entE w N (fun k => ((N ≤ k ∧ k ≠ B) ∧ k ≠ g) ∧ ls[i].2 k) ev ls[i].1.names := by
  obtain ⟨cur, k1, k2, k3, k4, k5, k6, kk7⟩ := h.o.own.cur
  have k6' : cur.size = c * 6 := k6
  refine ⟨cur, k1, by omega, fun i hi => ?_⟩
  obtain ⟨dv, ev, e, h1, h2, -⟩ := (show NdO w N (fun k => ((N ≤ k ∧ k ≠ B) ∧ k ≠ g) ∧ ls[i].2 k) (((cur.toList.take (ls.length * 6)).drop (i * 6)).take 6) ls[i].1 from kk7.2 i hi)
  refine ⟨dv, ev, fun f hf => ?_, h1, h2⟩
  rw [← e, List.getElem?_take, if_pos hf, List.getElem?_drop, List.getElem?_take, if_pos (by omega)]
  simp
theorem stamp_one (b st o : Nat) (cur : Array Value) : stampA b st [(b, o)] cur = cur.setIfInBounds (o + 3) (.int .u64 (st : Int)) := by
  simp [stampA, stampS]
end Go.Proofs.YtdhlejhflkfoaaaDoor
/- The program: New. -/
namespace Go.Proofs.YtdhlejhflkfoaaaDoor
open Go.RowKit Go.Shelf Go.Maps
set_option linter.unusedVariables false
set_option maxRecDepth 100000
set_option linter.unusedSimpArgs false

def rawN : Nd := ⟨1, 1, true, 0, [], []⟩
def rawT : Tr := ⟨[rawN], 1, 1, 0, [(0, 0, []), (0, 0, []), (0, 0, []), (0, 0, [])]⟩
def zss : List Value := treeZ.drop 4
theorem zses (w : World) (F : Nat → Prop) : SesAt w F zss rawT.sess :=
  ses_four (x0 := (0, 0, [])) (x1 := (0, 0, [])) (x2 := (0, 0, [])) (x3 := (0, 0, [])) (BsV.nil w F) (BsV.nil w F) (BsV.nil w F) (BsV.nil w F) (by intro x hx; simp at hx; rw [hx]; decide)
theorem raw_one (w : World) (A : Option Addr) (t : Tr) : ∀ v ∈ trC (.slice A 1 1) t zss, v.oneCell' = true := by
  intro v hv
  unfold trC at hv
  simp only [List.mem_cons] at hv
  rcases hv with rfl | rfl | rfl | rfl | hv
  · rfl
  · rfl
  · rfl
  · rfl
  · exact (zses w fun _ => True).one v hv
set_option maxHeartbeats 4000000 in
theorem New_v (w : World) : Calls Tryd.prog 22 #[] w fun e w' => ∃ cs, e = .returned (.agg cs.toArray) ∧ TrAt w' (w.heap.size ≤ ·) cs newT ∧ Below w.heap.size w w' := by
  go_enter Tryd.func22, Tryd.ntmps22
  go_wp2_with (first
    | ((with_reducible show wpList _ _ _ _ _ w); refine wpList_allocS rfl 30 rfl treeZ treeZero ?_; intro g1 w1 hk1 hb1 hg1; go_frame; have C1 := Lib.hid hk1; have B1 := Lib.hid hb1; have G1 := Lib.hid hg1; clear hk1 hb1 hg1)
    | ((with_reducible show wpList _ _ _ _ _ w1); refine wpList_buildNd rfl _ rfl rawN (.slice none 0 0) (.slice none 0 0) rfl ?_; intro g2 w2 hk1 hb1 hg1; go_frame; have C2 := Lib.hid hk1; have C12 := Lib.hid (C1.out.below hb1 C1.out.lt); have B2 := Lib.hid (below_chain B1.out hb1); have G2 := Lib.hid (Nat.le_trans B1.out.size hg1); have K1 := Lib.hid C1.out.lt; have G12 := Lib.hid hg1; clear hk1 hb1 hg1)
    | ((with_reducible show wpList _ _ _ _ _ w2); refine wpList_allocS rfl 30 rfl treeZ treeZero ?_; intro g3 w3 hk1 hb1 hg1; go_frame; have C3 := Lib.hid hk1; have C23 := Lib.hid (C2.out.below hb1 C2.out.lt); have C13 := Lib.hid (C12.out.below hb1 C12.out.lt); have B3 := Lib.hid (below_chain B2.out hb1); have G3 := Lib.hid (Nat.le_trans B2.out.size hg1); have K2 := Lib.hid C2.out.lt; have K12 := Lib.hid C12.out.lt; have G23 := Lib.hid hg1; clear hk1 hb1 hg1)
    | ((with_reducible show wpList _ _ _ _ _ w3); refine wpList_storeS rfl 30 _ _ rfl g3 rfl (trC (.slice (some ⟨g2, 0, none⟩) 1 1) rawT zss) treeZ rfl C3.out rfl (raw_one w3 _ _) infoTree ?_; intro w4 hk2 ht2; go_frame; have C4 := Lib.hid hk2; have T4 := Lib.hid ht2; have C24 := Lib.hid (C23.out.turn ht2 (by have := K2.out; have := G23.out; omega)); have C14 := Lib.hid (C13.out.turn ht2 (by have := K12.out; have := G23.out; omega)); have B4 := Lib.hid (B3.out.trans (ht2.below B3.out.size fun q e => e ▸ G3.out)); have q0 : w4.cell? ⟨g3, 0, none⟩ = some (.slice (some ⟨g2, 0, none⟩) 1 1) := hk2.cell 0 rfl; clear hk2 ht2)
    | fail)
  have hk1 := Cs.new w4 76 #[Value.pointer (some ⟨g2, 0, none⟩)]
  have hb1 : Below w4.heap.size w4 (w4.alloc (.cells #[Value.pointer (some ⟨g2, 0, none⟩)] 76)) := (Below.refl _ _).alloc (Nat.le_refl _) _
  obtain ⟨g11, hg11⟩ : ∃ g11, g11 = w4.heap.size := ⟨_, rfl⟩
  obtain ⟨w5, hw5⟩ : ∃ w5, w5 = w4.alloc (.cells #[Value.pointer (some ⟨g2, 0, none⟩)] 76) := ⟨_, rfl⟩
  rw [← hw5] at hk1 hb1 ⊢
  rw [← hg11] at hk1 ⊢
  have C11 := Lib.hid hk1
  have B11 := Lib.hid hb1
  have G11 := Lib.hid (Nat.le_of_eq hg11.symm)
  clear hk1 hb1 hg11 hw5
  have C45 := Lib.hid (C4.out.below B11.out C4.out.lt)
  have C25 := Lib.hid (C24.out.below B11.out C24.out.lt)
  have C15 := Lib.hid (C14.out.below B11.out C14.out.lt)
  refine (change_v (trC (.slice (some ⟨g2, 0, none⟩) 1 1) rawT zss) 1 0 g3 g11 [(g2, 0)] w5 C45.out rfl rfl rfl (by decide) (by decide) C11.out (by simp) (by have := C4.out.lt; have := G11.out; omega) (fun p hp => ?_)).mono ?_
  · obtain rfl : p = (g2, 0) := by simpa using hp
    have h1 := K2.out
    have h2 := G11.out
    have h3 := C24.out.lt
    have h4 := G23.out
    exact ⟨by dsimp only; omega, by dsimp only; omega, _, _, C25.out, by show (0 : Nat) + 3 < 6; decide⟩
  rintro e w6 ⟨rfl, hch⟩
  have T6 := Lib.hid hch.turn
  have C46 := Lib.hid (show Cs w6 g3 30 (trC (.slice (some ⟨g2, 0, none⟩) 1 1) newT zss).toArray from hch.box)
  have C26 := Lib.hid (show Cs w6 g2 48 (ndC ⟨1, 1, true, 4294967297, [], []⟩ (.slice none 0 0) (.slice none 0 0)).toArray by have h1 := hch.blk g2 _ _ (by have := K2.out; have := G23.out; omega) C25.out; rw [stamp_one] at h1; exact h1)
  clear hch
  have TT := Lib.hid (show Turn w5 w6 (fun q => q = g3 ∨ q = g2) from T6.out.mono fun q _ hq => by rcases hq with hq | ⟨p, hp, hq⟩; exact .inl hq; rw [List.mem_singleton] at hp; subst hp; exact .inr hq)
  have C16 := Lib.hid (C15.out.turn TT.out (by have := K1.out; have := K12.out; have := G12.out; have := G23.out; omega))
  have B6 := Lib.hid (show Below w.heap.size w w6 from (below_chain B4.out B11.out).trans (Turn.below TT.out (below_chain B4.out B11.out).size fun q e => by have := G2.out; have := G3.out; omega))
  have HTR := Lib.hid (show ∀ u, Cs u g2 48 (ndC ⟨1, 1, true, 4294967297, [], []⟩ (.slice none 0 0) (.slice none 0 0)).toArray → TrAt u (w.heap.size ≤ ·) (trC (.slice (some ⟨g2, 0, none⟩) 1 1) newT zss) newT from fun u hu => by
    refine ⟨_, zss, rfl, ⟨_, 1, rfl, .inr ⟨g2, 0, ndC ⟨1, 1, true, 4294967297, [], []⟩ (.slice none 0 0) (.slice none 0 0), rfl, G2.out, ⟨rfl, fun j hj => ?_⟩, fun j v hv => ?_⟩, by decide, by simp [maxLen], by simp⟩, zses u _, rfl, rfl, by decide, by decide, by decide⟩
    · obtain rfl : j = 0 := by have : j < 1 := hj; omega
      exact ⟨_, _, rfl, BsV.nil _ _, LsV.nil _ _, by show (1 : Nat) < _; decide, by show (1 : Nat) < _; decide, by show (4294967297 : Nat) < _; decide⟩
    · rw [Nat.zero_add]
      exact hu.cell j (by simpa using hv))
  go_wp2_with (first
    | ((with_reducible show wpList _ _ _ _ _ w6); refine wpList_loadS rfl 30 _ rfl g3 rfl (trC (.slice (some ⟨g2, 0, none⟩) 1 1) newT zss) C46.out _ Tryd.underlying30 rfl infoTree ?_; go_frame)
    | ((with_reducible show wpList _ _ _ _ _ w6); refine wpList_storeS rfl 30 _ _ rfl g1 rfl (trC (.slice (some ⟨g2, 0, none⟩) 1 1) newT zss) treeZ rfl C16.out rfl (raw_one w6 _ _) infoTree ?_; intro w7 hk2 ht2; go_frame; have C17 := Lib.hid hk2; have T7 := Lib.hid ht2; have C27 := Lib.hid (C26.out.turn ht2 (by have := K1.out; have := G12.out; omega)); clear hk2 ht2)
    | fail)
  refine bodyPost_ret (results_agg (P := Tryd.prog) (p := 0) (ty := 30) rfl _ _ g1 0 (trC (.slice (some ⟨g2, 0, none⟩) 1 1) newT zss) rfl (At.whole C17.out) _ Tryd.underlying30 rfl infoTree) rfl ?_
  exact ⟨_, rfl, HTR.out w7 C27.out, B6.out.trans (T7.out.below B6.out.size fun q e => e ▸ G1.out)⟩


end Go.Proofs.YtdhlejhflkfoaaaDoor
