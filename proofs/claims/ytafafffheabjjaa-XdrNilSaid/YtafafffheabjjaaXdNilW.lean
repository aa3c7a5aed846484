/- XdrNil: the walk. -/
import Derived.Test.YtafafffheabjjaaXdArgs
import Derived.Test.YtafafffheabjjaaXdLives
namespace Go.Proofs.Ytafafffheabjjaa
open Go.RowKit Go.Shelf Go.ChangeShapes Go.WideShapes Go.ChangeAt Go.Deep
set_option linter.unusedVariables false
set_option maxRecDepth 100000
set_option linter.unusedSimpArgs false

/-- a thing, handed in by value -/
theorem open_thing {H : Type} {enc : TypeId × Value → H} {W : World} {base : Nat} {v : Value} {d : DataW H} {p : List MemPlace} (hv : Value.okWide Try.prog W .any base 29 v) (h : DataW.Trod enc Try.prog W 0 (fun _ => true) true 29 v d p) :
    ∃ (x : Th) (u : Value), v = .agg (thCells x u).toArray ∧ BsV W (· < W.heap.size) u x.b ∧ thOk x := by
  obtain ⟨cs, rfl, -⟩ := okWide_struct Try.underlying29 hv
  obtain ⟨fuel, hf⟩ := h
  obtain ⟨z, u, n, _, _, _, _, _, ⟨_, _, _, ho⟩, hz, hb, _⟩ := trod_thing hf
  refine ⟨z, u, ?_, hb, ho⟩
  have h1 : cs.toList = thCells z u := hz
  rw [← h1]
theorem NoR.below {w w' : World} {v : Value} (h : NoR w v) (hb : Below w.heap.size w w') : NoR w' v := by
  rcases h with h | ⟨rb, h, hc⟩
  · exact .inl h
  · exact .inr ⟨rb, h, hc.below hb hc.lt⟩
theorem wrap32 (n : Nat) : IntKind.u32.wrap (n : Int) = ((n % 4294967296 : Nat) : Int) := by
  rw [IntKind.wrap_u32]
  omega
set_option maxHeartbeats 8000000 in
theorem nil9_walk (x : Th) (u : Value) (zero : Bool) (w : World) (F : Nat → Prop) (hu : BsV w F u x.b) (ho : thOk x) :
    Calls Try.prog 6 #[.agg (thCells x u).toArray, .bool zero] w fun e w' => e = .returned (.bool true) ∧ Below w.heap.size w w' := by
  obtain ⟨what, n, is, b, most⟩ := x
  obtain ⟨-, hn, hm0, hm1⟩ := ho
  obtain ⟨A, c, rfl, -, -, hlc, hcm⟩ := hu
  have hl : b.length ≤ 9223372036854775807 := by unfold maxLen at hcm; exact Nat.le_trans hlc hcm
  dsimp only at hn hm0 hm1
  have hw := wrap32 n
  have h32 : n % 4294967296 < 4294967296 := Nat.mod_lt _ (by decide)
  show Calls Try.prog 6 #[.agg #[.int .u8 (what : Int), .int .u64 (n : Int), .bool is, .slice A b.length c, .int .i64 most], .bool zero] w _
  generalize b.length = bl at *
  generalize n % 4294967296 = n32 at *
  have hnn : (n : Int) ≤ 18446744073709551615 := by omega
  clear hlc hcm
  cases zero
  · go_enter Try.func6, Try.ntmps6
    go_wp2_with fail
    have hnor := Lib.hid (show NoR (w.alloc (.cells #[.int .u8 (what : Int), .int .u64 (n : Int), .bool is, .slice A bl c, .int .i64 most] 29)) (.pointer none) from .inl rfl)
    have hbox := Lib.hid (Cs.new w 29 #[.int .u8 (what : Int), .int .u64 (n : Int), .bool is, .slice A bl c, .int .i64 most])
    have hbel := Lib.hid ((Below.refl w.heap.size w).alloc (Nat.le_refl _) (.cells #[.int .u8 (what : Int), .int .u64 (n : Int), .bool is, .slice A bl c, .int .i64 most] 29))
    refine (Number_nil n32 h32 _).mono ?_
    rintro e u0 ⟨rfl, hb⟩
    have hbox0 := Lib.hid (hbox.out.below hb hbox.out.lt)
    have hnor0 := Lib.hid (hnor.out.below hb)
    have hbel0 := Lib.hid (below_chain hbel.out hb)
    clear hb hbox hnor hbel
    have hbox := hbox0
    have hnor := hnor0
    have hbel := hbel0
    clear hbox0 hnor0 hbel0
    have d1 := hbox.out.cell 1 rfl
    have d2 := hbox.out.cell 2 rfl
    have d3 := hbox.out.cell 3 rfl
    have d4 := hbox.out.cell 4 rfl
    go_wp2_with fail
    clear d1 d2 d3 d4
    refine (Great_nil n hn _).mono ?_
    rintro e u1 ⟨rfl, hb⟩
    have hbox1 := Lib.hid (hbox.out.below hb hbox.out.lt)
    have hnor1 := Lib.hid (hnor.out.below hb)
    have hbel1 := Lib.hid (below_chain hbel.out hb)
    clear hb hbox hnor hbel
    have hbox := hbox1
    have hnor := hnor1
    have hbel := hbel1
    clear hbox1 hnor1 hbel1
    have d1 := hbox.out.cell 1 rfl
    have d2 := hbox.out.cell 2 rfl
    have d3 := hbox.out.cell 3 rfl
    have d4 := hbox.out.cell 4 rfl
    go_wp2_with fail
    clear d1 d2 d3 d4
    refine (Truth_nil is _).mono ?_
    rintro e u2 ⟨rfl, hb⟩
    have hbox2 := Lib.hid (hbox.out.below hb hbox.out.lt)
    have hnor2 := Lib.hid (hnor.out.below hb)
    have hbel2 := Lib.hid (below_chain hbel.out hb)
    clear hb hbox hnor hbel
    have hbox := hbox2
    have hnor := hnor2
    have hbel := hbel2
    clear hbox2 hnor2 hbel2
    have d1 := hbox.out.cell 1 rfl
    have d2 := hbox.out.cell 2 rfl
    have d3 := hbox.out.cell 3 rfl
    have d4 := hbox.out.cell 4 rfl
    go_wp2_with fail
    clear d1 d2 d3 d4
    refine (Bytes_nil A bl c hl _).mono ?_
    rintro e u3 ⟨rfl, hb⟩
    have hbox3 := Lib.hid (hbox.out.below hb hbox.out.lt)
    have hnor3 := Lib.hid (hnor.out.below hb)
    have hbel3 := Lib.hid (below_chain hbel.out hb)
    clear hb hbox hnor hbel
    have hbox := hbox3
    have hnor := hnor3
    have hbel := hbel3
    clear hbox3 hnor3 hbel3
    have d1 := hbox.out.cell 1 rfl
    have d2 := hbox.out.cell 2 rfl
    have d3 := hbox.out.cell 3 rfl
    have d4 := hbox.out.cell 4 rfl
    go_wp2_with fail
    refine (Bare_nil _).mono ?_
    rintro e w' ⟨rfl, rfl⟩
    go_wp2_with fail
    refine (Number_no hnor.out).mono ?_
    rintro e w' ⟨rfl, rfl⟩
    go_wp2_with fail
    refine (Great_no hnor.out).mono ?_
    rintro e w' ⟨rfl, rfl⟩
    go_wp2_with fail
    refine (Truth_no hnor.out).mono ?_
    rintro e w' ⟨rfl, rfl⟩
    go_wp2_with fail
    refine (Bytes_no hnor.out most).mono ?_
    rintro e w' ⟨rfl, rfl⟩
    go_wp2_with fail
    refine (End_no hnor.out).mono ?_
    rintro e w' ⟨rfl, rfl⟩
    go_wp2_with fail
    refine (Error_no hnor.out).mono ?_
    rintro e w' ⟨rfl, rfl⟩
    go_wp2_with fail
    refine (lives9_any _).mono ?_
    rintro e w9 ⟨rfl, hb⟩
    have HB := Lib.hid (below_chain hbel.out hb)
    clear hb
    go_wp2_with fail
    go_ret
    exact ⟨rfl, HB.out⟩
  · go_enter Try.func6, Try.ntmps6
    go_wp2_with fail
    have hnor := Lib.hid (show NoR ((w.alloc (.cells #[.int .u8 (what : Int), .int .u64 (n : Int), .bool is, .slice A bl c, .int .i64 most] 29)).alloc (.cells #[.bool false, .slice none 0 0, .int .i64 0, .int .i64 0] 58)) (.pointer (some ⟨w.heap.size + 1, 0, none⟩)) from .inr ⟨_, rfl, by
      have := Cs.new (w.alloc (.cells #[.int .u8 (what : Int), .int .u64 (n : Int), .bool is, .slice A bl c, .int .i64 most] 29)) 58 #[.bool false, .slice none 0 0, .int .i64 0, .int .i64 0]
      rwa [World.size_alloc] at this⟩)
    have hbox := Lib.hid ((Cs.new w 29 #[.int .u8 (what : Int), .int .u64 (n : Int), .bool is, .slice A bl c, .int .i64 most]).alloc (.cells #[.bool false, .slice none 0 0, .int .i64 0, .int .i64 0] 58))
    have hbel := Lib.hid (below_new ((Below.refl w.heap.size w).alloc (Nat.le_refl _) (.cells #[.int .u8 (what : Int), .int .u64 (n : Int), .bool is, .slice A bl c, .int .i64 most] 29)) (.cells #[.bool false, .slice none 0 0, .int .i64 0, .int .i64 0] 58))
    refine (Number_nil n32 h32 _).mono ?_
    rintro e u0 ⟨rfl, hb⟩
    have hbox0 := Lib.hid (hbox.out.below hb hbox.out.lt)
    have hnor0 := Lib.hid (hnor.out.below hb)
    have hbel0 := Lib.hid (below_chain hbel.out hb)
    clear hb hbox hnor hbel
    have hbox := hbox0
    have hnor := hnor0
    have hbel := hbel0
    clear hbox0 hnor0 hbel0
    have d1 := hbox.out.cell 1 rfl
    have d2 := hbox.out.cell 2 rfl
    have d3 := hbox.out.cell 3 rfl
    have d4 := hbox.out.cell 4 rfl
    go_wp2_with fail
    clear d1 d2 d3 d4
    refine (Great_nil n hn _).mono ?_
    rintro e u1 ⟨rfl, hb⟩
    have hbox1 := Lib.hid (hbox.out.below hb hbox.out.lt)
    have hnor1 := Lib.hid (hnor.out.below hb)
    have hbel1 := Lib.hid (below_chain hbel.out hb)
    clear hb hbox hnor hbel
    have hbox := hbox1
    have hnor := hnor1
    have hbel := hbel1
    clear hbox1 hnor1 hbel1
    have d1 := hbox.out.cell 1 rfl
    have d2 := hbox.out.cell 2 rfl
    have d3 := hbox.out.cell 3 rfl
    have d4 := hbox.out.cell 4 rfl
    go_wp2_with fail
    clear d1 d2 d3 d4
    refine (Truth_nil is _).mono ?_
    rintro e u2 ⟨rfl, hb⟩
    have hbox2 := Lib.hid (hbox.out.below hb hbox.out.lt)
    have hnor2 := Lib.hid (hnor.out.below hb)
    have hbel2 := Lib.hid (below_chain hbel.out hb)
    clear hb hbox hnor hbel
    have hbox := hbox2
    have hnor := hnor2
    have hbel := hbel2
    clear hbox2 hnor2 hbel2
    have d1 := hbox.out.cell 1 rfl
    have d2 := hbox.out.cell 2 rfl
    have d3 := hbox.out.cell 3 rfl
    have d4 := hbox.out.cell 4 rfl
    go_wp2_with fail
    clear d1 d2 d3 d4
    refine (Bytes_nil A bl c hl _).mono ?_
    rintro e u3 ⟨rfl, hb⟩
    have hbox3 := Lib.hid (hbox.out.below hb hbox.out.lt)
    have hnor3 := Lib.hid (hnor.out.below hb)
    have hbel3 := Lib.hid (below_chain hbel.out hb)
    clear hb hbox hnor hbel
    have hbox := hbox3
    have hnor := hnor3
    have hbel := hbel3
    clear hbox3 hnor3 hbel3
    have d1 := hbox.out.cell 1 rfl
    have d2 := hbox.out.cell 2 rfl
    have d3 := hbox.out.cell 3 rfl
    have d4 := hbox.out.cell 4 rfl
    go_wp2_with fail
    refine (Bare_nil _).mono ?_
    rintro e w' ⟨rfl, rfl⟩
    go_wp2_with fail
    refine (Number_no hnor.out).mono ?_
    rintro e w' ⟨rfl, rfl⟩
    go_wp2_with fail
    refine (Great_no hnor.out).mono ?_
    rintro e w' ⟨rfl, rfl⟩
    go_wp2_with fail
    refine (Truth_no hnor.out).mono ?_
    rintro e w' ⟨rfl, rfl⟩
    go_wp2_with fail
    refine (Bytes_no hnor.out most).mono ?_
    rintro e w' ⟨rfl, rfl⟩
    go_wp2_with fail
    refine (End_no hnor.out).mono ?_
    rintro e w' ⟨rfl, rfl⟩
    go_wp2_with fail
    refine (Error_no hnor.out).mono ?_
    rintro e w' ⟨rfl, rfl⟩
    go_wp2_with fail
    refine (lives9_any _).mono ?_
    rintro e w9 ⟨rfl, hb⟩
    have HB := Lib.hid (below_chain hbel.out hb)
    clear hb
    go_wp2_with fail
    go_ret
    exact ⟨rfl, HB.out⟩

end Go.Proofs.Ytafafffheabjjaa
