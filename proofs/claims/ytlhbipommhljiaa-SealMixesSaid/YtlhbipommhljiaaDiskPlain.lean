/- A disk as plain data: what is laid, what waits, and what each deed makes of it. No program. -/
import Derived.Test.YtlhbipommhljiaaWords
namespace Go.Proofs.Ytlhbipommhljiaa
set_option linter.unusedVariables false

abbrev Blk := List UInt8
def zb : Blk := List.replicate 64 0
theorem zb_len : zb.length = 64 := by simp [zb]
abbrev Tab := Int → Option Blk
def none' : Tab := fun _ => none
def upd (f : Tab) (k : Int) (l : Blk) : Tab := fun i => if i = k then some l else f i
theorem upd_same (f : Tab) (k : Int) (l : Blk) : upd f k l k = some l := by simp [upd]
theorem upd_other (f : Tab) {k i : Int} (l : Blk) (h : i ≠ k) : upd f k l i = f i := by simp [upd, h]
/-- what a table tells of a block -/
def tell (f : Tab) (k : Int) : Blk := (f k).getD zb
def lay (q : List (Int × Blk)) (f : Tab) : Tab := q.foldl (fun f x => upd f x.1 x.2) f
theorem lay_nil (f : Tab) : lay [] f = f := rfl
theorem lay_snoc (q : List (Int × Blk)) (x : Int × Blk) (f : Tab) : lay (q ++ [x]) f = upd (lay q f) x.1 x.2 := by simp [lay, List.foldl_append]
/-- does the bit say that quarter q is laid down? -/
def bitAt (bits : Int) (q : Nat) : Bool := decide (bits / 2 ^ q % 2 = 1)
/-- the quarters ahead of q, laid over -/
def tornTo (was b : Blk) (bits : Int) : Nat → Blk
  | 0 => was
  | q + 1 => if bitAt bits q then (tornTo was b bits q).take (16 * q) ++ (b.drop (16 * q)).take 16 ++ (tornTo was b bits q).drop (16 * q + 16) else tornTo was b bits q
def torn (was b : Blk) (bits : Int) : Blk := tornTo was b bits 4
theorem tornTo_zero (was b : Blk) (bits : Int) : tornTo was b bits 0 = was := rfl
theorem tornTo_succ (was b : Blk) (bits : Int) (q : Nat) : tornTo was b bits (q + 1) = if bitAt bits q then (tornTo was b bits q).take (16 * q) ++ (b.drop (16 * q)).take 16 ++ (tornTo was b bits q).drop (16 * q + 16) else tornTo was b bits q := rfl
theorem tornTo_len (was b : Blk) (bits : Int) (hw : was.length = 64) (hb : b.length = 64) : ∀ q, q ≤ 4 → (tornTo was b bits q).length = 64
  | 0, _ => hw
  | q + 1, h => by
    have ih := tornTo_len was b bits hw hb q (by omega)
    rw [tornTo_succ]
    split
    · simp [ih, hb]
      omega
    · exact ih
theorem torn_len (was b : Blk) (bits : Int) (hw : was.length = 64) (hb : b.length = 64) : (torn was b bits).length = 64 := tornTo_len was b bits hw hb 4 (by decide)
def tear (zs : List ((Int × Blk) × Int)) (f : Tab) : Tab := zs.foldl (fun f z => upd f z.1.1 (torn (tell f z.1.1) z.1.2 z.2)) f
theorem tear_nil (f : Tab) : tear [] f = f := rfl
theorem tear_snoc (zs : List ((Int × Blk) × Int)) (z : (Int × Blk) × Int) (f : Tab) : tear (zs ++ [z]) f = upd (tear zs f) z.1.1 (torn (tell (tear zs f) z.1.1) z.1.2 z.2) := by simp [tear, List.foldl_append]

structure DS where
  blocks : Nat
  laid : Tab
  young : Tab
  q : List (Int × Blk)
  steps : Nat
  left : Nat
  dark : Bool
def fresh (n : Nat) : DS := ⟨n, none', none', [], 0, 0, false⟩
/-- a work that is about to be done, if the power does not go there -/
def worked (s : DS) : DS := { s with left := if 1 < s.left then s.left - 1 else s.left, steps := s.steps + 1 }
def gone (s : DS) : DS := { s with dark := true }
def wrote (s : DS) (n : Int) (l : Blk) : DS := { worked s with q := s.q ++ [(n, l)], young := upd s.young n l }
def flushed (s : DS) : DS := { worked s with laid := lay s.q s.laid, young := none', q := [] }
def armed (s : DS) (n : Nat) : DS := { s with left := n }
def crashed (s : DS) (picks : List Int) : DS := { s with laid := tear (s.q.zip picks) s.laid, young := none', q := [], left := 0, dark := false }
/-- what is read -/
def readN (s : DS) (n : Int) : Blk := match s.young n with | some l => l | none => tell s.laid n

end Go.Proofs.Ytlhbipommhljiaa
