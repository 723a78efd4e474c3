/-
  Big of any bytes: the program's and the document's.
-/
import Derived.Test.YtiekipkmfopdoaaBigp6
import Derived.Test.YtiekipkmfopdoaaLst6
import Derived.Test.YtiekipkmfopdoaaLss6
namespace Go.Proofs.Ytiekipkmfopdoaa.W6
open Go.RowKit Go.Shelf

/-- The number that bytes tell, or 0. -/
def bvw (bs : Nat → Nat) (n : Nat) : Nat := if n ≤ 48 then bv bs n n else 0

/-- The error beside it. -/
def ew (n : Nat) : Int := if n ≤ 48 then 0 else 2

theorem bvw_lt {bs : Nat → Nat} (h : ∀ j, bs j < 256) (n : Nat) : bvw bs n < R := by
  unfold bvw
  split
  · rename_i hn
    refine Nat.lt_of_lt_of_le (bv_lt h n n) ?_
    rw [R_eq, show (18446744073709551616 : Nat) = 256 ^ 8 by decide, ← Nat.pow_mul]
    exact Nat.pow_le_pow_right (by decide) (by omega)
  · exact R_pos

theorem big_all {ao : Option Addr} {n c : Nat} {bs : Nat → Nat} (hn : n ≤ 140737488355328) (w : World) (h : BS w ao n c bs) : Calls Try.prog 61 #[.slice ao n c] w fun r w' => r = .returned (.tuple #[.agg (cs (limb (bvw bs n))), .int .i64 (ew n)]) ∧ Below w.heap.size w w' := by
  unfold bvw ew
  by_cases h1 : n ≤ 48
  · rw [if_pos h1, if_pos h1]
    exact big_any h1 w h
  · rw [if_neg h1, if_neg h1]
    exact big_long (by omega) hn w

theorem rbig_all {ao : Option Addr} {n c : Nat} {bs : Nat → Nat} (hn : n ≤ 140737488355328) (w : World) (h : BS w ao n c bs) : Calls Try.prog 60 #[.slice ao n c, .int .i64 (6 : Int)] w fun r w' => (∃ g, r = .returned (.tuple #[.slice (some ⟨g, 0, none⟩) 6 6, .int .i64 (ew n)]) ∧ w'.heap[g]? = some (.cells (cs (limb (bvw bs n))) 23 (0, 0))) ∧ Below w.heap.size w w' := by
  unfold bvw ew
  by_cases h1 : n ≤ 48
  · rw [if_pos h1, if_pos h1]
    exact rbig_any h1 w h
  · rw [if_neg h1, if_neg h1]
    exact rbig_long (by omega) hn w

set_option maxRecDepth 100000 in
theorem exec_neR {ev : Operand → Value} {d : Option Nat} {x y : Operand} {A B : Array Value} {b : Bool} {ty' : Nat} {pos aft g} (hx : ev x = .agg A) (hy : ev y = .agg B) (W : World) (h : (Op.equalIn 10000 29 (.agg A) (.agg B)).run Try.prog W = .ok b W) :
    (execOp ev { dst := d, op := Op.binOp BinOp.neq 29 x y 29, type := ty', pos := pos, after := aft, guard := g }).run Try.prog W = .ok (.value (.bool (!b))) W := by
  unfold execOp
  simp only [hx, hy]
  have hg : (eqGuard BinOp.neq 29 x y (.agg A) (.agg B)).run Try.prog W = .ok () W := by
    unfold eqGuard
    simp [go_sem]
  simp [go_sem, hg]
  rw [h]
  rfl

theorem bytesB {w : World} {X : Nat} {g : Nat} (h : w.heap[g]? = some (.cells (cb 48 (fun j => byt X (48 - 1 - j))) 5 (0, 0))) : BS w (some ⟨g, 0, none⟩) 48 48 (fun j => byt X (48 - 1 - j)) :=
  row_BS (fun j => byt_lt _ _) (by decide) h

end Go.Proofs.Ytiekipkmfopdoaa.W6
