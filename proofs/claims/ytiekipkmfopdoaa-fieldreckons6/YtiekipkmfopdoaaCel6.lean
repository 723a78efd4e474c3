/-
  Numbers of 6 limbs, as values and as cells.
-/
import Derived.Test.YtiekipkmfopdoaaEnds
namespace Go.Proofs.Ytiekipkmfopdoaa.W6
open Go.RowKit Go.Shelf

/-- The cells of so many limbs. -/
def cs (g : Nat → Nat) : Array Value := #[.int .u64 (g 0), .int .u64 (g 1), .int .u64 (g 2), .int .u64 (g 3), .int .u64 (g 4), .int .u64 (g 5)]

theorem get (g : Nat → Nat) {j : Nat} (h : j < 6) : (cs g)[j]? = some (.int .u64 (g j)) := by
  match j, h with
  | 0, _ => rfl
  | 1, _ => rfl
  | 2, _ => rfl
  | 3, _ => rfl
  | 4, _ => rfl
  | 5, _ => rfl
  | k + 6, h => exact absurd h (by omega)

theorem set (g : Nat → Nat) {j : Nat} (v : Nat) (h : j < 6) : (cs g).setIfInBounds j (.int .u64 v) = cs (fun i => if i = j then v else g i) := by
  match j, h with
  | 0, _ => rfl
  | 1, _ => rfl
  | 2, _ => rfl
  | 3, _ => rfl
  | 4, _ => rfl
  | 5, _ => rfl
  | k + 6, h => exact absurd h (by omega)

theorem under : Try.prog.underlying 29 = some (.array 6 23) := by kernel_rfl
theorem info (g : Nat → Nat) : (Try.prog.info? 29).map (·.size) = some (cs g).size := by kernel_rfl
theorem one (g : Nat → Nat) : (cs g).all (·.oneCell') = true := by simp [cs, Value.oneCell']
theorem cs_size (g : Nat → Nat) : (cs g).size = 6 := rfl

/-- 2 to so many bits. -/
def R : Nat := 39402006196394479212279040100143613805079739270465446667948293404245721771497210611414266254884915640806627990306816
theorem R_eq : R = 18446744073709551616 ^ 6 := by decide
theorem R_two : ∃ k, R = 2 ^ k := ⟨64 * 6, by rw [R_eq, show (18446744073709551616 : Nat) = 2 ^ 64 by decide, ← Nat.pow_mul]⟩
theorem R_pos : 0 < R := by decide

/-- The value of a number (of its rest modulo R). -/
def wv (X : Nat) : Value := .agg (cs (limb X))

theorem wv_lit (X : Nat) : wv X = .agg #[.int .u64 (limb X 0), .int .u64 (limb X 1), .int .u64 (limb X 2), .int .u64 (limb X 3), .int .u64 (limb X 4), .int .u64 (limb X 5)] := rfl

theorem cs_congr {f g : Nat → Nat} (h : ∀ j, j < 6 → f j = g j) : cs f = cs g := by
  unfold cs
  rw [h 0 (by omega), h 1 (by omega), h 2 (by omega), h 3 (by omega), h 4 (by omega), h 5 (by omega)]

theorem wv_val {g : Nat → Nat} (h : ∀ j, j < 6 → g j < 18446744073709551616) : Value.agg (cs g) = wv (val g 6) := by
  unfold wv
  rw [cs_congr (fun j hj => (limb_val 6 h hj).symm)]

theorem val_limbs {X : Nat} (h : X < R) : val (limb X) 6 = X := by
  rw [val_limb, ← R_eq, Nat.mod_eq_of_lt h]

theorem cs_inj {f g : Nat → Nat} (h : cs f = cs g) {j : Nat} (hj : j < 6) : f j = g j := by
  have h1 := get f hj
  rw [h, get g hj] at h1
  simp only [Option.some.injEq, Value.int.injEq, true_and] at h1
  omega

theorem wv_inj {X Y : Nat} (hX : X < R) (hY : Y < R) (h : wv X = wv Y) : X = Y := by
  unfold wv at h
  injection h with h
  rw [← val_limbs hX, ← val_limbs hY]
  exact val_congr _ (fun j hj => cs_inj h hj)

theorem val_ltR {g : Nat → Nat} (h : ∀ j, j < 6 → g j < 18446744073709551616) : val g 6 < R := by
  rw [R_eq]; exact val_lt _ h

theorem zero_lit : (#[.int .u64 0, .int .u64 0, .int .u64 0, .int .u64 0, .int .u64 0, .int .u64 0] : Array Value) = cs (fun _ => 0) := rfl

theorem cells {w : World} {b t : Nat} {g : Nat → Nat} (h : w.heap[b]? = some (.cells (cs g) t (0, 0))) : w.cell? ⟨b, 0, none⟩ = some (.int .u64 (g 0)) ∧ w.cell? ⟨b, 1, none⟩ = some (.int .u64 (g 1)) ∧ w.cell? ⟨b, 2, none⟩ = some (.int .u64 (g 2)) ∧ w.cell? ⟨b, 3, none⟩ = some (.int .u64 (g 3)) ∧ w.cell? ⟨b, 4, none⟩ = some (.int .u64 (g 4)) ∧ w.cell? ⟨b, 5, none⟩ = some (.int .u64 (g 5)) :=
  ⟨blk_cell h rfl, blk_cell h rfl, blk_cell h rfl, blk_cell h rfl, blk_cell h rfl, blk_cell h rfl⟩

end Go.Proofs.Ytiekipkmfopdoaa.W6
