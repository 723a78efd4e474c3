/-
  Words as numbers: what four limbs stand for, and the library's laws that every walk of package word takes.
-/
import Derived.Test.YtpnijncoldihfaaProg
import Derived.WalkKit
import Derived.WalkLawsBesides
import Derived.WalkSpells
import Derived.BigQuiet
import Derived.Deep.QuietTactic
import Derived.Laws.Externs
import Derived.Shelf.Spec.BitsCarry
namespace Go.Proofs.Ytpnijncoldihfaa
open Go.RowKit Go.Shelf

/-- The word of a number (of its rest modulo 2^256). -/
def wv (X : Nat) : Value := .agg #[.int .u64 ((X % 18446744073709551616 : Nat) : Int), .int .u64 ((X / 18446744073709551616 % 18446744073709551616 : Nat) : Int), .int .u64 ((X / 340282366920938463463374607431768211456 % 18446744073709551616 : Nat) : Int), .int .u64 ((X / 6277101735386680763835789423207666416102355444464034512896 % 18446744073709551616 : Nat) : Int)]

theorem digit_of (B s r : Nat) (h : s < B) : (s + B * r) % B = s ∧ (s + B * r) / B = r := by
  have hB : 0 < B := by omega
  refine ⟨?_, ?_⟩
  · rw [Nat.add_mul_mod_self_left, Nat.mod_eq_of_lt h]
  · rw [Nat.add_mul_div_left _ _ hB, Nat.div_eq_of_lt h, Nat.zero_add]

theorem wv_mk {s0 s1 s2 s3 k : Nat} (h0 : s0 < 18446744073709551616) (h1 : s1 < 18446744073709551616) (h2 : s2 < 18446744073709551616) (h3 : s3 < 18446744073709551616) :
    wv (s0 + 18446744073709551616 * (s1 + 18446744073709551616 * (s2 + 18446744073709551616 * (s3 + 18446744073709551616 * k)))) = .agg #[.int .u64 s0, .int .u64 s1, .int .u64 s2, .int .u64 s3] := by
  unfold wv
  have e2 : (340282366920938463463374607431768211456 : Nat) = 18446744073709551616 * 18446744073709551616 := by decide
  have e3 : (6277101735386680763835789423207666416102355444464034512896 : Nat) = 18446744073709551616 * 18446744073709551616 * 18446744073709551616 := by decide
  rw [e2, e3]
  simp only [← Nat.div_div_eq_div_mul, (digit_of _ _ _ h0).1, (digit_of _ _ _ h0).2, (digit_of _ _ _ h1).1, (digit_of _ _ _ h1).2, (digit_of _ _ _ h2).1, (digit_of _ _ _ h2).2, (digit_of _ _ _ h3).1]

theorem wv_eq {s0 s1 s2 s3 k Z : Nat} (h0 : s0 < 18446744073709551616) (h1 : s1 < 18446744073709551616) (h2 : s2 < 18446744073709551616) (h3 : s3 < 18446744073709551616)
    (h : Z = s0 + 18446744073709551616 * (s1 + 18446744073709551616 * (s2 + 18446744073709551616 * (s3 + 18446744073709551616 * k)))) :
    Value.agg #[.int .u64 s0, .int .u64 s1, .int .u64 s2, .int .u64 s3] = wv Z := by
  rw [h]; exact (wv_mk h0 h1 h2 h3).symm

theorem wv_open (X : Nat) : ∃ x0 x1 x2 x3 k : Nat, x0 < 18446744073709551616 ∧ x1 < 18446744073709551616 ∧ x2 < 18446744073709551616 ∧ x3 < 18446744073709551616 ∧
    X = x0 + 18446744073709551616 * (x1 + 18446744073709551616 * (x2 + 18446744073709551616 * (x3 + 18446744073709551616 * k))) ∧ wv X = .agg #[.int .u64 x0, .int .u64 x1, .int .u64 x2, .int .u64 x3] := by
  have hB : 0 < 18446744073709551616 := by decide
  have d0 := Nat.mod_add_div X 18446744073709551616
  have d1 := Nat.mod_add_div (X / 18446744073709551616) 18446744073709551616
  have d2 := Nat.mod_add_div (X / 18446744073709551616 / 18446744073709551616) 18446744073709551616
  have d3 := Nat.mod_add_div (X / 18446744073709551616 / 18446744073709551616 / 18446744073709551616) 18446744073709551616
  have e : X = X % 18446744073709551616 + 18446744073709551616 * (X / 18446744073709551616 % 18446744073709551616 + 18446744073709551616 * (X / 18446744073709551616 / 18446744073709551616 % 18446744073709551616 + 18446744073709551616 * (X / 18446744073709551616 / 18446744073709551616 / 18446744073709551616 % 18446744073709551616 + 18446744073709551616 * (X / 18446744073709551616 / 18446744073709551616 / 18446744073709551616 / 18446744073709551616)))) := by
    rw [d3, d2, d1, d0]
  refine ⟨_, _, _, _, _, Nat.mod_lt _ hB, Nat.mod_lt _ hB, Nat.mod_lt _ hB, Nat.mod_lt _ hB, e, ?_⟩
  have := wv_mk (k := X / 18446744073709551616 / 18446744073709551616 / 18446744073709551616 / 18446744073709551616) (Nat.mod_lt X hB) (Nat.mod_lt (X / 18446744073709551616) hB) (Nat.mod_lt (X / 18446744073709551616 / 18446744073709551616) hB) (Nat.mod_lt (X / 18446744073709551616 / 18446744073709551616 / 18446744073709551616) hB)
  rwa [← e] at this

/-- 2^256. -/
def M256 : Nat := 115792089237316195423570985008687907853269984665640564039457584007913129639936

theorem wv_add_mul (X k : Nat) : wv (X + M256 * k) = wv X := by
  obtain ⟨x0, x1, x2, x3, j, h0, h1, h2, h3, e, hv⟩ := wv_open X
  rw [hv]
  refine (wv_eq (k := j + k) h0 h1 h2 h3 ?_).symm
  rw [e]
  unfold M256
  omega

theorem wv_mod (X : Nat) : wv (X % M256) = wv X := by
  have := wv_add_mul (X % M256) (X / M256)
  rw [Nat.mod_add_div] at this
  exact this.symm

theorem wv_congr {X Y : Nat} (h : X % M256 = Y % M256) : wv X = wv Y := by
  rw [← wv_mod X, h, wv_mod]

/-- What four limbs stand for. -/
def num (a b c d : Nat) : Nat := a + 18446744073709551616 * (b + 18446744073709551616 * (c + 18446744073709551616 * d))

namespace Gen
variable {B : Nat}
theorem step_add {x y s c d P Q : Nat} (h : x + y + c = s + B * d) : (x + B * P) + (y + B * Q) + c = s + B * (P + Q + d) := by
  rw [Nat.mul_add, Nat.mul_add]; omega

theorem step_sub {x y s c d P Q R : Nat} (h : x + B * d = s + y + c) (hr : P = R + Q + d) : x + B * P = (s + B * R) + (y + B * Q) + c := by
  subst hr; rw [Nat.mul_add, Nat.mul_add]; omega

theorem flat {a b c d k : Nat} : a + B * (b + B * (c + B * (d + B * k))) = a + B * (b + B * (c + B * d)) + B * B * B * B * k := by
  simp only [Nat.mul_add, Nat.mul_assoc, Nat.add_assoc]

theorem lt1 {a b K : Nat} (ha : a < B) (hb : b < K) : a + B * b < B * K := by
  have : B * (b + 1) ≤ B * K := Nat.mul_le_mul_left _ hb
  rw [Nat.mul_add] at this; omega

theorem lt4 {a b c d : Nat} (ha : a < B) (hb : b < B) (hc : c < B) (hd : d < B) : a + B * (b + B * (c + B * d)) < B * B * B * B := by
  have := lt1 ha (lt1 hb (lt1 hc hd))
  rwa [← Nat.mul_assoc, ← Nat.mul_assoc] at this

end Gen

theorem M256_eq : M256 = 18446744073709551616 * 18446744073709551616 * 18446744073709551616 * 18446744073709551616 := by decide

theorem M256_pos : 0 < M256 := by decide

theorem num_lt {a b c d : Nat} (ha : a < 18446744073709551616) (hb : b < 18446744073709551616) (hc : c < 18446744073709551616) (hd : d < 18446744073709551616) : num a b c d < M256 := by
  rw [M256_eq]; exact Gen.lt4 ha hb hc hd

theorem wv_num {Z a b c d : Nat} (ha : a < 18446744073709551616) (hb : b < 18446744073709551616) (hc : c < 18446744073709551616) (hd : d < 18446744073709551616) (h : Z % M256 = num a b c d) :
    Value.agg #[.int .u64 a, .int .u64 b, .int .u64 c, .int .u64 d] = wv Z := by
  rw [← wv_mod Z, h]
  exact wv_eq (k := 0) ha hb hc hd (by rw [Nat.mul_zero, Nat.add_zero]; rfl)

theorem wv_limbs (X : Nat) : ∃ x0 x1 x2 x3 : Nat, x0 < 18446744073709551616 ∧ x1 < 18446744073709551616 ∧ x2 < 18446744073709551616 ∧ x3 < 18446744073709551616 ∧
    X % M256 = num x0 x1 x2 x3 ∧ wv X = .agg #[.int .u64 x0, .int .u64 x1, .int .u64 x2, .int .u64 x3] := by
  obtain ⟨x0, x1, x2, x3, k, h0, h1, h2, h3, e, hv⟩ := wv_open X
  refine ⟨x0, x1, x2, x3, h0, h1, h2, h3, ?_, hv⟩
  rw [e, Gen.flat, M256_eq, Nat.add_mul_mod_self_left, Nat.mod_eq_of_lt (by rw [← M256_eq]; exact num_lt h0 h1 h2 h3)]
  rfl

theorem blk_cell {w : World} {p t o : Nat} {cs : Array Value} {v : Value} (h : w.heap[p]? = some (.cells cs t (0, 0))) (hv : cs[o]? = some v) : w.cell? ⟨p, o, none⟩ = some v := by
  simp [World.cell?, h, hv]

theorem blk_free {w : World} {p t o : Nat} {cs : Array Value} (h : w.heap[p]? = some (.cells cs t (0, 0))) : w.frozen? ⟨p, o, none⟩ = false := by
  simp [World.frozen?, h]

theorem blk_set {w : World} {p t o : Nat} {cs : Array Value} (h : w.heap[p]? = some (.cells cs t (0, 0))) (v : Value) : (w.setCell ⟨p, o, none⟩ v).heap[p]? = some (.cells (cs.setIfInBounds o v) t (0, 0)) := by
  simp [World.setCell, Array.getElem?_modify, h]

theorem hideP {p : Prop} (h : p) : Hid p := h

/-- A box of four cells that nobody wrote. -/
theorem kept4 {W w1 : World} {b t : Nat} {u0 u1 u2 u3 : Value} (hb : Below W.heap.size W w1) (h : W.heap[b]? = some (.cells #[u0, u1, u2, u3] t (0, 0))) :
    w1.heap[b]? = some (.cells #[u0, u1, u2, u3] t (0, 0)) ∧ w1.cell? ⟨b, 0, none⟩ = some u0 ∧ w1.cell? ⟨b, 1, none⟩ = some u1 ∧ w1.cell? ⟨b, 2, none⟩ = some u2 ∧ w1.cell? ⟨b, 3, none⟩ = some u3 ∧
      w1.frozen? ⟨b, 0, none⟩ = false ∧ w1.frozen? ⟨b, 1, none⟩ = false ∧ w1.frozen? ⟨b, 2, none⟩ = false ∧ w1.frozen? ⟨b, 3, none⟩ = false := by
  have h1 := (hb.block b (Array.getElem?_eq_some_iff.1 h).1).trans h
  exact ⟨h1, blk_cell h1 rfl, blk_cell h1 rfl, blk_cell h1 rfl, blk_cell h1 rfl, blk_free h1, blk_free h1, blk_free h1, blk_free h1⟩

theorem cells4 {w1 : World} {b t : Nat} {u0 u1 u2 u3 : Value} (h1 : w1.heap[b]? = some (.cells #[u0, u1, u2, u3] t (0, 0))) :
    w1.cell? ⟨b, 0, none⟩ = some u0 ∧ w1.cell? ⟨b, 1, none⟩ = some u1 ∧ w1.cell? ⟨b, 2, none⟩ = some u2 ∧ w1.cell? ⟨b, 3, none⟩ = some u3 :=
  ⟨blk_cell h1 rfl, blk_cell h1 rfl, blk_cell h1 rfl, blk_cell h1 rfl⟩

/-- A box of four cells, written. -/
theorem stored4 {w1 : World} {b t : Nat} {u0 u1 u2 u3 z0 z1 z2 z3 : Value} (h : w1.heap[b]? = some (.cells #[u0, u1, u2, u3] t (0, 0))) :
    ((((w1.setCell ⟨b, 0, none⟩ z0).setCell ⟨b, 1, none⟩ z1).setCell ⟨b, 2, none⟩ z2).setCell ⟨b, 3, none⟩ z3).heap[b]? = some (.cells #[z0, z1, z2, z3] t (0, 0)) :=
  blk_set (o := 3) (blk_set (o := 2) (blk_set (o := 1) (blk_set (o := 0) h z0) z1) z2) z3

theorem below_stored4 {w w1 : World} {B b : Nat} {z0 z1 z2 z3 : Value} (h : Below B w w1) (hb : B ≤ b) :
    Below B w ((((w1.setCell ⟨b, 0, none⟩ z0).setCell ⟨b, 1, none⟩ z1).setCell ⟨b, 2, none⟩ z2).setCell ⟨b, 3, none⟩ z3) :=
  (((h.setCell (p := ⟨b, 0, none⟩) hb z0).setCell (p := ⟨b, 1, none⟩) hb z1).setCell (p := ⟨b, 2, none⟩) hb z2).setCell (p := ⟨b, 3, none⟩) hb z3

theorem heap_new (w : World) (a : Obj) : (w.alloc a).heap[w.heap.size]? = some a := heap_alloc_new w a

theorem heap_new1 (w : World) (a b : Obj) : ((w.alloc a).alloc b).heap[w.heap.size + 1]? = some b := by
  have := heap_alloc_new (w.alloc a) b
  rwa [World.size_alloc] at this

theorem heap_new2 (w : World) (a b c : Obj) : (((w.alloc a).alloc b).alloc c).heap[w.heap.size + 1 + 1]? = some c := by
  have := heap_alloc_new ((w.alloc a).alloc b) c
  rwa [World.size_alloc, World.size_alloc] at this

theorem heap_new3 (w : World) (a b c d : Obj) : ((((w.alloc a).alloc b).alloc c).alloc d).heap[w.heap.size + 1 + 1 + 1]? = some d := by
  have := heap_alloc_new (((w.alloc a).alloc b).alloc c) d
  rwa [World.size_alloc, World.size_alloc, World.size_alloc] at this

theorem heap_old (w : World) (a : Obj) {k : Nat} (h : k < w.heap.size) : (w.alloc a).heap[k]? = w.heap[k]? := Below.heap_alloc w a k h

/-- A word, written out. -/
theorem wv_form (X : Nat) : ∃ a b c d : Int, wv X = .agg #[.int .u64 a, .int .u64 b, .int .u64 c, .int .u64 d] := ⟨_, _, _, _, rfl⟩

theorem num_add {x0 x1 x2 x3 y0 y1 y2 y3 s0 s1 s2 s3 c0 c1 c2 c3 : Nat} (e0 : x0 + y0 = s0 + 18446744073709551616 * c0) (e1 : x1 + y1 + c0 = s1 + 18446744073709551616 * c1)
    (e2 : x2 + y2 + c1 = s2 + 18446744073709551616 * c2) (e3 : x3 + y3 + c2 = s3 + 18446744073709551616 * c3) : num x0 x1 x2 x3 + num y0 y1 y2 y3 = num s0 s1 s2 s3 + M256 * c3 := by
  have a3 : (x3 + 18446744073709551616 * 0) + (y3 + 18446744073709551616 * 0) + c2 = s3 + 18446744073709551616 * (0 + 0 + c3) := Gen.step_add e3
  have a2 := Gen.step_add (P := x3 + 18446744073709551616 * 0) (Q := y3 + 18446744073709551616 * 0) e2
  rw [a3] at a2
  have a1 := Gen.step_add (P := x2 + 18446744073709551616 * (x3 + 18446744073709551616 * 0)) (Q := y2 + 18446744073709551616 * (y3 + 18446744073709551616 * 0)) e1
  rw [a2] at a1
  have a0 := Gen.step_add (c := 0) (P := x1 + 18446744073709551616 * (x2 + 18446744073709551616 * (x3 + 18446744073709551616 * 0))) (Q := y1 + 18446744073709551616 * (y2 + 18446744073709551616 * (y3 + 18446744073709551616 * 0))) e0
  rw [a1] at a0
  simp only [Nat.mul_zero, Nat.add_zero, Nat.zero_add] at a0
  rw [Gen.flat] at a0
  rw [M256_eq]
  exact a0

theorem num_sub {x0 x1 x2 x3 y0 y1 y2 y3 s0 s1 s2 s3 c0 c1 c2 c3 : Nat} (e0 : x0 + 18446744073709551616 * c0 = s0 + y0) (e1 : x1 + 18446744073709551616 * c1 = s1 + y1 + c0)
    (e2 : x2 + 18446744073709551616 * c2 = s2 + y2 + c1) (e3 : x3 + 18446744073709551616 * c3 = s3 + y3 + c2) : num x0 x1 x2 x3 + M256 * c3 = num s0 s1 s2 s3 + num y0 y1 y2 y3 := by
  have a2 := Gen.step_sub (P := x3 + 18446744073709551616 * c3) (Q := y3) (R := s3) e2 (by omega)
  have a1 := Gen.step_sub (P := x2 + 18446744073709551616 * (x3 + 18446744073709551616 * c3)) e1 a2
  have a0 := Gen.step_sub (c := 0) (P := x1 + 18446744073709551616 * (x2 + 18446744073709551616 * (x3 + 18446744073709551616 * c3))) e0 a1
  rw [Gen.flat] at a0
  rw [M256_eq]
  exact a0

theorem mod_add_eq {M a b s c : Nat} (h : a % M + b % M = s + M * c) (hs : s < M) : (a + b) % M = s := by
  rw [Nat.add_mod, h, Nat.add_mul_mod_self_left, Nat.mod_eq_of_lt hs]

theorem add64_run (x y c : Nat) (hc : c ≤ 1) (w : World) :
    (callFunc 84 #[.int .u64 x, .int .u64 y, .int .u64 c]).run Try.prog w =
      .ok (.value (.tuple #[.int .u64 (((x + y + c) % 18446744073709551616 : Nat) : Int), .int .u64 (((x + y + c) / 18446744073709551616 : Nat) : Int)])) w := by
  rw [run_callFunc_extern Try.func84 (by kernel_rfl) (by kernel_rfl) (by kernel_rfl) (e := add64Entry) (by kernel_rfl), run_add64 x y c (by omega) (by omega) (by omega) (by omega)]
  simp only [Result.andThen]
  congr 5 <;> omega

theorem sub64_run (x y b : Nat) (hb : b ≤ 1) (w : World) :
    (callFunc 85 #[.int .u64 x, .int .u64 y, .int .u64 b]).run Try.prog w =
      .ok (.value (.tuple #[.int .u64 (((x + 18446744073709551616 - y - b) % 18446744073709551616 : Nat) : Int), .int .u64 ((if x < y + b then 1 else 0 : Nat) : Int)])) w := by
  rw [run_callFunc_extern Try.func85 (by kernel_rfl) (by kernel_rfl) (by kernel_rfl) (e := sub64Entry) (by kernel_rfl), run_sub64 x y b hb]
  rfl

/-- A sum of limbs. -/
theorem add64_ex (x y c : Nat) (hx : x < 18446744073709551616) (hy : y < 18446744073709551616) (hc : c ≤ 1) : ∃ s d : Nat, s < 18446744073709551616 ∧ d ≤ 1 ∧ x + y + c = s + 18446744073709551616 * d ∧
    ∀ w, (callFunc 84 #[.int .u64 x, .int .u64 y, .int .u64 c]).run Try.prog w = .ok (.value (.tuple #[.int .u64 s, .int .u64 d])) w :=
  ⟨_, _, by omega, by omega, by omega, fun w => add64_run x y c hc w⟩

theorem add64_ex0 (x y : Nat) (hx : x < 18446744073709551616) (hy : y < 18446744073709551616) : ∃ s d : Nat, s < 18446744073709551616 ∧ d ≤ 1 ∧ x + y = s + 18446744073709551616 * d ∧
    ∀ w, (callFunc 84 #[.int .u64 x, .int .u64 y, .int .u64 0]).run Try.prog w = .ok (.value (.tuple #[.int .u64 s, .int .u64 d])) w :=
  ⟨_, _, by omega, by omega, by omega, fun w => add64_run x y 0 (by omega) w⟩

/-- A difference of limbs. -/
theorem sub64_ex (x y b : Nat) (hx : x < 18446744073709551616) (hy : y < 18446744073709551616) (hb : b ≤ 1) : ∃ s d : Nat, s < 18446744073709551616 ∧ d ≤ 1 ∧ x + 18446744073709551616 * d = s + y + b ∧
    ∀ w, (callFunc 85 #[.int .u64 x, .int .u64 y, .int .u64 b]).run Try.prog w = .ok (.value (.tuple #[.int .u64 s, .int .u64 d])) w := by
  refine ⟨_, _, Nat.mod_lt _ (by decide), ?_, ?_, fun w => sub64_run x y b hb w⟩
  · split <;> omega
  · split <;> omega

theorem sub64_ex0 (x y : Nat) (hx : x < 18446744073709551616) (hy : y < 18446744073709551616) : ∃ s d : Nat, s < 18446744073709551616 ∧ d ≤ 1 ∧ x + 18446744073709551616 * d = s + y ∧
    ∀ w, (callFunc 85 #[.int .u64 x, .int .u64 y, .int .u64 0]).run Try.prog w = .ok (.value (.tuple #[.int .u64 s, .int .u64 d])) w := by
  obtain ⟨s, d, h1, h2, h3, h4⟩ := sub64_ex x y 0 hx hy (by omega)
  exact ⟨s, d, h1, h2, by omega, h4⟩

end Go.Proofs.Ytpnijncoldihfaa
