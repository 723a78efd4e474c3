/-
  Words: what the contracts of package word and of the document say of them (for this seat).
-/
import Derived.Test.YtaeadndihchbnaaDoorChecked
import Derived.WalkKit
import Derived.WalkLawsBesides
import Derived.WalkSpells
import Derived.BigQuiet
import Derived.Deep.QuietTactic
import Derived.Laws.Externs
import Derived.Shelf.Spec.BitsCarry
import Derived.Lib.Mul64
import Derived.Laws.Bits64b
import Derived.Lib.Strings
import Derived.Lib.Slices
import Derived.Lib.Small
import Derived.Lib.Walk
import Derived.Lib.BitFns
import Derived.Deep.RegionHeld
import Derived.Deep.MidRow
import Derived.Laws.CopyOwn
import Derived.OwnWalk
import Derived.Deep.Upon
namespace Go.Proofs.YtaeadndihchbnaaDoor
open Go.RowKit Go.Shelf

/-- The word of a number (of its rest modulo 2^256). -/
def wv (X : Nat) : Value := .agg #[.int .u64 ((X % 18446744073709551616 : Nat) : Int), .int .u64 ((X / 18446744073709551616 % 18446744073709551616 : Nat) : Int), .int .u64 ((X / 340282366920938463463374607431768211456 % 18446744073709551616 : Nat) : Int), .int .u64 ((X / 6277101735386680763835789423207666416102355444464034512896 % 18446744073709551616 : Nat) : Int)]

theorem digit_of (B s r : Nat) (h : s < B) : (s + B * r) % B = s ∧ (s + B * r) / B = r := by
  have hB : 0 < B := by omega
  refine ⟨?_, ?_⟩
  · rw [Nat.add_mul_mod_self_left, Nat.mod_eq_of_lt h]
  · rw [Nat.add_mul_div_left _ _ hB, Nat.div_eq_of_lt h, Nat.zero_add]

theorem wv_mk {s0 s1 s2 s3 k : Nat} (h0 : s0 < 18446744073709551616) (h1 : s1 < 18446744073709551616) (h2 : s2 < 18446744073709551616) (h3 : s3 < 18446744073709551616) :
    wv (s0 + 18446744073709551616 * (s1 + 18446744073709551616 * (s2 + 18446744073709551616 * (s3 + 18446744073709551616 * k)))) = .agg #[.int .u64 s0, .int .u64 s1, .int .u64 s2, .int .u64 s3] := by
  unfold wv
  have e2 : (340282366920938463463374607431768211456 : Nat) = 18446744073709551616 * 18446744073709551616 := by decide
  have e3 : (6277101735386680763835789423207666416102355444464034512896 : Nat) = 18446744073709551616 * 18446744073709551616 * 18446744073709551616 := by decide
  rw [e2, e3]
  simp only [← Nat.div_div_eq_div_mul, (digit_of _ _ _ h0).1, (digit_of _ _ _ h0).2, (digit_of _ _ _ h1).1, (digit_of _ _ _ h1).2, (digit_of _ _ _ h2).1, (digit_of _ _ _ h2).2, (digit_of _ _ _ h3).1]

theorem wv_eq {s0 s1 s2 s3 k Z : Nat} (h0 : s0 < 18446744073709551616) (h1 : s1 < 18446744073709551616) (h2 : s2 < 18446744073709551616) (h3 : s3 < 18446744073709551616)
    (h : Z = s0 + 18446744073709551616 * (s1 + 18446744073709551616 * (s2 + 18446744073709551616 * (s3 + 18446744073709551616 * k)))) :
    Value.agg #[.int .u64 s0, .int .u64 s1, .int .u64 s2, .int .u64 s3] = wv Z := by
  rw [h]; exact (wv_mk h0 h1 h2 h3).symm

theorem wv_open (X : Nat) : ∃ x0 x1 x2 x3 k : Nat, x0 < 18446744073709551616 ∧ x1 < 18446744073709551616 ∧ x2 < 18446744073709551616 ∧ x3 < 18446744073709551616 ∧
    X = x0 + 18446744073709551616 * (x1 + 18446744073709551616 * (x2 + 18446744073709551616 * (x3 + 18446744073709551616 * k))) ∧ wv X = .agg #[.int .u64 x0, .int .u64 x1, .int .u64 x2, .int .u64 x3] := by
  have hB : 0 < 18446744073709551616 := by decide
  have d0 := Nat.mod_add_div X 18446744073709551616
  have d1 := Nat.mod_add_div (X / 18446744073709551616) 18446744073709551616
  have d2 := Nat.mod_add_div (X / 18446744073709551616 / 18446744073709551616) 18446744073709551616
  have d3 := Nat.mod_add_div (X / 18446744073709551616 / 18446744073709551616 / 18446744073709551616) 18446744073709551616
  have e : X = X % 18446744073709551616 + 18446744073709551616 * (X / 18446744073709551616 % 18446744073709551616 + 18446744073709551616 * (X / 18446744073709551616 / 18446744073709551616 % 18446744073709551616 + 18446744073709551616 * (X / 18446744073709551616 / 18446744073709551616 / 18446744073709551616 % 18446744073709551616 + 18446744073709551616 * (X / 18446744073709551616 / 18446744073709551616 / 18446744073709551616 / 18446744073709551616)))) := by
    rw [d3, d2, d1, d0]
  refine ⟨_, _, _, _, _, Nat.mod_lt _ hB, Nat.mod_lt _ hB, Nat.mod_lt _ hB, Nat.mod_lt _ hB, e, ?_⟩
  have := wv_mk (k := X / 18446744073709551616 / 18446744073709551616 / 18446744073709551616 / 18446744073709551616) (Nat.mod_lt X hB) (Nat.mod_lt (X / 18446744073709551616) hB) (Nat.mod_lt (X / 18446744073709551616 / 18446744073709551616) hB) (Nat.mod_lt (X / 18446744073709551616 / 18446744073709551616 / 18446744073709551616) hB)
  rwa [← e] at this

/-- 2^256. -/
def M256 : Nat := 115792089237316195423570985008687907853269984665640564039457584007913129639936

theorem wv_add_mul (X k : Nat) : wv (X + M256 * k) = wv X := by
  obtain ⟨x0, x1, x2, x3, j, h0, h1, h2, h3, e, hv⟩ := wv_open X
  rw [hv]
  refine (wv_eq (k := j + k) h0 h1 h2 h3 ?_).symm
  rw [e]
  unfold M256
  omega

theorem wv_mod (X : Nat) : wv (X % M256) = wv X := by
  have := wv_add_mul (X % M256) (X / M256)
  rw [Nat.mod_add_div] at this
  exact this.symm

/-- What four limbs stand for. -/
def num (a b c d : Nat) : Nat := a + 18446744073709551616 * (b + 18446744073709551616 * (c + 18446744073709551616 * d))

namespace Gen
variable {B : Nat}
theorem step_add {x y s c d P Q : Nat} (h : x + y + c = s + B * d) : (x + B * P) + (y + B * Q) + c = s + B * (P + Q + d) := by
  rw [Nat.mul_add, Nat.mul_add]; omega

theorem flat {a b c d k : Nat} : a + B * (b + B * (c + B * (d + B * k))) = a + B * (b + B * (c + B * d)) + B * B * B * B * k := by
  simp only [Nat.mul_add, Nat.mul_assoc, Nat.add_assoc]

theorem lt1 {a b K : Nat} (ha : a < B) (hb : b < K) : a + B * b < B * K := by
  have : B * (b + 1) ≤ B * K := Nat.mul_le_mul_left _ hb
  rw [Nat.mul_add] at this; omega

theorem lt4 {a b c d : Nat} (ha : a < B) (hb : b < B) (hc : c < B) (hd : d < B) : a + B * (b + B * (c + B * d)) < B * B * B * B := by
  have := lt1 ha (lt1 hb (lt1 hc hd))
  rwa [← Nat.mul_assoc, ← Nat.mul_assoc] at this

end Gen
theorem M256_eq : M256 = 18446744073709551616 * 18446744073709551616 * 18446744073709551616 * 18446744073709551616 := by decide

theorem M256_pos : 0 < M256 := by decide

theorem num_lt {a b c d : Nat} (ha : a < 18446744073709551616) (hb : b < 18446744073709551616) (hc : c < 18446744073709551616) (hd : d < 18446744073709551616) : num a b c d < M256 := by
  rw [M256_eq]; exact Gen.lt4 ha hb hc hd

theorem wv_num {Z a b c d : Nat} (ha : a < 18446744073709551616) (hb : b < 18446744073709551616) (hc : c < 18446744073709551616) (hd : d < 18446744073709551616) (h : Z % M256 = num a b c d) :
    Value.agg #[.int .u64 a, .int .u64 b, .int .u64 c, .int .u64 d] = wv Z := by
  rw [← wv_mod Z, h]
  exact wv_eq (k := 0) ha hb hc hd (by rw [Nat.mul_zero, Nat.add_zero]; rfl)

theorem wv_limbs (X : Nat) : ∃ x0 x1 x2 x3 : Nat, x0 < 18446744073709551616 ∧ x1 < 18446744073709551616 ∧ x2 < 18446744073709551616 ∧ x3 < 18446744073709551616 ∧
    X % M256 = num x0 x1 x2 x3 ∧ wv X = .agg #[.int .u64 x0, .int .u64 x1, .int .u64 x2, .int .u64 x3] := by
  obtain ⟨x0, x1, x2, x3, k, h0, h1, h2, h3, e, hv⟩ := wv_open X
  refine ⟨x0, x1, x2, x3, h0, h1, h2, h3, ?_, hv⟩
  rw [e, Gen.flat, M256_eq, Nat.add_mul_mod_self_left, Nat.mod_eq_of_lt (by rw [← M256_eq]; exact num_lt h0 h1 h2 h3)]
  rfl

theorem blk_cell {w : World} {p t o : Nat} {cs : Array Value} {v : Value} (h : w.heap[p]? = some (.cells cs t (0, 0))) (hv : cs[o]? = some v) : w.cell? ⟨p, o, none⟩ = some v := by
  simp [World.cell?, h, hv]

theorem blk_free {w : World} {p t o : Nat} {cs : Array Value} (h : w.heap[p]? = some (.cells cs t (0, 0))) : w.frozen? ⟨p, o, none⟩ = false := by
  simp [World.frozen?, h]

theorem blk_set {w : World} {p t o : Nat} {cs : Array Value} (h : w.heap[p]? = some (.cells cs t (0, 0))) (v : Value) : (w.setCell ⟨p, o, none⟩ v).heap[p]? = some (.cells (cs.setIfInBounds o v) t (0, 0)) := by
  simp [World.setCell, Array.getElem?_modify, h]

theorem hideP {p : Prop} (h : p) : Hid p := h

theorem cells4 {w1 : World} {b t : Nat} {u0 u1 u2 u3 : Value} (h1 : w1.heap[b]? = some (.cells #[u0, u1, u2, u3] t (0, 0))) :
    w1.cell? ⟨b, 0, none⟩ = some u0 ∧ w1.cell? ⟨b, 1, none⟩ = some u1 ∧ w1.cell? ⟨b, 2, none⟩ = some u2 ∧ w1.cell? ⟨b, 3, none⟩ = some u3 :=
  ⟨blk_cell h1 rfl, blk_cell h1 rfl, blk_cell h1 rfl, blk_cell h1 rfl⟩

theorem heap_new (w : World) (a : Obj) : (w.alloc a).heap[w.heap.size]? = some a := heap_alloc_new w a

theorem heap_new1 (w : World) (a b : Obj) : ((w.alloc a).alloc b).heap[w.heap.size + 1]? = some b := by
  have := heap_alloc_new (w.alloc a) b
  rwa [World.size_alloc] at this

theorem heap_old (w : World) (a : Obj) {k : Nat} (h : k < w.heap.size) : (w.alloc a).heap[k]? = w.heap[k]? := Below.heap_alloc w a k h

/-- A word, written out. -/
theorem wv_form (X : Nat) : ∃ a b c d : Int, wv X = .agg #[.int .u64 a, .int .u64 b, .int .u64 c, .int .u64 d] := ⟨_, _, _, _, rfl⟩

theorem num_add {x0 x1 x2 x3 y0 y1 y2 y3 s0 s1 s2 s3 c0 c1 c2 c3 : Nat} (e0 : x0 + y0 = s0 + 18446744073709551616 * c0) (e1 : x1 + y1 + c0 = s1 + 18446744073709551616 * c1)
    (e2 : x2 + y2 + c1 = s2 + 18446744073709551616 * c2) (e3 : x3 + y3 + c2 = s3 + 18446744073709551616 * c3) : num x0 x1 x2 x3 + num y0 y1 y2 y3 = num s0 s1 s2 s3 + M256 * c3 := by
  have a3 : (x3 + 18446744073709551616 * 0) + (y3 + 18446744073709551616 * 0) + c2 = s3 + 18446744073709551616 * (0 + 0 + c3) := Gen.step_add e3
  have a2 := Gen.step_add (P := x3 + 18446744073709551616 * 0) (Q := y3 + 18446744073709551616 * 0) e2
  rw [a3] at a2
  have a1 := Gen.step_add (P := x2 + 18446744073709551616 * (x3 + 18446744073709551616 * 0)) (Q := y2 + 18446744073709551616 * (y3 + 18446744073709551616 * 0)) e1
  rw [a2] at a1
  have a0 := Gen.step_add (c := 0) (P := x1 + 18446744073709551616 * (x2 + 18446744073709551616 * (x3 + 18446744073709551616 * 0))) (Q := y1 + 18446744073709551616 * (y2 + 18446744073709551616 * (y3 + 18446744073709551616 * 0))) e0
  rw [a1] at a0
  simp only [Nat.mul_zero, Nat.add_zero, Nat.zero_add] at a0
  rw [Gen.flat] at a0
  rw [M256_eq]
  exact a0

theorem mod_add_eq {M a b s c : Nat} (h : a % M + b % M = s + M * c) (hs : s < M) : (a + b) % M = s := by
  rw [Nat.add_mod, h, Nat.add_mul_mod_self_left, Nat.mod_eq_of_lt hs]

theorem add64_run (x y c : Nat) (hc : c ≤ 1) (w : World) :
    (callFunc 82 #[.int .u64 x, .int .u64 y, .int .u64 c]).run Tryd.prog w =
      .ok (.value (.tuple #[.int .u64 (((x + y + c) % 18446744073709551616 : Nat) : Int), .int .u64 (((x + y + c) / 18446744073709551616 : Nat) : Int)])) w := by
  rw [run_callFunc_extern Tryd.func82 (by kernel_rfl) (by kernel_rfl) (by kernel_rfl) (e := add64Entry) (by kernel_rfl), run_add64 x y c (by omega) (by omega) (by omega) (by omega)]
  simp only [Result.andThen]
  congr 5 <;> omega

/-- A sum of limbs. -/
theorem add64_ex (x y c : Nat) (hx : x < 18446744073709551616) (hy : y < 18446744073709551616) (hc : c ≤ 1) : ∃ s d : Nat, s < 18446744073709551616 ∧ d ≤ 1 ∧ x + y + c = s + 18446744073709551616 * d ∧
    ∀ w, (callFunc 82 #[.int .u64 x, .int .u64 y, .int .u64 c]).run Tryd.prog w = .ok (.value (.tuple #[.int .u64 s, .int .u64 d])) w :=
  ⟨_, _, by omega, by omega, by omega, fun w => add64_run x y c hc w⟩

theorem add64_ex0 (x y : Nat) (hx : x < 18446744073709551616) (hy : y < 18446744073709551616) : ∃ s d : Nat, s < 18446744073709551616 ∧ d ≤ 1 ∧ x + y = s + 18446744073709551616 * d ∧
    ∀ w, (callFunc 82 #[.int .u64 x, .int .u64 y, .int .u64 0]).run Tryd.prog w = .ok (.value (.tuple #[.int .u64 s, .int .u64 d])) w :=
  ⟨_, _, by omega, by omega, by omega, fun w => add64_run x y 0 (by omega) w⟩

set_option maxHeartbeats 1000000 in
set_option maxRecDepth 100000 in
theorem carry_any (w : World) (X Y : Nat) :
    Calls Tryd.prog 62 #[wv X, wv Y] w fun e w' => ∃ c : Nat, e = .returned (.tuple #[wv (X + Y), .bool ((c : Int) == 1)]) ∧ c ≤ 1 ∧ X % M256 + Y % M256 = (X + Y) % M256 + M256 * c ∧ Below w.heap.size w w' := by
  obtain ⟨x0, x1, x2, x3, hx0, hx1, hx2, hx3, eX, hX⟩ := wv_limbs X
  obtain ⟨y0, y1, y2, y3, hy0, hy1, hy2, hy3, eY, hY⟩ := wv_limbs Y
  rw [hX, hY]
  obtain ⟨s0, c0, i0, j0, e0, k0⟩ := add64_ex0 x0 y0 hx0 hy0
  obtain ⟨s1, c1, i1, j1, e1, k1⟩ := add64_ex x1 y1 c0 hx1 hy1 j0
  obtain ⟨s2, c2, i2, j2, e2, k2⟩ := add64_ex x2 y2 c1 hx2 hy2 j1
  obtain ⟨s3, c3, i3, j3, e3, k3⟩ := add64_ex x3 y3 c2 hx3 hy3 j2
  have hs := num_add e0 e1 e2 e3
  rw [← eX, ← eY] at hs
  have hm := mod_add_eq hs (num_lt i0 i1 i2 i3)
  have HR : Hid (Value.agg #[.int .u64 s0, .int .u64 s1, .int .u64 s2, .int .u64 s3] = wv (X + Y) ∧ c3 ≤ 1 ∧ X % M256 + Y % M256 = (X + Y) % M256 + M256 * c3) :=
    ⟨wv_num i0 i1 i2 i3 hm, j3, by rw [hs, hm]⟩
  clear hs hm
  clear i0 i1 i2 i3 j0 j1 j2 j3 e0 e1 e2 e3 hx0 hx1 hx2 hx3 hy0 hy1 hy2 hy3 hX hY eX eY
  go_enter Tryd.func62, Tryd.ntmps62
  go_wp2_with (fail)
  refine wp_loop_rounds 5 ?_
  rw [rounds_succ]
  go_wp2_with (fail)
  go_region
  go_wp2_with (fail)
  rw [rounds_succ]
  go_wp2_with (fail)
  go_region
  go_wp2_with (fail)
  rw [rounds_succ]
  go_wp2_with (fail)
  go_region
  go_wp2_with (fail)
  rw [rounds_succ]
  go_wp2_with (fail)
  go_region
  go_wp2_with (fail)
  rw [rounds_succ]
  go_wp2
  refine bodyPost_ret (v := .tuple #[.agg #[.int .u64 s0, .int .u64 s1, .int .u64 s2, .int .u64 s3], .bool ((c3 : Int) == 1)]) (by simp [results, Tryd.results62, go_sem]) rfl ?_
  obtain ⟨r1, r2, r3⟩ := HR.out
  exact ⟨c3, by rw [r1], r2, r3, by repeat first | exact Below.refl _ _ | apply Below.drew | (refine Below.alloc ?_ (by simp <;> omega) _)⟩

namespace M64
end M64
set_option maxHeartbeats 400000 in
set_option maxRecDepth 100000 in
theorem of_any (n : Nat) (hn : n < 18446744073709551616) (w : World) : Calls Tryd.prog 61 #[.int .u64 n] w fun e w' => e = .returned (wv n) ∧ Below w.heap.size w w' := by
  have hv : Value.agg #[.int .u64 n, .int .u64 0, .int .u64 0, .int .u64 0] = wv n := wv_eq (s1 := 0) (s2 := 0) (s3 := 0) (k := 0) hn (by omega) (by omega) (by omega) (by omega)
  have HV := hideP hv
  clear hv hn
  go_enter Tryd.func61, Tryd.ntmps61
  go_wp2
  refine bodyPost_ret (v := .agg #[.int .u64 n, .int .u64 0, .int .u64 0, .int .u64 0]) (by simp [results, Tryd.results61, go_sem]) rfl ⟨by rw [HV.out], ?_⟩
  repeat first | exact Below.refl _ _ | apply Below.drew | (refine Below.alloc ?_ (by simp <;> omega) _) | (refine Below.setCell ?_ (by simp <;> omega) _)

/-- A limb of a number. -/
def limb (N k : Nat) : Nat := N / 18446744073709551616 ^ k % 18446744073709551616

theorem limb_lt (N k : Nat) : limb N k < 18446744073709551616 := Nat.mod_lt _ (by decide)

theorem limb_succ (N k : Nat) : limb N (k + 1) = limb (N / 18446744073709551616) k := by
  unfold limb
  rw [Nat.pow_succ, Nat.mul_comm, Nat.div_div_eq_div_mul]

theorem limb_zero_of {a r : Nat} (h : a < 18446744073709551616) : limb (a + 18446744073709551616 * r) 0 = a := by
  unfold limb
  rw [Nat.pow_zero, Nat.div_one]
  exact (digit_of _ _ _ h).1

theorem limb_succ_of {a r k : Nat} (h : a < 18446744073709551616) : limb (a + 18446744073709551616 * r) (k + 1) = limb r k := by
  rw [limb_succ, (digit_of _ _ _ h).2]

theorem wv_limb (X : Nat) : wv X = .agg #[.int .u64 (limb X 0), .int .u64 (limb X 1), .int .u64 (limb X 2), .int .u64 (limb X 3)] := by
  obtain ⟨x0, x1, x2, x3, k, h0, h1, h2, h3, e, hv⟩ := wv_open X
  rw [hv, e]
  simp only [limb_zero_of h0, limb_succ_of h0, limb_zero_of h1, limb_succ_of h1, limb_zero_of h2, limb_succ_of h2, limb_zero_of h3]

set_option maxHeartbeats 1000000 in
set_option maxRecDepth 100000 in
theorem used_any (w : World) (b n cap : Nat) (f : Nat → Nat) (hn : n ≤ 9) (hc : ∀ j, j < n → w.cell? ⟨b, j, none⟩ = some (.int .u64 (f j))) :
    Calls Tryd.prog 84 #[.slice (some ⟨b, 0, none⟩) n cap] w fun e w' => (∃ k : Nat, e = .returned (.int .i64 k) ∧ k ≤ n ∧ (∀ j, k ≤ j → j < n → f j = 0) ∧ (0 < k → f (k - 1) ≠ 0)) ∧ w = w' := by
  go_enter Tryd.func84, Tryd.ntmps84
  go_wp2_with fail
  go_loop [3, 6] (fun _ i => ∃ k : Nat, k ≤ n ∧ i = .int .i64 k ∧ ∀ j, n - k ≤ j → j < n → f j = 0) (fun _ i => n - (intOf i).toNat)
  case atStart => exact ⟨0, Nat.zero_le _, rfl, fun j h1 h2 => by omega⟩
  case round =>
    obtain ⟨k, hk, rfl, hz⟩ := hrel
    have HZ := hideP hz
    clear hz
    by_cases hlt : k < n
    · obtain ⟨j, hj⟩ : ∃ j, j = n - 1 - k := ⟨_, rfl⟩
      have hcj := hc j (by omega)
      have e1 : IntKind.i64.wrap ((n : Int) - 1) = (n : Int) - 1 := by rw [IntKind.wrap_i64]; omega
      have e2 : IntKind.i64.wrap ((n : Int) - 1 - k) = (j : Int) := by rw [IntKind.wrap_i64]; omega
      have e3 : IntKind.i64.wrap ((n : Int) - k) = (j : Int) + 1 := by rw [IntKind.wrap_i64]; omega
      have e4 : IntKind.i64.wrap ((k : Int) + 1) = (k : Int) + 1 := by rw [IntKind.wrap_i64]; omega
      have hj1 : (j : Int) < n := by omega
      have HJ := hideP hj
      have hlt' : (k : Int) < n := by omega
      clear hj hc
      by_cases hv : f j = 0
      · have hb : ((f j : Int) == 0) = true := by simp [hv]
        have HV := hideP hv
        clear hv
        go_wp2_with fail
        go_round
        case rel =>
          refine ⟨k + 1, by omega, by go_num, fun i h1 h2 => ?_⟩
          have hj := HJ.out
          by_cases hi : i = j
          · rw [hi]; exact HV.out
          · exact HZ.out i (by omega) h2
        case measure => simp [intOf]; omega
      · have hb : ((f j : Int) == 0) = false := by simp; omega
        have HV := hideP hv
        clear hv
        go_wp2_with fail
        go_ret
        have hj := HJ.out
        exact ⟨⟨j + 1, by simp, by omega, fun i h1 h2 => HZ.out i (by omega) h2, fun _ => by simpa using HV.out⟩, rfl⟩
    · have hlt' : ¬ ((k : Int) < n) := by omega
      have hkn : k = n := by omega
      subst hkn
      clear hc hlt' hk
      go_wp2_with fail
      go_ret
      exact ⟨⟨0, rfl, Nat.zero_le _, fun i h1 h2 => HZ.out i (by omega) h2, fun h => by omega⟩, rfl⟩

set_option maxRecDepth 100000 in
theorem tab_size : (Lib.len8tab.size : Int) = 256 := by
  have : Lib.len8tab.size = 256 := by decide
  omega

theorem wrap_sum (k a b : Nat) (hk : k ≤ 56) (ha : a ≤ 8) (hb : b = k + a) : RowKit.wrap64 ((k : Int) + RowKit.wrap64 (a : Int)) = (b : Int) := by
  unfold RowKit.wrap64
  omega

theorem wrap_twice (a : Nat) (ha : a ≤ 8) : RowKit.wrap64 (RowKit.wrap64 (a : Int)) = (a : Int) := by
  unfold RowKit.wrap64
  omega

theorem tab_get (y : Int) (h : y.toNat < Lib.len8tab.size) : ((Lib.len8tab[y.toNat]'h).toNat : Int) = Lib.len8 y := by
  unfold Lib.len8
  rw [getElem?_pos Lib.len8tab y.toNat h]
  rfl

set_option maxHeartbeats 8000000 in
set_option maxRecDepth 1000000 in
theorem len64_int (x : Int) (w : World) (h0 : 0 ≤ x) (h1 : x ≤ 18446744073709551615) :
    Calls Tryd.prog 85 #[.int .u64 x] w fun e w' => e = .returned (.int .i64 (Lib.bitLen x.toNat)) ∧ w = w' := by
  go_enter Tryd.func85, Tryd.ntmps85
  go_wp2
  all_goals first
    | (go_ret; refine ⟨congrArg Ending.returned (congrArg (Value.int IntKind.i64) ?_), rfl⟩)
    | (exfalso
       have hs := tab_size
       omega)
  all_goals first
    | (rw [tab_get (x / 4294967296 / 65536 / 256) _, Lib.len8_of (x / 4294967296 / 65536 / 256) (by omega) (by omega)]
       have e : (x / 4294967296 / 65536 / 256).toNat = x.toNat / 72057594037927936 := by omega
       have l := Lib.bitLen_le8' (x / 4294967296 / 65536 / 256) (by omega) (by omega)
       have s := Lib.bitLen_shift56 x.toNat (by omega) (by omega)
       rw [e] at l ⊢
       exact wrap_sum 56 _ _ (by decide) l s)
    | (rw [tab_get (x / 4294967296 / 65536) _, Lib.len8_of (x / 4294967296 / 65536) (by omega) (by omega)]
       have e : (x / 4294967296 / 65536).toNat = x.toNat / 281474976710656 := by omega
       have l := Lib.bitLen_le8' (x / 4294967296 / 65536) (by omega) (by omega)
       have s := Lib.bitLen_shift48 x.toNat (by omega) (by omega)
       rw [e] at l ⊢
       exact wrap_sum 48 _ _ (by decide) l s)
    | (rw [tab_get (x / 4294967296 / 256) _, Lib.len8_of (x / 4294967296 / 256) (by omega) (by omega)]
       have e : (x / 4294967296 / 256).toNat = x.toNat / 1099511627776 := by omega
       have l := Lib.bitLen_le8' (x / 4294967296 / 256) (by omega) (by omega)
       have s := Lib.bitLen_shift40 x.toNat (by omega) (by omega)
       rw [e] at l ⊢
       exact wrap_sum 40 _ _ (by decide) l s)
    | (rw [tab_get (x / 4294967296) _, Lib.len8_of (x / 4294967296) (by omega) (by omega)]
       have e : (x / 4294967296).toNat = x.toNat / 4294967296 := by omega
       have l := Lib.bitLen_le8' (x / 4294967296) (by omega) (by omega)
       have s := Lib.bitLen_shift32 x.toNat (by omega) (by omega)
       rw [e] at l ⊢
       exact wrap_sum 32 _ _ (by decide) l s)
    | (rw [tab_get (x / 65536 / 256) _, Lib.len8_of (x / 65536 / 256) (by omega) (by omega)]
       have e : (x / 65536 / 256).toNat = x.toNat / 16777216 := by omega
       have l := Lib.bitLen_le8' (x / 65536 / 256) (by omega) (by omega)
       have s := Lib.bitLen_shift24 x.toNat (by omega) (by omega)
       rw [e] at l ⊢
       exact wrap_sum 24 _ _ (by decide) l s)
    | (rw [tab_get (x / 65536) _, Lib.len8_of (x / 65536) (by omega) (by omega)]
       have e : (x / 65536).toNat = x.toNat / 65536 := by omega
       have l := Lib.bitLen_le8' (x / 65536) (by omega) (by omega)
       have s := Lib.bitLen_shift16 x.toNat (by omega) (by omega)
       rw [e] at l ⊢
       exact wrap_sum 16 _ _ (by decide) l s)
    | (rw [tab_get (x / 256) _, Lib.len8_of (x / 256) (by omega) (by omega)]
       have e : (x / 256).toNat = x.toNat / 256 := by omega
       have l := Lib.bitLen_le8' (x / 256) (by omega) (by omega)
       have s := Lib.bitLen_shift8 x.toNat (by omega) (by omega)
       rw [e] at l ⊢
       exact wrap_sum 8 _ _ (by decide) l s)
    | (rw [tab_get x _, Lib.len8_of x (by omega) (by omega)]
       exact wrap_twice _ (Lib.bitLen_le8' x (by omega) (by omega)))

theorem len64_any (x : Nat) (w : World) (h : x < 18446744073709551616) :
    Calls Tryd.prog 85 #[.int .u64 x] w fun e w' => e = .returned (.int .i64 (Lib.bitLen x)) ∧ w = w' := by
  have := len64_int x w (by omega) (by omega)
  simpa using this

theorem bitLen_pos {x : Nat} (h : 0 < x) (hx : x < 18446744073709551616) : 1 ≤ Lib.bitLen x ∧ Lib.bitLen x ≤ 64 := by
  refine ⟨?_, Lib.bitLen_le x 64 (by omega) (by simpa using hx)⟩
  have := Lib.bitLen_half x (by omega) (by simpa using hx)
  omega

theorem bitLen_upper : ∀ (k x : Nat), x < 2 ^ 64 → Lib.bitLen x ≤ k → x < 2 ^ k
  | 0, x, hx, h => by
    rcases Nat.eq_zero_or_pos x with rfl | h0
    · simp
    · have := Lib.bitLen_half x (by omega) hx; omega
  | k + 1, x, hx, h => by
    rcases Nat.eq_zero_or_pos x with rfl | h0
    · exact Nat.two_pow_pos _
    · have h1 := Lib.bitLen_half x (by omega) hx
      have h2 := bitLen_upper k (x / 2) (by omega) (by omega)
      rw [Nat.pow_succ]; omega

theorem bitLen_lower {x k : Nat} (hk : k ≤ 64) (h : k < Lib.bitLen x) : 2 ^ k ≤ x := by
  apply Nat.le_of_not_lt
  intro hc
  have := Lib.bitLen_le x k hk hc
  omega

theorem wp_region_heldS {P : Program} {ops : Array Oper} {Q : Exit → Act → World → Prop} {S : World → Prop} {id : Nat} {a : Act} {w : World} (hm : P.follows .mixedOrders = true) (hS : S w.drew)
    (h : S w.drew → wpAnyH P .any ops Q S ops.size (Array.replicate ops.size false) a w.drew) : (Code.region id ops true).wp P Q a w :=
  wp_region_held hm (h hS)

theorem wv_small {Y : Nat} (h : Y < 18446744073709551616) : wv Y = .agg #[.int .u64 Y, .int .u64 0, .int .u64 0, .int .u64 0] :=
  (wv_eq (s1 := 0) (s2 := 0) (s3 := 0) (k := 0) h (by omega) (by omega) (by omega) (by omega)).symm

theorem wpAnyH_takeL {P : Program} {l : List Oper} {Q : Exit → Act → World → Prop} {md : Region.Mode} {S : World → Prop} {i : Nat} {oi : Oper} {v : Value} {fuel : Nat} {listed : Array Bool} {a : Act} {w : World} (hi : l[i]? = some oi)
    (hs : Region.noSelect l.toArray = true) (hf : Region.free md l.toArray listed i = true) (hr : (Region.ready md l.toArray listed).contains i = true)
    (hQ : ∀ c a w, Q (.panic c) (a.put oi.dst v) w → Q (.panic c) a w) (hy : YieldsIf P l.toArray S oi v a) (hS : S w)
    (h : wpAnyH P md l.toArray Q S fuel (listed.setIfInBounds i true) (a.put oi.dst v) w) : wpAnyH P md l.toArray Q S (fuel + 1) listed a w :=
  wpAnyH_take (by simpa using hi) hs hf hr hQ hy hS h

theorem put_list (l : List Value) (ds : List Deferred) (d : Nat) (v : Value) : Act.put { tmps := l.toArray, defers := ds } (some d) v = { tmps := (l.set d v).toArray, defers := ds } := by
  simp [Act.put]

/-- A digit to the base 2^32. -/
def dg (N j : Nat) : Nat := N / 4294967296 ^ j % 4294967296

/-- The cells of seventeen digits. -/
def c17 (g : Nat → Nat) : Array Value := #[.int .u64 (g 0), .int .u64 (g 1), .int .u64 (g 2), .int .u64 (g 3), .int .u64 (g 4), .int .u64 (g 5), .int .u64 (g 6), .int .u64 (g 7), .int .u64 (g 8), .int .u64 (g 9), .int .u64 (g 10), .int .u64 (g 11), .int .u64 (g 12), .int .u64 (g 13), .int .u64 (g 14), .int .u64 (g 15), .int .u64 (g 16)]

/-- All but the block L is as it was. -/
structure But (L : Nat) (W V : World) : Prop where
  same : ∀ b, b ≠ L → V.heap[b]? = W.heap[b]?
  below : Below L W V

theorem But.refl (L : Nat) (W : World) : But L W W := ⟨fun _ _ => rfl, Below.refl _ _⟩

theorem But.set {L : Nat} {W V : World} (h : But L W V) (o : Nat) (v : Value) : But L W (V.setCell ⟨L, o, none⟩ v) :=
  ⟨fun b hb => (Below.heap_setCell V _ v b hb).trans (h.same b hb), h.below.setCell (p := ⟨L, o, none⟩) (Nat.le_refl _) v⟩

theorem But.drew {L : Nat} {W V : World} (h : But L W V) : But L W V.drew := ⟨h.same, h.below.drew⟩

theorem But.trans {L : Nat} {W V U : World} (h : But L W V) (g : But L V U) : But L W U := ⟨fun b hb => (g.same b hb).trans (h.same b hb), h.below.trans g.below⟩

theorem But.cell {L : Nat} {W V : World} (h : But L W V) {b o : Nat} (hb : b ≠ L) : V.cell? ⟨b, o, none⟩ = W.cell? ⟨b, o, none⟩ := by
  simp only [World.cell?, h.same b hb]

namespace SP
theorem last {B Bk P p S s Y m a c c' : Nat} (h : P + Bk * c + Bk * a = S + m * Y) (e2 : p + B * c' = s + a + c) :
    P + p * Bk + Bk * B * c' = S + s * Bk + m * Y := by
  have h2 : Bk * (p + B * c') = Bk * (s + a + c) := by rw [e2]
  simp only [Nat.mul_add] at h2
  rw [Nat.mul_comm p, Nat.mul_comm s, Nat.mul_assoc Bk B c']
  omega

end SP

theorem But.sets {L : Nat} {W : World} : ∀ (vs : List Value) (o : Nat) {V : World}, But L W V → But L W (V.setCells L o vs)
  | [], _, _, h => h
  | v :: r, o, _, h => by rw [World.setCells]; exact But.sets r (o + 1) (h.set o v)

/-- Values written into a row one after another. -/
def putAll (cs : Array Value) (o : Nat) : List Value → Array Value
  | [] => cs
  | v :: r => putAll (cs.setIfInBounds o v) (o + 1) r

theorem blk_sets {p t : Nat} : ∀ (vs : List Value) (o : Nat) {w : World} {cs : Array Value}, w.heap[p]? = some (.cells cs t (0, 0)) → (w.setCells p o vs).heap[p]? = some (.cells (putAll cs o vs) t (0, 0))
  | [], _, _, _, h => h
  | v :: r, o, _, _, h => by rw [World.setCells]; exact blk_sets r (o + 1) (blk_set h v)

theorem put_same (a : Act) (d : Nat) (v : Value) (h : d < a.tmps.size) : (a.put (some d) v).eval (.tmp d) = v := by
  simp [Act.put, Act.eval, Array.getD, h]

theorem put_ne (a : Act) {d j : Nat} (v : Value) (h : d ≠ j) : (a.put (some d) v).eval (.tmp j) = a.eval (.tmp j) :=
  Act.eval_put (fun d' hd' e => by cases hd'; cases e; exact h rfl)

theorem results_cell {P : Program} {fn : Func} {ts : Array Value} {w : World} {j ty : Nat} {p : Addr} {v : Value} (hf : fn.results = #[.cell j ty]) (hj : ts.getD j undef = .pointer (some p)) (h : (loadVar ty p).run P w = .ok v w) :
    (results fn ts).run P w = .ok v w := by
  unfold results
  rw [hf]
  rw [Array.getD_eq_getD_getElem?] at hj
  simp [hj, asAddr, h]

section
variable {W0 V V' : World} {R : Nat}
theorem lt_of_block {W : World} {b : Nat} {o : Obj} (h : W.heap[b]? = some o) : b < W.heap.size := (Array.getElem?_eq_some_iff.1 h).1

end

theorem at_world_t {P : Program} {c : Code} {Q : Exit → Act → World → Prop} {a : Act} {w : World} (h : ∀ W0, W0 = w → c.wp P Q a W0) : c.wp P Q a w := h w rfl

/-- Where a comparison has come to. -/
structure OI (w wr : World) (A B k : Nat) : Prop where
  a : wr.heap[w.heap.size]? = some (.cells (c17 (dg A)) 117 (0, 0))
  b : wr.heap[w.heap.size + 1]? = some (.cells (c17 (dg B)) 117 (0, 0))
  e : ∀ j, k ≤ j → j < 17 → dg A j = dg B j
  l : Below w.heap.size w wr

theorem OI.start (w : World) (A B : Nat) : OI w ((w.alloc (.cells (c17 (dg A)) 117 (0, 0))).alloc (.cells (c17 (dg B)) 117 (0, 0))) A B 17 := by
  refine ⟨?_, ?_, fun j h1 h2 => absurd h2 (by omega), ?_⟩
  · simp only [World.alloc, Array.getElem?_push, Array.size_push]; simp
  · simp only [World.alloc, Array.getElem?_push, Array.size_push]; simp
  · refine Below.alloc ?_ (by simp <;> omega) _
    refine Below.alloc ?_ (by simp <;> omega) _
    exact Below.refl _ _

theorem at_world_q {P : Program} {f : FuncId} {args : Array Value} {w : World} {Q : Ending → World → Prop} (h : ∀ W0, W0 = w → Calls P f args W0 Q) : Calls P f args w Q := h w rfl

theorem eq_words (a b c d a' b' c' d' : Int) (W : World) : (Op.equalIn 10000 30 (.agg #[.int .u64 a, .int .u64 b, .int .u64 c, .int .u64 d]) (.agg #[.int .u64 a', .int .u64 b', .int .u64 c', .int .u64 d'])).run Tryd.prog W = .ok (a == a' && (b == b' && (c == c' && d == d'))) W := by
  have h : ∀ x y : Int, (Op.equalIn 9999 22 (.int .u64 x) (.int .u64 y)).run Tryd.prog W = .ok (x == y) W := fun x y => by
    unfold Op.equalIn
    simp [go_sem]
  unfold Op.equalIn
  simp [go_sem, List.range', h]
  by_cases h1 : a = a' <;> by_cases h2 : b = b' <;> by_cases h3 : c = c' <;> by_cases h4 : d = d' <;> simp [go_sem, h1, h2, h3, h4]

theorem num_small {x0 x1 x2 x3 : Nat} (h0 : x0 < 18446744073709551616) : num x0 x1 x2 x3 < 18446744073709551616 ↔ (x1 = 0 ∧ x2 = 0 ∧ x3 = 0) := by
  unfold num
  omega

set_option maxHeartbeats 2000000 in
set_option maxRecDepth 100000 in
theorem small_in (X : Nat) (h : X % M256 < 18446744073709551616) (w : World) : Calls Tryd.prog 73 #[wv X] w fun e w' => e = .returned (.tuple #[.int .u64 ((X % M256 : Nat) : Int), .bool true]) ∧ Below w.heap.size w w' := by
  obtain ⟨x0, x1, x2, x3, h0, h1, h2, h3, eX, hX⟩ := wv_limbs X
  have c1 := fun W => of_any x0 h0 W
  rw [wv_small h0] at c1
  rw [eX, num_small h0] at h
  have hr : X % M256 = x0 := by
    rw [eX]
    unfold num
    omega
  rw [hr]
  rw [hX]
  have heq : ∀ W : World, (Op.equalIn 10000 30 (.agg #[.int .u64 (x0 : Int), .int .u64 (x1 : Int), .int .u64 (x2 : Int), .int .u64 (x3 : Int)]) (.agg #[.int .u64 (x0 : Int), .int .u64 0, .int .u64 0, .int .u64 0])).run Tryd.prog W = .ok true W := fun W => by
    rw [eq_words]
    congr 1
    obtain ⟨a, b, c⟩ := h
    subst a b c
    simp
  have C1 := hideP c1
  clear c1 hX h eX h0 h1 h2 h3 hr
  go_enter Tryd.func73, Tryd.ntmps73
  go_wp2_with fail
  refine at_world_t (fun W0 hW0 => ?_)
  have HBx : W0.heap[w.heap.size]? = some (.cells #[.int .u64 (x0 : Int), .int .u64 (x1 : Int), .int .u64 (x2 : Int), .int .u64 (x3 : Int)] 30 (0, 0)) := by
    rw [hW0]
    exact heap_new _ _
  have HBW : Hid (Below w.heap.size w W0) := by
    show Below _ _ _
    rw [hW0]
    exact ((Below.refl _ w).alloc (Nat.le_refl _) _)
  clear hW0
  obtain ⟨cx0, cx1, cx2, cx3⟩ := cells4 HBx
  have hlx := lt_of_block HBx
  refine wp_region_heldS (S := fun V => Below W0.heap.size W0 V) (by kernel_rfl) (Below.refl _ _).drew (fun hS => ?_)
  refine wpAnyH_takeL (i := 0) (v := ?_) rfl (by kernel_rfl) (by kernel_rfl) (by kernel_rfl) (fun _ _ _ h => h) (Or.inl ⟨by kernel_rfl, ?_⟩) hS ?_
  rotate_left
  · intro V hV
    have k0 := (hV.cell (p := ⟨w.heap.size, 0, none⟩) hlx).trans cx0
    have k1 := (hV.cell (p := ⟨w.heap.size, 1, none⟩) hlx).trans cx1
    have k2 := (hV.cell (p := ⟨w.heap.size, 2, none⟩) hlx).trans cx2
    have k3 := (hV.cell (p := ⟨w.heap.size, 3, none⟩) hlx).trans cx3
    go_simp
    (try with_reducible rfl)
  simp only [put_list, List.set_cons_succ, List.set_cons_zero]
  refine wpAnyH_takeL (i := 1) (v := ?_) rfl (by kernel_rfl) (by kernel_rfl) (by kernel_rfl) (fun _ _ _ h => h) (Or.inl ⟨by kernel_rfl, ?_⟩) hS ?_
  rotate_left
  · intro V hV
    go_simp
    (try with_reducible rfl)
  simp only [put_list, List.set_cons_succ, List.set_cons_zero]
  refine wpAnyH_takeL (i := 2) (v := ?_) rfl (by kernel_rfl) (by kernel_rfl) (by kernel_rfl) (fun _ _ _ h => h) (Or.inl ⟨by kernel_rfl, ?_⟩) hS ?_
  rotate_left
  · intro V hV
    have k0 := (hV.cell (p := ⟨w.heap.size, 0, none⟩) hlx).trans cx0
    go_simp
    (try with_reducible rfl)
  simp only [put_list, List.set_cons_succ, List.set_cons_zero]
  refine wpAnyH_ready (rs := [3]) (by kernel_rfl) (by simp) (AllReadyH.cons rfl (fun K hK => ?_) AllReadyH.nil)
  go_simp
  refine (C1.out _).mono ?_
  rintro e U1 ⟨rfl, hbc⟩
  refine hK.out _ _ (hS.trans (hbc.mono hS.size)) (fun hS => ?_)
  clear hK K hbc
  refine wpAnyH_takeL (i := 4) (v := ?_) rfl (by kernel_rfl) (by kernel_rfl) (by kernel_rfl) (fun _ _ _ h => h) (Or.inl ⟨by kernel_rfl, ?_⟩) hS ?_
  rotate_left
  · intro V hV
    go_simp
    (try with_reducible rfl)
  simp only [put_list, List.set_cons_succ, List.set_cons_zero]
  refine wpAnyH_done (by kernel_rfl) ?_ _
  have q0 := (hS.cell (p := ⟨w.heap.size, 0, none⟩) hlx).trans cx0
  clear cx0 cx1 cx2 cx3
  go_wp2_with fail
  refine bodyPost_ret (v := .tuple #[.int .u64 (x0 : Int), .bool true]) (by simp [results, Tryd.results73, go_sem]) rfl ⟨rfl, HBW.out.trans (hS.mono HBW.out.size)⟩

set_option maxHeartbeats 2000000 in
set_option maxRecDepth 100000 in
theorem small_out (X : Nat) (h : ¬ X % M256 < 18446744073709551616) (w : World) : Calls Tryd.prog 73 #[wv X] w fun e w' => e = .returned (.tuple #[.int .u64 0, .bool false]) ∧ Below w.heap.size w w' := by
  obtain ⟨x0, x1, x2, x3, h0, h1, h2, h3, eX, hX⟩ := wv_limbs X
  have c1 := fun W => of_any x0 h0 W
  rw [wv_small h0] at c1
  rw [eX, num_small h0] at h
  rw [hX]
  have heq : ∀ W : World, (Op.equalIn 10000 30 (.agg #[.int .u64 (x0 : Int), .int .u64 (x1 : Int), .int .u64 (x2 : Int), .int .u64 (x3 : Int)]) (.agg #[.int .u64 (x0 : Int), .int .u64 0, .int .u64 0, .int .u64 0])).run Tryd.prog W = .ok false W := fun W => by
    rw [eq_words]
    congr 1
    rw [Bool.eq_false_iff]
    intro hh
    simp only [Bool.and_eq_true, beq_iff_eq] at hh
    omega
  have C1 := hideP c1
  clear c1 hX h eX h0 h1 h2 h3
  go_enter Tryd.func73, Tryd.ntmps73
  go_wp2_with fail
  refine at_world_t (fun W0 hW0 => ?_)
  have HBx : W0.heap[w.heap.size]? = some (.cells #[.int .u64 (x0 : Int), .int .u64 (x1 : Int), .int .u64 (x2 : Int), .int .u64 (x3 : Int)] 30 (0, 0)) := by
    rw [hW0]
    exact heap_new _ _
  have HBW : Hid (Below w.heap.size w W0) := by
    show Below _ _ _
    rw [hW0]
    exact ((Below.refl _ w).alloc (Nat.le_refl _) _)
  clear hW0
  obtain ⟨cx0, cx1, cx2, cx3⟩ := cells4 HBx
  have hlx := lt_of_block HBx
  refine wp_region_heldS (S := fun V => Below W0.heap.size W0 V) (by kernel_rfl) (Below.refl _ _).drew (fun hS => ?_)
  refine wpAnyH_takeL (i := 0) (v := ?_) rfl (by kernel_rfl) (by kernel_rfl) (by kernel_rfl) (fun _ _ _ h => h) (Or.inl ⟨by kernel_rfl, ?_⟩) hS ?_
  rotate_left
  · intro V hV
    have k0 := (hV.cell (p := ⟨w.heap.size, 0, none⟩) hlx).trans cx0
    have k1 := (hV.cell (p := ⟨w.heap.size, 1, none⟩) hlx).trans cx1
    have k2 := (hV.cell (p := ⟨w.heap.size, 2, none⟩) hlx).trans cx2
    have k3 := (hV.cell (p := ⟨w.heap.size, 3, none⟩) hlx).trans cx3
    go_simp
    (try with_reducible rfl)
  simp only [put_list, List.set_cons_succ, List.set_cons_zero]
  refine wpAnyH_takeL (i := 1) (v := ?_) rfl (by kernel_rfl) (by kernel_rfl) (by kernel_rfl) (fun _ _ _ h => h) (Or.inl ⟨by kernel_rfl, ?_⟩) hS ?_
  rotate_left
  · intro V hV
    go_simp
    (try with_reducible rfl)
  simp only [put_list, List.set_cons_succ, List.set_cons_zero]
  refine wpAnyH_takeL (i := 2) (v := ?_) rfl (by kernel_rfl) (by kernel_rfl) (by kernel_rfl) (fun _ _ _ h => h) (Or.inl ⟨by kernel_rfl, ?_⟩) hS ?_
  rotate_left
  · intro V hV
    have k0 := (hV.cell (p := ⟨w.heap.size, 0, none⟩) hlx).trans cx0
    go_simp
    (try with_reducible rfl)
  simp only [put_list, List.set_cons_succ, List.set_cons_zero]
  refine wpAnyH_ready (rs := [3]) (by kernel_rfl) (by simp) (AllReadyH.cons rfl (fun K hK => ?_) AllReadyH.nil)
  go_simp
  refine (C1.out _).mono ?_
  rintro e U1 ⟨rfl, hbc⟩
  refine hK.out _ _ (hS.trans (hbc.mono hS.size)) (fun hS => ?_)
  clear hK K hbc
  refine wpAnyH_takeL (i := 4) (v := ?_) rfl (by kernel_rfl) (by kernel_rfl) (by kernel_rfl) (fun _ _ _ h => h) (Or.inl ⟨by kernel_rfl, ?_⟩) hS ?_
  rotate_left
  · intro V hV
    go_simp
    (try with_reducible rfl)
  simp only [put_list, List.set_cons_succ, List.set_cons_zero]
  refine wpAnyH_done (by kernel_rfl) ?_ _
  have q0 := (hS.cell (p := ⟨w.heap.size, 0, none⟩) hlx).trans cx0
  clear cx0 cx1 cx2 cx3
  go_wp2_with fail
  refine bodyPost_ret (v := .tuple #[.int .u64 0, .bool false]) (by simp [results, Tryd.results73, go_sem]) rfl ⟨rfl, HBW.out.trans (hS.mono HBW.out.size)⟩

theorem get4 (g : Nat → Nat) {j : Nat} (h : j < 4) : (#[.int .u64 (g 0), .int .u64 (g 1), .int .u64 (g 2), .int .u64 (g 3)] : Array Value)[j]? = some (.int .u64 (g j)) := by
  match j, h with
  | 0, _ => rfl
  | 1, _ => rfl
  | 2, _ => rfl
  | 3, _ => rfl

theorem top_zero_m {N m : Nat} (hN : N < 18446744073709551616 ^ m) : ∀ (d n : Nat), n + d = m → (∀ j, n ≤ j → j < m → limb N j = 0) → N < 18446744073709551616 ^ n := by
  intro d
  induction d with
  | zero => intro n h _; rwa [show n = m by omega]
  | succ d ih =>
    intro n h hz
    have h1 := ih (n + 1) (by omega) (fun j h1 h2 => hz j (by omega) h2)
    have h2 := hz n (Nat.le_refl _) (by omega)
    unfold limb at h2
    rw [Nat.mod_eq_of_lt (by rw [Nat.div_lt_iff_lt_mul (Nat.pow_pos (by decide)), Nat.mul_comm, ← Nat.pow_succ]; exact h1)] at h2
    exact (Nat.div_eq_zero_iff_lt (Nat.pow_pos (by decide))).1 h2

/-- How many bits a number has: the top limb's, and 64 for each limb below it. -/
theorem bits_lt {Z j : Nat} (ht : Z < 18446744073709551616 ^ (j + 1)) : Z < 2 ^ (64 * j + Lib.bitLen (limb Z j)) := by
  have hl := limb_lt Z j
  have hb := bitLen_upper _ (limb Z j) (by simpa using hl) (Nat.le_refl _)
  have hd : Z / 18446744073709551616 ^ j = limb Z j := by
    unfold limb
    rw [Nat.mod_eq_of_lt]
    rw [Nat.div_lt_iff_lt_mul (Nat.pow_pos (by decide)), Nat.mul_comm, ← Nat.pow_succ]
    exact ht
  have h2 : Z < (limb Z j + 1) * 18446744073709551616 ^ j := by
    rw [← hd]
    have := Nat.lt_mul_div_succ Z (Nat.pow_pos (n := j) (show 0 < 18446744073709551616 by decide))
    rw [Nat.mul_comm]
    exact this
  refine Nat.lt_of_lt_of_le h2 ?_
  rw [Nat.pow_add, Nat.mul_comm, show (18446744073709551616 : Nat) = 2 ^ 64 by decide, ← Nat.pow_mul]
  exact Nat.mul_le_mul_left _ hb

/-- How many bits a number has, from below. -/
theorem bits_ge {Z j : Nat} (hnz : limb Z j ≠ 0) : 2 ^ (64 * j + Lib.bitLen (limb Z j) - 1) ≤ Z := by
  have hl := limb_lt Z j
  obtain ⟨h1, h2⟩ := bitLen_pos (x := limb Z j) (by omega) hl
  have hb := bitLen_lower (x := limb Z j) (k := Lib.bitLen (limb Z j) - 1) (by omega) (by omega)
  have hd : limb Z j ≤ Z / 18446744073709551616 ^ j := Nat.mod_le _ _
  have h3 : limb Z j * 18446744073709551616 ^ j ≤ Z := Nat.le_trans (Nat.mul_le_mul_right _ hd) (Nat.div_mul_le_self _ _)
  refine Nat.le_trans ?_ h3
  rw [show 64 * j + Lib.bitLen (limb Z j) - 1 = (Lib.bitLen (limb Z j) - 1) + 64 * j by omega, Nat.pow_add, show (18446744073709551616 : Nat) = 2 ^ 64 by decide, ← Nat.pow_mul]
  exact Nat.mul_le_mul_right _ hb

set_option maxHeartbeats 1000000 in
set_option maxRecDepth 100000 in
theorem bits_any (Y : Nat) (w : World) : Calls Tryd.prog 69 #[wv Y] w fun e w' => (∃ n : Nat, e = .returned (.int .i64 n) ∧ n ≤ 256 ∧ Y % M256 < 2 ^ n ∧ (0 < n → 2 ^ (n - 1) ≤ Y % M256)) ∧ Below w.heap.size w w' := by
  rw [← wv_mod Y]
  obtain ⟨Z, hZ⟩ : ∃ Z, Z = Y % M256 := ⟨_, rfl⟩
  have hZ4 : Z < 18446744073709551616 ^ 4 := by rw [hZ]; exact Nat.lt_of_lt_of_le (Nat.mod_lt _ M256_pos) (by decide)
  rw [← hZ, wv_limb]
  clear hZ
  have hu := fun W (h : ∀ j, j < 4 → W.cell? ⟨w.heap.size, j, none⟩ = some (.int .u64 (limb Z j))) => used_any W (w.heap.size) 4 4 (limb Z) (by omega) h
  have HU := hideP hu
  have HZ := hideP hZ4
  clear hu hZ4
  go_enter Tryd.func69, Tryd.ntmps69
  go_wp2_with fail
  refine (HU.out _ (fun j hj => ?_)).mono ?_
  · match j, hj with
    | 0, _ => exact blk_cell (heap_new _ _) rfl
    | 1, _ => exact blk_cell (heap_new _ _) rfl
    | 2, _ => exact blk_cell (heap_new _ _) rfl
    | 3, _ => exact blk_cell (heap_new _ _) rfl
  rintro e W1 ⟨⟨k, rfl, hk, hz, hnz⟩, rfl⟩
  by_cases h0 : k = 0
  · subst h0
    have hZ0 : Z < 18446744073709551616 ^ 0 := top_zero_m HZ.out 4 0 (by omega) hz
    have HZ0 := hideP hZ0
    clear hz hnz hk hZ0
    go_wp2_with fail
    go_ret
    refine ⟨⟨0, rfl, by omega, by simpa using HZ0.out, fun h => by omega⟩, ?_⟩
    repeat first | exact Below.refl _ _ | apply Below.drew | (refine Below.alloc ?_ (by simp <;> omega) _) | (refine Below.setCell ?_ (by simp <;> omega) _)
  · obtain ⟨j, rfl⟩ : ∃ j, k = j + 1 := ⟨k - 1, by omega⟩
    have ht : Z < 18446744073709551616 ^ (j + 1) := top_zero_m HZ.out (4 - (j + 1)) (j + 1) (by omega) hz
    have hn := hnz (by omega)
    simp only [Nat.add_sub_cancel] at hn
    have hl := limb_lt Z j
    obtain ⟨p1, p2⟩ := bitLen_pos (x := limb Z j) (by omega) hl
    have HR : Hid (64 * j + Lib.bitLen (limb Z j) ≤ 256 ∧ Z < 2 ^ (64 * j + Lib.bitLen (limb Z j)) ∧ 2 ^ (64 * j + Lib.bitLen (limb Z j) - 1) ≤ Z) := ⟨by omega, bits_lt ht, bits_ge hn⟩
    have hlen := fun W => len64_any (limb Z j) W hl
    have HLEN := hideP hlen
    have cj' : (w.alloc (.cells #[.int .u64 (limb Z 0), .int .u64 (limb Z 1), .int .u64 (limb Z 2), .int .u64 (limb Z 3)] 30)).cell? ⟨w.heap.size, j, none⟩ = some (.int .u64 (limb Z j)) := blk_cell (heap_new _ _) (get4 _ (by omega))
    generalize Lib.bitLen (limb Z j) = bl at HR HLEN p1 p2
    have e0 : IntKind.i64.wrap ((j : Int) + 1 - 1) = (j : Int) := by rw [IntKind.wrap_i64]; omega
    have e0' : IntKind.i64.wrap (j : Int) = (j : Int) := by rw [IntKind.wrap_i64]; omega
    have e1 : IntKind.i64.wrap (64 * (j : Int)) = 64 * (j : Int) := by rw [IntKind.wrap_i64]; omega
    have e2 : IntKind.i64.wrap (64 * (j : Int) + bl) = 64 * (j : Int) + bl := by rw [IntKind.wrap_i64]; omega
    have hj4 : (j : Int) < 4 := by omega
    have hj0 : ¬ ((j : Int) + 1 = 0) := by omega
    clear hz hnz hk ht hn hl hlen h0
    go_wp2_with (go_at_call 85; refine (HLEN.out _).mono ?_; rintro e w' ⟨rfl, rfl⟩)
    go_ret
    refine ⟨⟨64 * j + bl, by simp, HR.out.1, HR.out.2.1, fun _ => HR.out.2.2⟩, ?_⟩
    repeat first | exact Below.refl _ _ | apply Below.drew | (refine Below.alloc ?_ (by simp <;> omega) _) | (refine Below.setCell ?_ (by simp <;> omega) _)

theorem endRow {P : Program} {fn : Func} {R : Ending → World → Prop} {a : Act} {w : World} {id L R0 i j k ty ty1 ty2 : Nat} {C : Array Value} {d : TypeDesc} {pos1 pos2 aft1 aft2} (hf : fn.results = #[.cell j ty]) (hi : a.eval (.tmp i) = .pointer (some ⟨L, 0, none⟩)) (hj : a.eval (.tmp j) = .pointer (some ⟨R0, 0, none⟩)) (hjk : k ≠ j) (hk : k < a.tmps.size) (hd : a.defers = [])
    (hu : P.underlying ty = some d) (hr : d.isRow = true) (hs : (P.info? ty).map (·.size) = some C.size) (h1 : C.all (·.oneCell') = true)
    (hL : w.rangeAt L 0 C.toList) (hR : w.there R0 0 C.size) (h : ∀ wS, But R0 w wS → R (.returned (.agg C)) wS) :
    ((Code.region id #[{ dst := some k, op := .load ty (.tmp i), type := ty1, pos := pos1, after := aft1, guard := none }, { dst := none, op := .store ty (.tmp j) (.tmp k), type := ty2, pos := pos2, after := aft2, guard := none }] false).seq .ret).wp P (bodyPost P fn R) a w := by
  refine wp_seq ?_
  refine wp_region_list ?_
  have hj' : (a.put (some k) (.agg C)).eval (.tmp j) = .pointer (some ⟨R0, 0, none⟩) := by rw [put_ne _ _ hjk, hj]
  have hs' : (P.info? ty).map (·.size) = some C.toList.length := by rw [Array.length_toList]; exact hs
  refine wpList_load_mid rfl ty (.tmp i) rfl L 0 hi C.toList _ hL hu hr hs' ?_
  refine wpList_store_mid rfl ty (.tmp j) (.tmp k) rfl R0 0 C hj' (put_same _ _ _ hk) hR hs h1 ?_
  refine wpList_nil ?_
  refine wp_ret ?_
  have hb := World.rangeAt_setCells_same w R0 0 C.toList (by rw [Array.length_toList]; exact hR)
  exact bodyPost_ret_by (results_cell hf hj' (run_loadVar_mid _ R0 0 ty C.toList _ hb hu hr hs')) hd (h _ (But.sets _ _ (But.refl _ _)))

theorem rangeOf {w : World} {b t : Nat} {C : Array Value} (h : w.heap[b]? = some (.cells C t (0, 0))) : w.rangeAt b 0 C.toList := fun j v hv =>
  blk_cell (o := 0 + j) (v := v) h (by rw [Nat.zero_add]; rw [Array.getElem?_toList] at hv; exact hv)

theorem thereOf {w : World} {b t : Nat} {C : Array Value} (h : w.heap[b]? = some (.cells C t (0, 0))) : w.there b 0 C.size := fun j hj =>
  ⟨(rangeOf h).isSome j (by rw [Array.length_toList]; exact hj), blk_free h⟩

/-- Four cells. -/
def c4 (g : Nat → Nat) : Array Value := #[.int .u64 (g 0), .int .u64 (g 1), .int .u64 (g 2), .int .u64 (g 3)]

theorem wv_c4 (X : Nat) : wv X = .agg (c4 (limb X)) := wv_limb X

theorem cget4 (g : Nat → Nat) {j : Nat} (h : j < 4) : (c4 g)[j]? = some (.int .u64 (g j)) := by
  match j, h with
  | 0, _ => rfl
  | 1, _ => rfl
  | 2, _ => rfl
  | 3, _ => rfl
  | k + 4, h => exact absurd h (by omega)

/-- A number below a limit, or the limit. -/
def smallN (X n : Nat) : Nat := if X % M256 < n then X % M256 else n

set_option maxHeartbeats 2000000 in
set_option maxRecDepth 100000 in
theorem refSmall_any (X n : Nat) (hn : n < 2147483648) (w : World) : Calls Tryd.prog 83 #[wv X, .int .i64 n] w fun e w' => e = .returned (.int .i64 (smallN X n)) ∧ Below w.heap.size w w' := by
  obtain ⟨x0, x1, x2, x3, h0, h1, h2, h3, e, hx⟩ := wv_limbs X
  have e1 : IntKind.u64.wrap (n : Int) = (n : Int) := by rw [IntKind.wrap_u64]; omega
  have HL : Hid (Below w.heap.size w (w.alloc (.cells #[.int .u64 x0, .int .u64 x1, .int .u64 x2, .int .u64 x3] 29 (0, 0)))) := (Below.refl _ _).alloc (Nat.le_refl _) _
  unfold smallN
  rw [e, hx]
  clear hx e
  by_cases b : x1 = 0
  · subst b
    by_cases c : x2 = 0
    · subst c
      by_cases d : x3 = 0
      · subst d
        have hv : num x0 0 0 0 = x0 := by unfold num; omega
        rw [hv]
        clear hv
        by_cases f : x0 < n
        · rw [if_pos f]
          have f1 : (x0 : Int) < (n : Int) := by omega
          have f2 : ¬ (n : Int) ≤ (x0 : Int) := by omega
          have f3 : IntKind.i64.wrap (x0 : Int) = (x0 : Int) := by rw [IntKind.wrap_i64]; omega
          clear f h0 h1 h2 h3 hn
          go_enter Tryd.func83, Tryd.ntmps83
          go_wp2_with fail
          go_ret
          exact ⟨rfl, HL.out⟩
        · rw [if_neg f]
          have f2 : (n : Int) ≤ (x0 : Int) := by omega
          have f1 : ¬ (x0 : Int) < (n : Int) := by omega
          clear f h0 h1 h2 h3 hn
          go_enter Tryd.func83, Tryd.ntmps83
          go_wp2_with fail
          go_ret
          exact ⟨rfl, HL.out⟩
      · rw [if_neg (by unfold num; omega)]
        have d' : ((x3 : Int) == 0) = false := by simp; omega
        have d2 : ¬ (x3 : Int) = 0 := by omega
        clear d h0 h1 h2 h3 hn
        go_enter Tryd.func83, Tryd.ntmps83
        go_wp2_with fail
        go_ret
        exact ⟨rfl, HL.out⟩
    · rw [if_neg (by unfold num; omega)]
      have d' : ((x2 : Int) == 0) = false := by simp; omega
      have d2 : ¬ (x2 : Int) = 0 := by omega
      clear c h0 h1 h2 h3 hn
      go_enter Tryd.func83, Tryd.ntmps83
      go_wp2_with fail
      go_ret
      exact ⟨rfl, HL.out⟩
  · rw [if_neg (by unfold num; omega)]
    have d' : ((x1 : Int) == 0) = false := by simp; omega
    have d2 : ¬ (x1 : Int) = 0 := by omega
    clear b h0 h1 h2 h3 hn
    go_enter Tryd.func83, Tryd.ntmps83
    go_wp2_with fail
    go_ret
    exact ⟨rfl, HL.out⟩

theorem put_none (a : Act) (v : Value) : a.put none v = a := rfl

/-- A byte of a number. -/
def byt (X k : Nat) : Nat := X / 2 ^ (8 * k) % 256

theorem byt_lt (X k : Nat) : byt X k < 256 := Nat.mod_lt _ (by decide)

theorem limb_byt (X k : Nat) : limb X (k / 8) / 2 ^ (8 * (k % 8)) % 256 = byt X k := by
  unfold limb byt
  have h := Nat.mod_lt k (show 0 < 8 by decide)
  have e1 : (2 : Nat) ^ (8 * k) = 18446744073709551616 ^ (k / 8) * 2 ^ (8 * (k % 8)) := by
    rw [show (18446744073709551616 : Nat) = 2 ^ 64 by decide, ← Nat.pow_mul, ← Nat.pow_add]
    congr 1
    omega
  rw [e1, ← Nat.div_div_eq_div_mul]
  generalize X / 18446744073709551616 ^ (k / 8) = x
  have e2 : (18446744073709551616 : Nat) = 2 ^ (8 * (k % 8)) * 2 ^ (64 - 8 * (k % 8)) := by
    rw [← Nat.pow_add, show 8 * (k % 8) + (64 - 8 * (k % 8)) = 64 by omega]
  rw [e2, Nat.mod_mul_right_div_self, show (256 : Nat) = 2 ^ 8 by decide]
  exact Nat.mod_mod_of_dvd _ (Nat.pow_dvd_pow 2 (by omega))

/-- Thirty-two cells. -/
def c32 (g : Nat → Nat) : Array Value := #[.int .u8 (g 0), .int .u8 (g 1), .int .u8 (g 2), .int .u8 (g 3), .int .u8 (g 4), .int .u8 (g 5), .int .u8 (g 6), .int .u8 (g 7), .int .u8 (g 8), .int .u8 (g 9), .int .u8 (g 10), .int .u8 (g 11), .int .u8 (g 12), .int .u8 (g 13), .int .u8 (g 14), .int .u8 (g 15), .int .u8 (g 16), .int .u8 (g 17), .int .u8 (g 18), .int .u8 (g 19), .int .u8 (g 20), .int .u8 (g 21), .int .u8 (g 22), .int .u8 (g 23), .int .u8 (g 24), .int .u8 (g 25), .int .u8 (g 26), .int .u8 (g 27), .int .u8 (g 28), .int .u8 (g 29), .int .u8 (g 30), .int .u8 (g 31)]

theorem get32 (g : Nat → Nat) {j : Nat} (h : j < 32) : (c32 g)[j]? = some (.int .u8 (g j)) := by
  match j, h with
  | 0, _ => rfl
  | 1, _ => rfl
  | 2, _ => rfl
  | 3, _ => rfl
  | 4, _ => rfl
  | 5, _ => rfl
  | 6, _ => rfl
  | 7, _ => rfl
  | 8, _ => rfl
  | 9, _ => rfl
  | 10, _ => rfl
  | 11, _ => rfl
  | 12, _ => rfl
  | 13, _ => rfl
  | 14, _ => rfl
  | 15, _ => rfl
  | 16, _ => rfl
  | 17, _ => rfl
  | 18, _ => rfl
  | 19, _ => rfl
  | 20, _ => rfl
  | 21, _ => rfl
  | 22, _ => rfl
  | 23, _ => rfl
  | 24, _ => rfl
  | 25, _ => rfl
  | 26, _ => rfl
  | 27, _ => rfl
  | 28, _ => rfl
  | 29, _ => rfl
  | 30, _ => rfl
  | 31, _ => rfl
  | k + 32, h => exact absurd h (by omega)

theorem set32 (g : Nat → Nat) {j : Nat} (v : Nat) (h : j < 32) : (c32 g).setIfInBounds j (.int .u8 v) = c32 (fun i => if i = j then v else g i) := by
  match j, h with
  | 0, _ => rfl
  | 1, _ => rfl
  | 2, _ => rfl
  | 3, _ => rfl
  | 4, _ => rfl
  | 5, _ => rfl
  | 6, _ => rfl
  | 7, _ => rfl
  | 8, _ => rfl
  | 9, _ => rfl
  | 10, _ => rfl
  | 11, _ => rfl
  | 12, _ => rfl
  | 13, _ => rfl
  | 14, _ => rfl
  | 15, _ => rfl
  | 16, _ => rfl
  | 17, _ => rfl
  | 18, _ => rfl
  | 19, _ => rfl
  | 20, _ => rfl
  | 21, _ => rfl
  | 22, _ => rfl
  | 23, _ => rfl
  | 24, _ => rfl
  | 25, _ => rfl
  | 26, _ => rfl
  | 27, _ => rfl
  | 28, _ => rfl
  | 29, _ => rfl
  | 30, _ => rfl
  | 31, _ => rfl
  | k + 32, h => exact absurd h (by omega)

theorem c32_congr {f g : Nat → Nat} (h : ∀ j, j < 32 → f j = g j) : c32 f = c32 g := by
  unfold c32
  rw [h 0 (by decide), h 1 (by decide), h 2 (by decide), h 3 (by decide), h 4 (by decide), h 5 (by decide), h 6 (by decide), h 7 (by decide), h 8 (by decide), h 9 (by decide), h 10 (by decide), h 11 (by decide), h 12 (by decide), h 13 (by decide), h 14 (by decide), h 15 (by decide), h 16 (by decide), h 17 (by decide), h 18 (by decide), h 19 (by decide), h 20 (by decide), h 21 (by decide), h 22 (by decide), h 23 (by decide), h 24 (by decide), h 25 (by decide), h 26 (by decide), h 27 (by decide), h 28 (by decide), h 29 (by decide), h 30 (by decide), h 31 (by decide)]

theorem under52 : Tryd.prog.underlying 112 = some (.array 32 5) := by kernel_rfl

theorem size52 : (Tryd.prog.info? 112).map (·.size) = some 32 := by kernel_rfl

theorem oneCell32 (g : Nat → Nat) : (c32 g).all (·.oneCell') = true := by simp [c32, Value.oneCell']

theorem zero32 : (#[.int .u8 0, .int .u8 0, .int .u8 0, .int .u8 0, .int .u8 0, .int .u8 0, .int .u8 0, .int .u8 0, .int .u8 0, .int .u8 0, .int .u8 0, .int .u8 0, .int .u8 0, .int .u8 0, .int .u8 0, .int .u8 0, .int .u8 0, .int .u8 0, .int .u8 0, .int .u8 0, .int .u8 0, .int .u8 0, .int .u8 0, .int .u8 0, .int .u8 0, .int .u8 0, .int .u8 0, .int .u8 0, .int .u8 0, .int .u8 0, .int .u8 0, .int .u8 0] : Array Value) = c32 (fun _ => 0) := rfl

theorem there32 {w : World} {b t : Nat} {g : Nat → Nat} (h : w.heap[b]? = some (.cells (c32 g) t (0, 0))) : w.there b 0 32 := thereOf h

/-- Where the bytes have come to. -/
structure YI (t : Nat) (w wr : World) (A k : Nat) : Prop where
  x : wr.heap[w.heap.size]? = some (.cells (c4 (limb A)) t (0, 0))
  r : wr.heap[w.heap.size + 1]? = some (.cells (c32 (fun _ => 0)) 112 (0, 0))
  o : ∃ g : Nat → Nat, wr.heap[w.heap.size + 1 + 1]? = some (.cells (c32 g) 112 (0, 0)) ∧ ∀ j, j < 32 → 32 - k ≤ j → g j = byt A (31 - j)
  b : Below w.heap.size w wr

theorem YI.put {t : Nat} {w wr : World} {A k : Nat} (I : YI t w wr A k) (hk : k < 32) : YI t w (wr.setCell ⟨w.heap.size + 1 + 1, 31 - k, none⟩ (.int .u8 (byt A k))) A (k + 1) := by
  obtain ⟨g, hg, hj⟩ := I.o
  have o1 : ∀ b, b ≠ w.heap.size + 1 + 1 → (wr.setCell ⟨w.heap.size + 1 + 1, 31 - k, none⟩ (.int .u8 (byt A k))).heap[b]? = wr.heap[b]? := fun b h => Below.heap_setCell wr _ _ b h
  refine ⟨(o1 _ (by omega)).trans I.x, (o1 _ (by omega)).trans I.r, ⟨fun i => if i = 31 - k then byt A k else g i, ?_, fun j h1 h2 => ?_⟩, I.b.setCell (p := ⟨w.heap.size + 1 + 1, 31 - k, none⟩) (by simp <;> omega) _⟩
  · have := blk_set (o := 31 - k) hg (.int .u8 (byt A k))
    rw [set32 g _ (by omega)] at this
    exact this
  · show (if j = 31 - k then byt A k else g j) = _
    by_cases h : j = 31 - k
    · rw [if_pos h, h, show 31 - (31 - k) = k by omega]
    · rw [if_neg h]; exact hj j h1 (by omega)

theorem YI.done {t : Nat} {w wr : World} {A : Nat} (I : YI t w wr A 32) : wr.heap[w.heap.size + 1 + 1]? = some (.cells (c32 (fun j => byt A (31 - j))) 112 (0, 0)) := by
  obtain ⟨g, hg, hj⟩ := I.o
  rw [hg, c32_congr (fun j h => hj j h (by omega))]

theorem YI.start (t : Nat) (w : World) (A : Nat) : YI t w (((w.alloc (.cells (c4 (limb A)) t (0, 0))).alloc (.cells (c32 (fun _ => 0)) 112 (0, 0))).alloc (.cells (c32 (fun _ => 0)) 112 (0, 0))) A 0 := by
  refine ⟨?_, ?_, ⟨fun _ => 0, ?_, fun j h1 h2 => absurd h2 (by omega)⟩, ?_⟩
  · simp only [World.alloc, Array.getElem?_push, Array.size_push]; simp [Nat.add_assoc]
  · simp only [World.alloc, Array.getElem?_push, Array.size_push]; simp
  · simp only [World.alloc, Array.getElem?_push, Array.size_push]; simp
  · repeat first | exact Below.refl _ _ | (refine Below.alloc ?_ (by simp <;> omega) _)

/-- A word's bytes. -/
def b32 (X : Nat) : Value := .agg (c32 (fun j => byt X (31 - j)))

set_option maxHeartbeats 4000000 in
set_option maxRecDepth 100000 in
theorem refBytes_any (X : Nat) (w : World) : Calls Tryd.prog 86 #[wv X] w fun e w' => e = .returned (b32 X) ∧ Below w.heap.size w w' := by
  have HE := hideP (YI.start 29 w X)
  rw [wv_c4]
  generalize hres : b32 X = res
  have HRES := hideP hres
  clear hres
  generalize hcx : c4 (limb X) = cx at HE ⊢
  clear hcx
  rw [← zero32] at HE
  go_enter Tryd.func86, Tryd.ntmps86
  go_wp2_with fail
  generalize ((w.alloc (.cells cx 29 (0, 0))).alloc (.cells #[.int .u8 0, .int .u8 0, .int .u8 0, .int .u8 0, .int .u8 0, .int .u8 0, .int .u8 0, .int .u8 0, .int .u8 0, .int .u8 0, .int .u8 0, .int .u8 0, .int .u8 0, .int .u8 0, .int .u8 0, .int .u8 0, .int .u8 0, .int .u8 0, .int .u8 0, .int .u8 0, .int .u8 0, .int .u8 0, .int .u8 0, .int .u8 0, .int .u8 0, .int .u8 0, .int .u8 0, .int .u8 0, .int .u8 0, .int .u8 0, .int .u8 0, .int .u8 0] 112 (0, 0))).alloc (.cells #[.int .u8 0, .int .u8 0, .int .u8 0, .int .u8 0, .int .u8 0, .int .u8 0, .int .u8 0, .int .u8 0, .int .u8 0, .int .u8 0, .int .u8 0, .int .u8 0, .int .u8 0, .int .u8 0, .int .u8 0, .int .u8 0, .int .u8 0, .int .u8 0, .int .u8 0, .int .u8 0, .int .u8 0, .int .u8 0, .int .u8 0, .int .u8 0, .int .u8 0, .int .u8 0, .int .u8 0, .int .u8 0, .int .u8 0, .int .u8 0, .int .u8 0, .int .u8 0] 112 (0, 0)) = W2 at HE ⊢
  rename_i Q' K hK
  have HK := hideP hK
  clear hK
  go_loopw [4] (fun i wr => ∃ (k : Nat), k ≤ 32 ∧ i = .int .i64 k ∧ YI 29 w wr X k) (fun i _ => 32 - (intOf i).toNat)
  case atStart => exact ⟨0, Nat.zero_le _, rfl, HE.out⟩
  case round =>
    obtain ⟨k, hk, rfl, I⟩ := hrel
    have HI := hideP I
    clear I HE
    by_cases hlt : k < 32
    · have HN : Hid (k < 32) := hlt
      have cx := blk_cell HI.out.x (cget4 (limb X) (show k / 8 < 4 by omega))
      have fo : ∀ o, wr.frozen? ⟨w.heap.size + 1 + 1, o, none⟩ = false := fun o => blk_free HI.out.o.choose_spec.1
      have co := blk_cell HI.out.o.choose_spec.1 (get32 _ (show 31 - k < 32 by omega))
      have HP := hideP (HI.out.put hlt)
      have hv := limb_byt X k
      have hll := limb_lt X (k / 8)
      have hbl := byt_lt X k
      have g1 : (k : Int) < 32 := by omega
      have e0 : IntKind.i64.wrap (31 - (k : Int)) = ((31 - k : Nat) : Int) := by rw [IntKind.wrap_i64]; omega
      have g2 : ((31 - k : Nat) : Int) < 32 := by omega
      have e1 : ((k : Int)).tdiv 8 = ((k / 8 : Nat) : Int) := by rw [Int.tdiv_eq_ediv_of_nonneg (by omega)]; omega
      have e1' : IntKind.i64.wrap ((k / 8 : Nat) : Int) = ((k / 8 : Nat) : Int) := by rw [IntKind.wrap_i64]; omega
      have g3 : ((k / 8 : Nat) : Int) < 4 := by omega
      have e2 : ((k : Int)).tmod 8 = ((k % 8 : Nat) : Int) := by rw [Int.tmod_eq_emod_of_nonneg (by omega)]; omega
      have e2' : IntKind.i64.wrap ((k % 8 : Nat) : Int) = ((k % 8 : Nat) : Int) := by rw [IntKind.wrap_i64]; omega
      have e3 : IntKind.i64.wrap (8 * ((k % 8 : Nat) : Int)) = ((8 * (k % 8) : Nat) : Int) := by rw [IntKind.wrap_i64]; omega
      have e3' : IntKind.u64.wrap ((8 * (k % 8) : Nat) : Int) = ((8 * (k % 8) : Nat) : Int) := by rw [IntKind.wrap_u64]; omega
      have g4 : ((8 * (k % 8) : Nat) : Int) < 64 := by omega
      have e4 : IntKind.i64.wrap ((k : Int) + 1) = (k : Int) + 1 := by rw [IntKind.wrap_i64]; omega
      have hq : ((limb X (k / 8) : Int) / 2 ^ (8 * (k % 8))) = ((limb X (k / 8) / 2 ^ (8 * (k % 8)) : Nat) : Int) := by simp
      have e6 : ((limb X (k / 8) : Int) / 2 ^ (8 * (k % 8))).tmod 256 = ((byt X k : Nat) : Int) := by
        rw [hq, Int.tmod_eq_emod_of_nonneg (Int.natCast_nonneg _), ← hv]; rfl
      have e5 : IntKind.u8.wrap ((limb X (k / 8) : Int) / 2 ^ (8 * (k % 8))) = ((byt X k : Nat) : Int) := by
        rw [hq, IntKind.wrap_u8, ← hv]; rfl
      have e7 : IntKind.u8.wrap ((byt X k : Nat) : Int) = ((byt X k : Nat) : Int) := by rw [IntKind.wrap_u8]; omega
      clear hlt hk hv hll hbl hq
      generalize limb X (k / 8) = lx at *
      generalize byt X k = bk at *
      generalize k / 8 = kq at *
      generalize 8 * (k % 8) = sh at *
      generalize k % 8 = kr at *
      generalize 31 - k = kt at *
      go_wp2_with fail
      refine ⟨⟨k + 1, HN.out, by go_num, HP.out⟩, by have := HN.out; simp [intOf]; omega⟩
    · have hk6 : k = 32 := by omega
      subst hk6
      have g1 : ¬ ((32 : Nat) : Int) < 32 := by decide
      clear hlt hk
      go_wp2_with fail
      refine HK.out _ _ ?_
      refine endRow (C := c32 (fun j => byt X (31 - j))) rfl rfl rfl (by decide) (by show 23 < 24; decide) rfl under52 rfl size52 (oneCell32 _) (rangeOf HI.out.done) (there32 HI.out.r) ?_
      intro wS h
      exact ⟨by rw [← HRES.out]; rfl, HI.out.b.trans (h.below.mono (by omega))⟩

theorem putAll32 (g' g : Nat → Nat) : putAll (c32 g') 0 (c32 g).toList = c32 g := by
  simp [c32, putAll]

theorem Tryd.bytes5 : (Tryd.prog.info? 5).map (fun i => (i.zero, i.size, i.bytes)) = some (some (.int .u8 0), 1, 1) := by kernel_rfl

/-- The last bytes of an array of 32. -/
theorem slice32 (B a : Nat) (ha : a ≤ 32) : ∃ sp, (a < 32 → sp = a) ∧ ∀ W : World, (Instr.sliceAt 112 (.pointer (some ⟨B, 0, none⟩)) (some (.int .i64 (a : Int))) none none).run Tryd.prog W = .ok (.slice (some ⟨B, sp, none⟩) (32 - a) (32 - a)) W := by
  refine ⟨if a = 32 then 0 else a, fun h => if_neg (by omega), fun W => ?_⟩
  have hl : Tryd.prog.arrayLen 112 = 32 := by kernel_rfl
  have hs : (sizeOf (Tryd.prog.elem 112)).run Tryd.prog W = .ok 1 W := by kernel_rfl
  rw [run_sliceAt_array_l (P := Tryd.prog) W 112 ⟨B, 0, none⟩ (by kernel_rfl) .i64 (a : Int) (by omega) (by rw [hl]; omega), hs, hl]
  have h1 : ((a : Int)).toNat = a := by omega
  by_cases h : a = 32
  · subst h; simp [Result.andThen, slicedAt]
  · have h3 : ¬ (32 = a) := by omega
    simp [Result.andThen, slicedAt, h1, h, h3, Addr.add]
    exact fun h => h.symm

/-- So many bytes a number has without leading noughts. -/
structure LB (X n : Nat) : Prop where
  le : n ≤ 32
  lt : X % M256 < 2 ^ (8 * n)
  ge : 0 < n → 2 ^ (8 * (n - 1)) ≤ X % M256

/-- The n lowest bytes, the highest first. -/
def lowB (X n : Nat) : Nat → Nat := fun j => byt X (n - 1 - j)

/-- A row whose bytes are the least ones of a number. -/
structure LRow (w : World) (X : Nat) (v : Value) : Prop where
  ex : ∃ n cap g off, v = .slice (some ⟨g, off, none⟩) n cap ∧ LB X n ∧ g < w.heap.size ∧ ∀ j, j < n → w.cell? ⟨g, off + j, none⟩ = some (.int .u8 (lowB X n j))

/-- Bytes behind an empty slice: a row of their own. -/
theorem append_fresh (w : World) (ty B : Nat) (hB : B < w.heap.size) (ao : Option Addr) (n c : Nat) (hn : n ≤ 140737488355328) (bs : Nat → Nat) (hc : ∀ j, j < n → ∃ ad, ao = some ad ∧ w.cell? (ad.add j) = some (.int .u8 (bs j))) (h0 : n = 0 → ao = none → c = 0) :
    ∃ g cap w', (Builtin.append_ #[38, 38] ty #[.slice (some ⟨B, 0, none⟩) 0 0, .slice ao n c]).run Tryd.prog w = .ok (.slice (some ⟨g, 0, none⟩) n cap) w' ∧ g < w'.heap.size ∧ (∀ j, j < n → w'.cell? ⟨g, j, none⟩ = some (.int .u8 (bs j))) ∧ Below w.heap.size w w' := by
  obtain ⟨i0, hi, hz0, hz1, hz2⟩ := info_parts Tryd.bytes5
  have hlen : ((List.range n).map (fun j => Value.int .u8 (bs j))).length = n := by simp
  have hone : ∀ u ∈ (List.range n).map (fun j => Value.int .u8 (bs j)), u.oneCell' = true := by
    intro v hv
    simp only [List.mem_map] at hv
    obtain ⟨x, _, rfl⟩ := hv
    rfl
  by_cases hz : n = 0
  · subst hz
    refine ⟨B, 0, w, ?_, hB, fun j hj => absurd hj (by omega), Below.refl _ _⟩
    cases ao with
    | none => exact run_append_nothing (P := Tryd.prog) w 38 38 ty 5 i0 Tryd.underlying38 hi _ 0 0 (Nat.le_refl _) _ (Src.ofNil w Tryd.underlying38 c)
    | some a => exact run_append_nothing (P := Tryd.prog) w 38 38 ty 5 i0 Tryd.underlying38 hi _ 0 0 (Nat.le_refl _) _ (Src.ofSlice w Tryd.underlying38 a 0 c [] (by simp) (fun j u h => by simp at h) (fun u h => by cases h))
  · obtain ⟨ad, rfl, _⟩ := hc 0 (by omega)
    have hs : Src Tryd.prog i0.size 38 (.slice (some ad) n c) n ((List.range n).map (fun j => Value.int .u8 (bs j))) w := by
      refine Src.ofSlice w Tryd.underlying38 ad n c _ (by rw [hlen, hz1, Nat.mul_one]) (fun j v hv => ?_) hone
      simp only [List.getElem?_map, Option.map_eq_some_iff] at hv
      obtain ⟨x, hx, rfl⟩ := hv
      obtain ⟨hj, rfl⟩ := List.getElem?_eq_some_iff.1 hx
      simp only [List.length_range] at hj
      obtain ⟨ad', e, h⟩ := hc j hj
      cases e
      rw [List.getElem_range]
      exact h
    have hcap : Builtin.nextslicecap (0 + n) 0 * i0.bytes ≤ 281474976710656 := by
      rw [hz2, Nat.zero_add]
      unfold Builtin.nextslicecap
      simp
      split <;> omega
    have hr := run_append_grow_src (P := Tryd.prog) w 38 38 ty 5 i0 (.int .u8 0) Tryd.underlying38 hi hz0 (some ⟨B, 0, none⟩) 0 0 [] (by
      exact run_firstCells_some w.drew i0.size 0 ⟨B, 0, none⟩ 0 0 [] (by simp) (fun j u h => by simp at h)) (.slice (some ad) n c) n _ hs (by omega) (by omega) hcap
    rw [Nat.zero_add, List.nil_append] at hr
    refine ⟨w.heap.size, _, _, hr, by simp, fun j hj => ?_, ?_⟩
    · refine blk_cell (heap_new w.drew _) ?_
      rw [Array.getElem?_append_left (by simp [hlen, hj]), List.getElem?_toArray]
      simp [hj]
    · exact ((Below.refl _ w).drew).alloc (Nat.le_refl _) _

theorem wpList_append_fresh {ops : Array Oper} {rest : List Oper} {o : Oper} {a : Act} {w : World} {Q : Exit → Act → World → Prop} (hgd : o.guard = none) (s x : Operand)
    (ho : o.op = .call { callee := .builtin .append, args := #[s, x], argTypes := #[38, 38] }) (B : Nat) (ao : Option Addr) (n c : Nat) (hs : a.eval s = .slice (some ⟨B, 0, none⟩) 0 0) (hx : a.eval x = .slice ao n c)
    (hB : B < w.heap.size) (hn : n ≤ 140737488355328) (bs : Nat → Nat) (hc : ∀ j, j < n → ∃ ad, ao = some ad ∧ w.cell? (ad.add j) = some (.int .u8 (bs j))) (h0 : n = 0 → ao = none → c = 0)
    (h : ∀ g cap w', g < w'.heap.size → (∀ j, j < n → w'.cell? ⟨g, j, none⟩ = some (.int .u8 (bs j))) → Below w.heap.size w w' → wpList Tryd.prog ops Q rest (a.put o.dst (.slice (some ⟨g, 0, none⟩) n cap)) w') :
    wpList Tryd.prog ops Q (o :: rest) a w := by
  refine wpList_plain hgd fun K hK => ?_
  obtain ⟨g, cap, w', hrun, h1, h2, h3⟩ := append_fresh w o.type B hB ao n c hn bs hc h0
  unfold Oper.wp
  simp [execOp, ho, resolve, invoke, builtin, hs, hx, hrun, Result.andThen]
  exact hK _ _ (h g cap w' h1 h2 h3)

theorem byt_split (X k : Nat) : X % 2 ^ (8 * (k + 1)) = X % 2 ^ (8 * k) + 2 ^ (8 * k) * byt X k := by
  unfold byt
  rw [show 8 * (k + 1) = 8 * k + 8 by omega, Nat.pow_add, show (2 : Nat) ^ 8 = 256 by decide, Nat.mod_mul]

theorem M256_pow : M256 = 2 ^ (8 * 32) := by decide

/-- The k highest bytes are noughts. -/
theorem high_noughts (X k : Nat) (hk : k ≤ 32) (h : ∀ j, j < k → byt X (31 - j) = 0) : X % M256 = X % 2 ^ (8 * (32 - k)) := by
  induction k with
  | zero => rw [M256_pow]
  | succ k ih =>
    rw [ih (by omega) (fun j hj => h j (by omega))]
    have e : 32 - k = 32 - (k + 1) + 1 := by omega
    rw [e, byt_split, show 32 - (k + 1) = 31 - k by omega, h k (by omega), Nat.mul_zero, Nat.add_zero]

theorem LB.ofNoughts {X k : Nat} (hk : k ≤ 32) (h : ∀ j, j < k → byt X (31 - j) = 0) (he : k < 32 → byt X (31 - k) ≠ 0) : LB X (32 - k) := by
  have h1 := high_noughts X k hk h
  refine ⟨by omega, ?_, fun h0 => ?_⟩
  · rw [h1]; exact Nat.mod_lt _ (Nat.pow_pos (by decide))
  · have h2 := he (by omega)
    rw [h1, show 32 - k = 31 - k + 1 by omega, byt_split, Nat.add_sub_cancel]
    have h3 : 2 ^ (8 * (31 - k)) * 1 ≤ 2 ^ (8 * (31 - k)) * byt X (31 - k) := Nat.mul_le_mul_left _ (by omega)
    omega

set_option maxHeartbeats 4000000 in
set_option maxRecDepth 100000 in
theorem refLeast_any (X : Nat) (w : World) : Calls Tryd.prog 70 #[wv X] w fun e w' => (∃ v, e = .returned v ∧ LRow w' X v) ∧ Below w.heap.size w w' := by
    have c1 := True.intro
    have c2 := fun W => refBytes_any X W
    obtain ⟨x0, x1, x2, x3, hx⟩ := wv_form X
    simp only [hx] at c2 ⊢
    unfold b32 at c2
    have C2 := hideP c2
    clear c1 c2 hx
    go_enter Tryd.func70, Tryd.ntmps70
    go_wp2_with fail
    refine at_world_q (fun W0 hW0 => ?_)
    have HBx : W0.heap[w.heap.size]? = some (.cells #[.int .u64 x0, .int .u64 x1, .int .u64 x2, .int .u64 x3] 29 (0, 0)) := by
      rw [hW0]; simp only [World.alloc, Array.getElem?_push]; simp
    have HBW : Hid (Below w.heap.size w W0) := by
      show Below _ _ _
      rw [hW0]
      repeat first | exact Below.refl _ _ | (refine Below.alloc ?_ (by simp <;> omega) _)
    clear hW0
    refine (C2.out _).mono ?_
    rintro e W2 ⟨rfl, hb⟩
    replace HBx := (hb.block _ (lt_of_block HBx)).trans HBx
    replace HBW := hideP (HBW.out.trans (hb.mono HBW.out.size))
    have HBW0 := hideP HBW.out.size
    clear hb C2
    have HN := hideP (heap_new W2 (.cells (c32 (fun _ => 0)) 112 (0, 0)))
    rw [← zero32] at HN
    go_wp2_with (refine wpList_store_mid rfl 112 _ _ rfl W2.heap.size 0 (c32 (fun j => byt X (31 - j))) rfl rfl (there32 (g := fun _ => 0) HN.out) size52 (oneCell32 _) ?_; refine Hid.out ?_)
    refine hideP ?_
    have h1 := But.sets (c32 (fun j => byt X (31 - j))).toList 0 (But.refl W2.heap.size (W2.alloc (.cells #[.int .u8 0, .int .u8 0, .int .u8 0, .int .u8 0, .int .u8 0, .int .u8 0, .int .u8 0, .int .u8 0, .int .u8 0, .int .u8 0, .int .u8 0, .int .u8 0, .int .u8 0, .int .u8 0, .int .u8 0, .int .u8 0, .int .u8 0, .int .u8 0, .int .u8 0, .int .u8 0, .int .u8 0, .int .u8 0, .int .u8 0, .int .u8 0, .int .u8 0, .int .u8 0, .int .u8 0, .int .u8 0, .int .u8 0, .int .u8 0, .int .u8 0, .int .u8 0] 112 (0, 0))))
    have h2 := blk_sets (c32 (fun j => byt X (31 - j))).toList 0 (show (W2.alloc (.cells #[.int .u8 0, .int .u8 0, .int .u8 0, .int .u8 0, .int .u8 0, .int .u8 0, .int .u8 0, .int .u8 0, .int .u8 0, .int .u8 0, .int .u8 0, .int .u8 0, .int .u8 0, .int .u8 0, .int .u8 0, .int .u8 0, .int .u8 0, .int .u8 0, .int .u8 0, .int .u8 0, .int .u8 0, .int .u8 0, .int .u8 0, .int .u8 0, .int .u8 0, .int .u8 0, .int .u8 0, .int .u8 0, .int .u8 0, .int .u8 0, .int .u8 0, .int .u8 0] 112 (0, 0))).heap[W2.heap.size]? = some (.cells (c32 (fun _ => 0)) 112 (0, 0)) from HN.out)
    rw [putAll32] at h2
    have hlr := lt_of_block HBx
    have hlt4 : W2.heap.size < (((W2.alloc (.cells #[.int .u8 0, .int .u8 0, .int .u8 0, .int .u8 0, .int .u8 0, .int .u8 0, .int .u8 0, .int .u8 0, .int .u8 0, .int .u8 0, .int .u8 0, .int .u8 0, .int .u8 0, .int .u8 0, .int .u8 0, .int .u8 0, .int .u8 0, .int .u8 0, .int .u8 0, .int .u8 0, .int .u8 0, .int .u8 0, .int .u8 0, .int .u8 0, .int .u8 0, .int .u8 0, .int .u8 0, .int .u8 0, .int .u8 0, .int .u8 0, .int .u8 0, .int .u8 0] 112 (0, 0))).setCells W2.heap.size 0 (c32 (fun j => byt X (31 - j))).toList)).heap.size := lt_of_block h2
    replace HBx := (h1.same _ (by omega)).trans ((heap_old W2 (.cells #[.int .u8 0, .int .u8 0, .int .u8 0, .int .u8 0, .int .u8 0, .int .u8 0, .int .u8 0, .int .u8 0, .int .u8 0, .int .u8 0, .int .u8 0, .int .u8 0, .int .u8 0, .int .u8 0, .int .u8 0, .int .u8 0, .int .u8 0, .int .u8 0, .int .u8 0, .int .u8 0, .int .u8 0, .int .u8 0, .int .u8 0, .int .u8 0, .int .u8 0, .int .u8 0, .int .u8 0, .int .u8 0, .int .u8 0, .int .u8 0, .int .u8 0, .int .u8 0] 112 (0, 0)) hlr).trans HBx)
    replace HBW := hideP ((HBW.out.alloc HBW.out.size (.cells #[.int .u8 0, .int .u8 0, .int .u8 0, .int .u8 0, .int .u8 0, .int .u8 0, .int .u8 0, .int .u8 0, .int .u8 0, .int .u8 0, .int .u8 0, .int .u8 0, .int .u8 0, .int .u8 0, .int .u8 0, .int .u8 0, .int .u8 0, .int .u8 0, .int .u8 0, .int .u8 0, .int .u8 0, .int .u8 0, .int .u8 0, .int .u8 0, .int .u8 0, .int .u8 0, .int .u8 0, .int .u8 0, .int .u8 0, .int .u8 0, .int .u8 0, .int .u8 0] 112 (0, 0))).trans (h1.below.mono HBW.out.size))
    have HB := hideP h2
    have HS2 := hideP (HBW0.out)
    clear h1 h2 hlr HN HBW0
    (try simp only [put_none])
    generalize (W2.alloc (.cells #[.int .u8 0, .int .u8 0, .int .u8 0, .int .u8 0, .int .u8 0, .int .u8 0, .int .u8 0, .int .u8 0, .int .u8 0, .int .u8 0, .int .u8 0, .int .u8 0, .int .u8 0, .int .u8 0, .int .u8 0, .int .u8 0, .int .u8 0, .int .u8 0, .int .u8 0, .int .u8 0, .int .u8 0, .int .u8 0, .int .u8 0, .int .u8 0, .int .u8 0, .int .u8 0, .int .u8 0, .int .u8 0, .int .u8 0, .int .u8 0, .int .u8 0, .int .u8 0] 112 (0, 0))).setCells W2.heap.size 0 (c32 (fun j => byt X (31 - j))).toList = W4 at HBx HBW HB hlt4 ⊢
    generalize W2.heap.size = B at HB HS2 hlt4 ⊢
    clear HBx
    go_wp2_with fail
    rename_i Q' K hK
    have HK := hideP hK
    clear hK
    go_loopw [4] (fun i wr => ∃ (k : Nat), k ≤ 32 ∧ i = .int .i64 k ∧ wr = W4 ∧ ∀ j, j < k → byt X (31 - j) = 0) (fun i _ => 32 - (intOf i).toNat)
    case atStart => exact ⟨0, Nat.zero_le _, rfl, rfl, fun j hj => absurd hj (by omega)⟩
    case round =>
      obtain ⟨k, hk, rfl, rfl, hall⟩ := hrel
      have HALL := hideP hall
      have HKK := hideP hk
      clear hall
      have e4 : IntKind.i64.wrap ((k : Int) + 1) = (k : Int) + 1 := by rw [IntKind.wrap_i64]; omega
      by_cases hlt : k < 32
      · have hcb := blk_cell HB.out (get32 (fun j => byt X (31 - j)) hlt)
        have g1 : (k : Int) < 32 := by omega
        have HLT := hideP hlt
        clear hlt hk
        by_cases hz : byt X (31 - k) = 0
        · rw [hz] at hcb
          have HZ := hideP hz
          clear hz
          go_wp2_with fail
          refine ⟨⟨k + 1, HLT.out, by go_num, trivial, fun j hj => ?_⟩, by have := HLT.out; simp [intOf]; omega⟩
          by_cases h : j = k
          · rw [h]; exact HZ.out
          · exact HALL.out j (by omega)
        · have HZ := hideP hz
          have g2 : ((byt X (31 - k) : Nat) : Int) ≠ 0 := by omega
          clear hz
          generalize hbk : byt X (31 - k) = bk at hcb g2
          clear hbk
          go_wp2_with fail
          refine HK.out _ _ ?_
          have HLB := hideP (LB.ofNoughts HKK.out HALL.out (fun _ => HZ.out))
          obtain ⟨sp, hsp, hsl⟩ := slice32 B k HKK.out
          have HSP := hideP hsp
          clear hsp hcb g2 g1
          go_wp2_with (at_builtin; refine wpList_append_fresh rfl _ _ rfl wr.heap.size (some ⟨B, sp, none⟩) (32 - k) (32 - k) rfl rfl (by simp) (by omega) (lowB X (32 - k)) ?c1 (fun _ h => by cases h) ?_)
          case c1 =>
            intro j hj
            refine ⟨_, rfl, ?_⟩
            rw [HSP.out (by omega), Addr.add_mid]
            refine (((Below.refl wr.heap.size wr).alloc (Nat.le_refl _) _).cell (p := ⟨B, k + j, none⟩) hlt4).trans ?_
            rw [blk_cell HB.out (get32 _ (show k + j < 32 by omega))]
            unfold lowB
            rw [show 31 - (k + j) = 32 - k - 1 - j by omega]
          intro g cap W9 hg9 hc9 hb9
          have HR : Hid (LRow W9 X (.slice (some ⟨g, 0, none⟩) (32 - k) cap)) := ⟨⟨32 - k, cap, g, 0, rfl, HLB.out, hg9, fun j hj => by rw [Nat.zero_add]; exact hc9 j hj⟩⟩
          have HL : Hid (Below w.heap.size w W9) := (HBW.out.alloc HBW.out.size _).trans (hb9.mono (by have := HBW.out.size; simp; omega))
          clear hg9 hc9 hb9
          go_wp2_with fail
          go_ret
          exact ⟨⟨_, rfl, HR.out⟩, HL.out⟩
      · have hk6 : k = 32 := by omega
        subst hk6
        have g1 : ¬ ((32 : Nat) : Int) < 32 := by omega
        clear hlt hk
        go_wp2_with fail
        refine HK.out _ _ ?_
        have HLB := hideP (LB.ofNoughts HKK.out HALL.out (fun h => absurd h (by omega)))
        clear g1
        replace HLB := hideP (show LB X 0 from HLB.out)
        have HR : Hid (∀ o, LRow (wr.alloc o) X (.slice (some ⟨wr.heap.size, 0, none⟩) 0 0)) := fun o => ⟨⟨0, 0, wr.heap.size, 0, rfl, HLB.out, by simp, fun j hj => absurd hj (by omega)⟩⟩
        have HL : Hid (∀ o, Below w.heap.size w (wr.alloc o)) := fun o => HBW.out.alloc HBW.out.size o
        go_wp2_with fail
        go_ret
        exact ⟨⟨_, rfl, HR.out _⟩, HL.out _⟩

/-- Words are equal just if their numbers are. -/
theorem eq_wv (X Y : Nat) (W : World) : (Op.equalIn 10000 30 (wv X) (wv Y)).run Tryd.prog W = .ok (decide (X % M256 = Y % M256)) W := by
  obtain ⟨x0, x1, x2, x3, hx0, hx1, hx2, hx3, eX, hX⟩ := wv_limbs X
  obtain ⟨y0, y1, y2, y3, hy0, hy1, hy2, hy3, eY, hY⟩ := wv_limbs Y
  rw [hX, hY, eq_words]
  congr 1
  rw [Bool.eq_iff_iff]
  simp only [Bool.and_eq_true, beq_iff_eq, decide_eq_true_eq]
  constructor
  · rintro ⟨a, b, c, d⟩
    rw [eX, eY, Int.ofNat.inj a, Int.ofNat.inj b, Int.ofNat.inj c, Int.ofNat.inj d]
  · intro h
    rw [eX, eY] at h
    unfold num at h
    omega

end Go.Proofs.YtaeadndihchbnaaDoor
