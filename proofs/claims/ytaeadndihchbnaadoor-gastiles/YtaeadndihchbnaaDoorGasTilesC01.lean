/-
  Words: what the contracts of package word and of the document say of them (for this seat).
-/
import Derived.Test.YtaeadndihchbnaaDoorChecked
import Derived.WalkKit
import Derived.WalkLawsBesides
import Derived.WalkSpells
import Derived.BigQuiet
import Derived.Deep.QuietTactic
import Derived.Laws.Externs
import Derived.Shelf.Spec.BitsCarry
import Derived.Lib.Mul64
import Derived.Laws.Bits64b
import Derived.Lib.Strings
import Derived.Lib.Slices
import Derived.Lib.Small
import Derived.Lib.Walk
import Derived.Lib.BitFns
import Derived.Deep.RegionHeld
import Derived.Deep.MidRow
import Derived.Laws.CopyOwn
import Derived.OwnWalk
import Derived.Deep.Upon
namespace Go.Proofs.YtaeadndihchbnaaDoor
open Go.RowKit Go.Shelf

/-- The word of a number (of its rest modulo 2^256). -/
def wv (X : Nat) : Value := .agg #[.int .u64 ((X % 18446744073709551616 : Nat) : Int), .int .u64 ((X / 18446744073709551616 % 18446744073709551616 : Nat) : Int), .int .u64 ((X / 340282366920938463463374607431768211456 % 18446744073709551616 : Nat) : Int), .int .u64 ((X / 6277101735386680763835789423207666416102355444464034512896 % 18446744073709551616 : Nat) : Int)]

theorem digit_of (B s r : Nat) (h : s < B) : (s + B * r) % B = s ∧ (s + B * r) / B = r := by
  have hB : 0 < B := by omega
  refine ⟨?_, ?_⟩
  · rw [Nat.add_mul_mod_self_left, Nat.mod_eq_of_lt h]
  · rw [Nat.add_mul_div_left _ _ hB, Nat.div_eq_of_lt h, Nat.zero_add]

theorem wv_mk {s0 s1 s2 s3 k : Nat} (h0 : s0 < 18446744073709551616) (h1 : s1 < 18446744073709551616) (h2 : s2 < 18446744073709551616) (h3 : s3 < 18446744073709551616) :
    wv (s0 + 18446744073709551616 * (s1 + 18446744073709551616 * (s2 + 18446744073709551616 * (s3 + 18446744073709551616 * k)))) = .agg #[.int .u64 s0, .int .u64 s1, .int .u64 s2, .int .u64 s3] := by
  unfold wv
  have e2 : (340282366920938463463374607431768211456 : Nat) = 18446744073709551616 * 18446744073709551616 := by decide
  have e3 : (6277101735386680763835789423207666416102355444464034512896 : Nat) = 18446744073709551616 * 18446744073709551616 * 18446744073709551616 := by decide
  rw [e2, e3]
  simp only [← Nat.div_div_eq_div_mul, (digit_of _ _ _ h0).1, (digit_of _ _ _ h0).2, (digit_of _ _ _ h1).1, (digit_of _ _ _ h1).2, (digit_of _ _ _ h2).1, (digit_of _ _ _ h2).2, (digit_of _ _ _ h3).1]

theorem wv_eq {s0 s1 s2 s3 k Z : Nat} (h0 : s0 < 18446744073709551616) (h1 : s1 < 18446744073709551616) (h2 : s2 < 18446744073709551616) (h3 : s3 < 18446744073709551616)
    (h : Z = s0 + 18446744073709551616 * (s1 + 18446744073709551616 * (s2 + 18446744073709551616 * (s3 + 18446744073709551616 * k)))) :
    Value.agg #[.int .u64 s0, .int .u64 s1, .int .u64 s2, .int .u64 s3] = wv Z := by
  rw [h]; exact (wv_mk h0 h1 h2 h3).symm

theorem wv_open (X : Nat) : ∃ x0 x1 x2 x3 k : Nat, x0 < 18446744073709551616 ∧ x1 < 18446744073709551616 ∧ x2 < 18446744073709551616 ∧ x3 < 18446744073709551616 ∧
    X = x0 + 18446744073709551616 * (x1 + 18446744073709551616 * (x2 + 18446744073709551616 * (x3 + 18446744073709551616 * k))) ∧ wv X = .agg #[.int .u64 x0, .int .u64 x1, .int .u64 x2, .int .u64 x3] := by
  have hB : 0 < 18446744073709551616 := by decide
  have d0 := Nat.mod_add_div X 18446744073709551616
  have d1 := Nat.mod_add_div (X / 18446744073709551616) 18446744073709551616
  have d2 := Nat.mod_add_div (X / 18446744073709551616 / 18446744073709551616) 18446744073709551616
  have d3 := Nat.mod_add_div (X / 18446744073709551616 / 18446744073709551616 / 18446744073709551616) 18446744073709551616
  have e : X = X % 18446744073709551616 + 18446744073709551616 * (X / 18446744073709551616 % 18446744073709551616 + 18446744073709551616 * (X / 18446744073709551616 / 18446744073709551616 % 18446744073709551616 + 18446744073709551616 * (X / 18446744073709551616 / 18446744073709551616 / 18446744073709551616 % 18446744073709551616 + 18446744073709551616 * (X / 18446744073709551616 / 18446744073709551616 / 18446744073709551616 / 18446744073709551616)))) := by
    rw [d3, d2, d1, d0]
  refine ⟨_, _, _, _, _, Nat.mod_lt _ hB, Nat.mod_lt _ hB, Nat.mod_lt _ hB, Nat.mod_lt _ hB, e, ?_⟩
  have := wv_mk (k := X / 18446744073709551616 / 18446744073709551616 / 18446744073709551616 / 18446744073709551616) (Nat.mod_lt X hB) (Nat.mod_lt (X / 18446744073709551616) hB) (Nat.mod_lt (X / 18446744073709551616 / 18446744073709551616) hB) (Nat.mod_lt (X / 18446744073709551616 / 18446744073709551616 / 18446744073709551616) hB)
  rwa [← e] at this

/-- 2^256. -/
def M256 : Nat := 115792089237316195423570985008687907853269984665640564039457584007913129639936

theorem wv_add_mul (X k : Nat) : wv (X + M256 * k) = wv X := by
  obtain ⟨x0, x1, x2, x3, j, h0, h1, h2, h3, e, hv⟩ := wv_open X
  rw [hv]
  refine (wv_eq (k := j + k) h0 h1 h2 h3 ?_).symm
  rw [e]
  unfold M256
  omega

theorem wv_mod (X : Nat) : wv (X % M256) = wv X := by
  have := wv_add_mul (X % M256) (X / M256)
  rw [Nat.mod_add_div] at this
  exact this.symm

/-- What four limbs stand for. -/
def num (a b c d : Nat) : Nat := a + 18446744073709551616 * (b + 18446744073709551616 * (c + 18446744073709551616 * d))

namespace Gen
variable {B : Nat}
theorem step_add {x y s c d P Q : Nat} (h : x + y + c = s + B * d) : (x + B * P) + (y + B * Q) + c = s + B * (P + Q + d) := by
  rw [Nat.mul_add, Nat.mul_add]; omega

theorem flat {a b c d k : Nat} : a + B * (b + B * (c + B * (d + B * k))) = a + B * (b + B * (c + B * d)) + B * B * B * B * k := by
  simp only [Nat.mul_add, Nat.mul_assoc, Nat.add_assoc]

theorem lt1 {a b K : Nat} (ha : a < B) (hb : b < K) : a + B * b < B * K := by
  have : B * (b + 1) ≤ B * K := Nat.mul_le_mul_left _ hb
  rw [Nat.mul_add] at this; omega

theorem lt4 {a b c d : Nat} (ha : a < B) (hb : b < B) (hc : c < B) (hd : d < B) : a + B * (b + B * (c + B * d)) < B * B * B * B := by
  have := lt1 ha (lt1 hb (lt1 hc hd))
  rwa [← Nat.mul_assoc, ← Nat.mul_assoc] at this

end Gen
theorem M256_eq : M256 = 18446744073709551616 * 18446744073709551616 * 18446744073709551616 * 18446744073709551616 := by decide

theorem M256_pos : 0 < M256 := by decide

theorem num_lt {a b c d : Nat} (ha : a < 18446744073709551616) (hb : b < 18446744073709551616) (hc : c < 18446744073709551616) (hd : d < 18446744073709551616) : num a b c d < M256 := by
  rw [M256_eq]; exact Gen.lt4 ha hb hc hd

theorem wv_num {Z a b c d : Nat} (ha : a < 18446744073709551616) (hb : b < 18446744073709551616) (hc : c < 18446744073709551616) (hd : d < 18446744073709551616) (h : Z % M256 = num a b c d) :
    Value.agg #[.int .u64 a, .int .u64 b, .int .u64 c, .int .u64 d] = wv Z := by
  rw [← wv_mod Z, h]
  exact wv_eq (k := 0) ha hb hc hd (by rw [Nat.mul_zero, Nat.add_zero]; rfl)

theorem wv_limbs (X : Nat) : ∃ x0 x1 x2 x3 : Nat, x0 < 18446744073709551616 ∧ x1 < 18446744073709551616 ∧ x2 < 18446744073709551616 ∧ x3 < 18446744073709551616 ∧
    X % M256 = num x0 x1 x2 x3 ∧ wv X = .agg #[.int .u64 x0, .int .u64 x1, .int .u64 x2, .int .u64 x3] := by
  obtain ⟨x0, x1, x2, x3, k, h0, h1, h2, h3, e, hv⟩ := wv_open X
  refine ⟨x0, x1, x2, x3, h0, h1, h2, h3, ?_, hv⟩
  rw [e, Gen.flat, M256_eq, Nat.add_mul_mod_self_left, Nat.mod_eq_of_lt (by rw [← M256_eq]; exact num_lt h0 h1 h2 h3)]
  rfl

theorem blk_cell {w : World} {p t o : Nat} {cs : Array Value} {v : Value} (h : w.heap[p]? = some (.cells cs t (0, 0))) (hv : cs[o]? = some v) : w.cell? ⟨p, o, none⟩ = some v := by
  simp [World.cell?, h, hv]

theorem blk_free {w : World} {p t o : Nat} {cs : Array Value} (h : w.heap[p]? = some (.cells cs t (0, 0))) : w.frozen? ⟨p, o, none⟩ = false := by
  simp [World.frozen?, h]

theorem blk_set {w : World} {p t o : Nat} {cs : Array Value} (h : w.heap[p]? = some (.cells cs t (0, 0))) (v : Value) : (w.setCell ⟨p, o, none⟩ v).heap[p]? = some (.cells (cs.setIfInBounds o v) t (0, 0)) := by
  simp [World.setCell, Array.getElem?_modify, h]

theorem hideP {p : Prop} (h : p) : Hid p := h

theorem cells4 {w1 : World} {b t : Nat} {u0 u1 u2 u3 : Value} (h1 : w1.heap[b]? = some (.cells #[u0, u1, u2, u3] t (0, 0))) :
    w1.cell? ⟨b, 0, none⟩ = some u0 ∧ w1.cell? ⟨b, 1, none⟩ = some u1 ∧ w1.cell? ⟨b, 2, none⟩ = some u2 ∧ w1.cell? ⟨b, 3, none⟩ = some u3 :=
  ⟨blk_cell h1 rfl, blk_cell h1 rfl, blk_cell h1 rfl, blk_cell h1 rfl⟩

theorem heap_new (w : World) (a : Obj) : (w.alloc a).heap[w.heap.size]? = some a := heap_alloc_new w a

theorem heap_new1 (w : World) (a b : Obj) : ((w.alloc a).alloc b).heap[w.heap.size + 1]? = some b := by
  have := heap_alloc_new (w.alloc a) b
  rwa [World.size_alloc] at this

theorem heap_old (w : World) (a : Obj) {k : Nat} (h : k < w.heap.size) : (w.alloc a).heap[k]? = w.heap[k]? := Below.heap_alloc w a k h

/-- A word, written out. -/
theorem wv_form (X : Nat) : ∃ a b c d : Int, wv X = .agg #[.int .u64 a, .int .u64 b, .int .u64 c, .int .u64 d] := ⟨_, _, _, _, rfl⟩

theorem num_add {x0 x1 x2 x3 y0 y1 y2 y3 s0 s1 s2 s3 c0 c1 c2 c3 : Nat} (e0 : x0 + y0 = s0 + 18446744073709551616 * c0) (e1 : x1 + y1 + c0 = s1 + 18446744073709551616 * c1)
    (e2 : x2 + y2 + c1 = s2 + 18446744073709551616 * c2) (e3 : x3 + y3 + c2 = s3 + 18446744073709551616 * c3) : num x0 x1 x2 x3 + num y0 y1 y2 y3 = num s0 s1 s2 s3 + M256 * c3 := by
  have a3 : (x3 + 18446744073709551616 * 0) + (y3 + 18446744073709551616 * 0) + c2 = s3 + 18446744073709551616 * (0 + 0 + c3) := Gen.step_add e3
  have a2 := Gen.step_add (P := x3 + 18446744073709551616 * 0) (Q := y3 + 18446744073709551616 * 0) e2
  rw [a3] at a2
  have a1 := Gen.step_add (P := x2 + 18446744073709551616 * (x3 + 18446744073709551616 * 0)) (Q := y2 + 18446744073709551616 * (y3 + 18446744073709551616 * 0)) e1
  rw [a2] at a1
  have a0 := Gen.step_add (c := 0) (P := x1 + 18446744073709551616 * (x2 + 18446744073709551616 * (x3 + 18446744073709551616 * 0))) (Q := y1 + 18446744073709551616 * (y2 + 18446744073709551616 * (y3 + 18446744073709551616 * 0))) e0
  rw [a1] at a0
  simp only [Nat.mul_zero, Nat.add_zero, Nat.zero_add] at a0
  rw [Gen.flat] at a0
  rw [M256_eq]
  exact a0

theorem mod_add_eq {M a b s c : Nat} (h : a % M + b % M = s + M * c) (hs : s < M) : (a + b) % M = s := by
  rw [Nat.add_mod, h, Nat.add_mul_mod_self_left, Nat.mod_eq_of_lt hs]

theorem add64_run (x y c : Nat) (hc : c ≤ 1) (w : World) :
    (callFunc 82 #[.int .u64 x, .int .u64 y, .int .u64 c]).run Tryd.prog w =
      .ok (.value (.tuple #[.int .u64 (((x + y + c) % 18446744073709551616 : Nat) : Int), .int .u64 (((x + y + c) / 18446744073709551616 : Nat) : Int)])) w := by
  rw [run_callFunc_extern Tryd.func82 (by kernel_rfl) (by kernel_rfl) (by kernel_rfl) (e := add64Entry) (by kernel_rfl), run_add64 x y c (by omega) (by omega) (by omega) (by omega)]
  simp only [Result.andThen]
  congr 5 <;> omega

/-- A sum of limbs. -/
theorem add64_ex (x y c : Nat) (hx : x < 18446744073709551616) (hy : y < 18446744073709551616) (hc : c ≤ 1) : ∃ s d : Nat, s < 18446744073709551616 ∧ d ≤ 1 ∧ x + y + c = s + 18446744073709551616 * d ∧
    ∀ w, (callFunc 82 #[.int .u64 x, .int .u64 y, .int .u64 c]).run Tryd.prog w = .ok (.value (.tuple #[.int .u64 s, .int .u64 d])) w :=
  ⟨_, _, by omega, by omega, by omega, fun w => add64_run x y c hc w⟩

theorem add64_ex0 (x y : Nat) (hx : x < 18446744073709551616) (hy : y < 18446744073709551616) : ∃ s d : Nat, s < 18446744073709551616 ∧ d ≤ 1 ∧ x + y = s + 18446744073709551616 * d ∧
    ∀ w, (callFunc 82 #[.int .u64 x, .int .u64 y, .int .u64 0]).run Tryd.prog w = .ok (.value (.tuple #[.int .u64 s, .int .u64 d])) w :=
  ⟨_, _, by omega, by omega, by omega, fun w => add64_run x y 0 (by omega) w⟩

set_option maxHeartbeats 1000000 in
set_option maxRecDepth 100000 in
theorem carry_any (w : World) (X Y : Nat) :
    Calls Tryd.prog 62 #[wv X, wv Y] w fun e w' => ∃ c : Nat, e = .returned (.tuple #[wv (X + Y), .bool ((c : Int) == 1)]) ∧ c ≤ 1 ∧ X % M256 + Y % M256 = (X + Y) % M256 + M256 * c ∧ Below w.heap.size w w' := by
  obtain ⟨x0, x1, x2, x3, hx0, hx1, hx2, hx3, eX, hX⟩ := wv_limbs X
  obtain ⟨y0, y1, y2, y3, hy0, hy1, hy2, hy3, eY, hY⟩ := wv_limbs Y
  rw [hX, hY]
  obtain ⟨s0, c0, i0, j0, e0, k0⟩ := add64_ex0 x0 y0 hx0 hy0
  obtain ⟨s1, c1, i1, j1, e1, k1⟩ := add64_ex x1 y1 c0 hx1 hy1 j0
  obtain ⟨s2, c2, i2, j2, e2, k2⟩ := add64_ex x2 y2 c1 hx2 hy2 j1
  obtain ⟨s3, c3, i3, j3, e3, k3⟩ := add64_ex x3 y3 c2 hx3 hy3 j2
  have hs := num_add e0 e1 e2 e3
  rw [← eX, ← eY] at hs
  have hm := mod_add_eq hs (num_lt i0 i1 i2 i3)
  have HR : Hid (Value.agg #[.int .u64 s0, .int .u64 s1, .int .u64 s2, .int .u64 s3] = wv (X + Y) ∧ c3 ≤ 1 ∧ X % M256 + Y % M256 = (X + Y) % M256 + M256 * c3) :=
    ⟨wv_num i0 i1 i2 i3 hm, j3, by rw [hs, hm]⟩
  clear hs hm
  clear i0 i1 i2 i3 j0 j1 j2 j3 e0 e1 e2 e3 hx0 hx1 hx2 hx3 hy0 hy1 hy2 hy3 hX hY eX eY
  go_enter Tryd.func62, Tryd.ntmps62
  go_wp2_with (fail)
  refine wp_loop_rounds 5 ?_
  rw [rounds_succ]
  go_wp2_with (fail)
  go_region
  go_wp2_with (fail)
  rw [rounds_succ]
  go_wp2_with (fail)
  go_region
  go_wp2_with (fail)
  rw [rounds_succ]
  go_wp2_with (fail)
  go_region
  go_wp2_with (fail)
  rw [rounds_succ]
  go_wp2_with (fail)
  go_region
  go_wp2_with (fail)
  rw [rounds_succ]
  go_wp2
  refine bodyPost_ret (v := .tuple #[.agg #[.int .u64 s0, .int .u64 s1, .int .u64 s2, .int .u64 s3], .bool ((c3 : Int) == 1)]) (by simp [results, Tryd.results62, go_sem]) rfl ?_
  obtain ⟨r1, r2, r3⟩ := HR.out
  exact ⟨c3, by rw [r1], r2, r3, by repeat first | exact Below.refl _ _ | apply Below.drew | (refine Below.alloc ?_ (by simp <;> omega) _)⟩

namespace M64
end M64
set_option maxHeartbeats 400000 in
set_option maxRecDepth 100000 in
theorem of_any (n : Nat) (hn : n < 18446744073709551616) (w : World) : Calls Tryd.prog 61 #[.int .u64 n] w fun e w' => e = .returned (wv n) ∧ Below w.heap.size w w' := by
  have hv : Value.agg #[.int .u64 n, .int .u64 0, .int .u64 0, .int .u64 0] = wv n := wv_eq (s1 := 0) (s2 := 0) (s3 := 0) (k := 0) hn (by omega) (by omega) (by omega) (by omega)
  have HV := hideP hv
  clear hv hn
  go_enter Tryd.func61, Tryd.ntmps61
  go_wp2
  refine bodyPost_ret (v := .agg #[.int .u64 n, .int .u64 0, .int .u64 0, .int .u64 0]) (by simp [results, Tryd.results61, go_sem]) rfl ⟨by rw [HV.out], ?_⟩
  repeat first | exact Below.refl _ _ | apply Below.drew | (refine Below.alloc ?_ (by simp <;> omega) _) | (refine Below.setCell ?_ (by simp <;> omega) _)

/-- A limb of a number. -/
def limb (N k : Nat) : Nat := N / 18446744073709551616 ^ k % 18446744073709551616

theorem wp_region_heldS {P : Program} {ops : Array Oper} {Q : Exit → Act → World → Prop} {S : World → Prop} {id : Nat} {a : Act} {w : World} (hm : P.follows .mixedOrders = true) (hS : S w.drew)
    (h : S w.drew → wpAnyH P .any ops Q S ops.size (Array.replicate ops.size false) a w.drew) : (Code.region id ops true).wp P Q a w :=
  wp_region_held hm (h hS)

theorem wv_small {Y : Nat} (h : Y < 18446744073709551616) : wv Y = .agg #[.int .u64 Y, .int .u64 0, .int .u64 0, .int .u64 0] :=
  (wv_eq (s1 := 0) (s2 := 0) (s3 := 0) (k := 0) h (by omega) (by omega) (by omega) (by omega)).symm

theorem wpAnyH_takeL {P : Program} {l : List Oper} {Q : Exit → Act → World → Prop} {md : Region.Mode} {S : World → Prop} {i : Nat} {oi : Oper} {v : Value} {fuel : Nat} {listed : Array Bool} {a : Act} {w : World} (hi : l[i]? = some oi)
    (hs : Region.noSelect l.toArray = true) (hf : Region.free md l.toArray listed i = true) (hr : (Region.ready md l.toArray listed).contains i = true)
    (hQ : ∀ c a w, Q (.panic c) (a.put oi.dst v) w → Q (.panic c) a w) (hy : YieldsIf P l.toArray S oi v a) (hS : S w)
    (h : wpAnyH P md l.toArray Q S fuel (listed.setIfInBounds i true) (a.put oi.dst v) w) : wpAnyH P md l.toArray Q S (fuel + 1) listed a w :=
  wpAnyH_take (by simpa using hi) hs hf hr hQ hy hS h

theorem put_list (l : List Value) (ds : List Deferred) (d : Nat) (v : Value) : Act.put { tmps := l.toArray, defers := ds } (some d) v = { tmps := (l.set d v).toArray, defers := ds } := by
  simp [Act.put]

/-- All but the block L is as it was. -/
structure But (L : Nat) (W V : World) : Prop where
  same : ∀ b, b ≠ L → V.heap[b]? = W.heap[b]?
  below : Below L W V

theorem But.refl (L : Nat) (W : World) : But L W W := ⟨fun _ _ => rfl, Below.refl _ _⟩

theorem But.set {L : Nat} {W V : World} (h : But L W V) (o : Nat) (v : Value) : But L W (V.setCell ⟨L, o, none⟩ v) :=
  ⟨fun b hb => (Below.heap_setCell V _ v b hb).trans (h.same b hb), h.below.setCell (p := ⟨L, o, none⟩) (Nat.le_refl _) v⟩

theorem But.drew {L : Nat} {W V : World} (h : But L W V) : But L W V.drew := ⟨h.same, h.below.drew⟩

theorem But.trans {L : Nat} {W V U : World} (h : But L W V) (g : But L V U) : But L W U := ⟨fun b hb => (g.same b hb).trans (h.same b hb), h.below.trans g.below⟩

theorem But.cell {L : Nat} {W V : World} (h : But L W V) {b o : Nat} (hb : b ≠ L) : V.cell? ⟨b, o, none⟩ = W.cell? ⟨b, o, none⟩ := by
  simp only [World.cell?, h.same b hb]

namespace SP
theorem last {B Bk P p S s Y m a c c' : Nat} (h : P + Bk * c + Bk * a = S + m * Y) (e2 : p + B * c' = s + a + c) :
    P + p * Bk + Bk * B * c' = S + s * Bk + m * Y := by
  have h2 : Bk * (p + B * c') = Bk * (s + a + c) := by rw [e2]
  simp only [Nat.mul_add] at h2
  rw [Nat.mul_comm p, Nat.mul_comm s, Nat.mul_assoc Bk B c']
  omega

end SP

section
variable {W0 V V' : World} {R : Nat}
theorem lt_of_block {W : World} {b : Nat} {o : Obj} (h : W.heap[b]? = some o) : b < W.heap.size := (Array.getElem?_eq_some_iff.1 h).1

end

theorem at_world_t {P : Program} {c : Code} {Q : Exit → Act → World → Prop} {a : Act} {w : World} (h : ∀ W0, W0 = w → c.wp P Q a W0) : c.wp P Q a w := h w rfl

theorem at_world_q {P : Program} {f : FuncId} {args : Array Value} {w : World} {Q : Ending → World → Prop} (h : ∀ W0, W0 = w → Calls P f args W0 Q) : Calls P f args w Q := h w rfl

theorem eq_words (a b c d a' b' c' d' : Int) (W : World) : (Op.equalIn 10000 30 (.agg #[.int .u64 a, .int .u64 b, .int .u64 c, .int .u64 d]) (.agg #[.int .u64 a', .int .u64 b', .int .u64 c', .int .u64 d'])).run Tryd.prog W = .ok (a == a' && (b == b' && (c == c' && d == d'))) W := by
  have h : ∀ x y : Int, (Op.equalIn 9999 22 (.int .u64 x) (.int .u64 y)).run Tryd.prog W = .ok (x == y) W := fun x y => by
    unfold Op.equalIn
    simp [go_sem]
  unfold Op.equalIn
  simp [go_sem, List.range', h]
  by_cases h1 : a = a' <;> by_cases h2 : b = b' <;> by_cases h3 : c = c' <;> by_cases h4 : d = d' <;> simp [go_sem, h1, h2, h3, h4]

theorem num_small {x0 x1 x2 x3 : Nat} (h0 : x0 < 18446744073709551616) : num x0 x1 x2 x3 < 18446744073709551616 ↔ (x1 = 0 ∧ x2 = 0 ∧ x3 = 0) := by
  unfold num
  omega

set_option maxHeartbeats 2000000 in
set_option maxRecDepth 100000 in
theorem small_in (X : Nat) (h : X % M256 < 18446744073709551616) (w : World) : Calls Tryd.prog 73 #[wv X] w fun e w' => e = .returned (.tuple #[.int .u64 ((X % M256 : Nat) : Int), .bool true]) ∧ Below w.heap.size w w' := by
  obtain ⟨x0, x1, x2, x3, h0, h1, h2, h3, eX, hX⟩ := wv_limbs X
  have c1 := fun W => of_any x0 h0 W
  rw [wv_small h0] at c1
  rw [eX, num_small h0] at h
  have hr : X % M256 = x0 := by
    rw [eX]
    unfold num
    omega
  rw [hr]
  rw [hX]
  have heq : ∀ W : World, (Op.equalIn 10000 30 (.agg #[.int .u64 (x0 : Int), .int .u64 (x1 : Int), .int .u64 (x2 : Int), .int .u64 (x3 : Int)]) (.agg #[.int .u64 (x0 : Int), .int .u64 0, .int .u64 0, .int .u64 0])).run Tryd.prog W = .ok true W := fun W => by
    rw [eq_words]
    congr 1
    obtain ⟨a, b, c⟩ := h
    subst a b c
    simp
  have C1 := hideP c1
  clear c1 hX h eX h0 h1 h2 h3 hr
  go_enter Tryd.func73, Tryd.ntmps73
  go_wp2_with fail
  refine at_world_t (fun W0 hW0 => ?_)
  have HBx : W0.heap[w.heap.size]? = some (.cells #[.int .u64 (x0 : Int), .int .u64 (x1 : Int), .int .u64 (x2 : Int), .int .u64 (x3 : Int)] 30 (0, 0)) := by
    rw [hW0]
    exact heap_new _ _
  have HBW : Hid (Below w.heap.size w W0) := by
    show Below _ _ _
    rw [hW0]
    exact ((Below.refl _ w).alloc (Nat.le_refl _) _)
  clear hW0
  obtain ⟨cx0, cx1, cx2, cx3⟩ := cells4 HBx
  have hlx := lt_of_block HBx
  refine wp_region_heldS (S := fun V => Below W0.heap.size W0 V) (by kernel_rfl) (Below.refl _ _).drew (fun hS => ?_)
  refine wpAnyH_takeL (i := 0) (v := ?_) rfl (by kernel_rfl) (by kernel_rfl) (by kernel_rfl) (fun _ _ _ h => h) (Or.inl ⟨by kernel_rfl, ?_⟩) hS ?_
  rotate_left
  · intro V hV
    have k0 := (hV.cell (p := ⟨w.heap.size, 0, none⟩) hlx).trans cx0
    have k1 := (hV.cell (p := ⟨w.heap.size, 1, none⟩) hlx).trans cx1
    have k2 := (hV.cell (p := ⟨w.heap.size, 2, none⟩) hlx).trans cx2
    have k3 := (hV.cell (p := ⟨w.heap.size, 3, none⟩) hlx).trans cx3
    go_simp
    (try with_reducible rfl)
  simp only [put_list, List.set_cons_succ, List.set_cons_zero]
  refine wpAnyH_takeL (i := 1) (v := ?_) rfl (by kernel_rfl) (by kernel_rfl) (by kernel_rfl) (fun _ _ _ h => h) (Or.inl ⟨by kernel_rfl, ?_⟩) hS ?_
  rotate_left
  · intro V hV
    go_simp
    (try with_reducible rfl)
  simp only [put_list, List.set_cons_succ, List.set_cons_zero]
  refine wpAnyH_takeL (i := 2) (v := ?_) rfl (by kernel_rfl) (by kernel_rfl) (by kernel_rfl) (fun _ _ _ h => h) (Or.inl ⟨by kernel_rfl, ?_⟩) hS ?_
  rotate_left
  · intro V hV
    have k0 := (hV.cell (p := ⟨w.heap.size, 0, none⟩) hlx).trans cx0
    go_simp
    (try with_reducible rfl)
  simp only [put_list, List.set_cons_succ, List.set_cons_zero]
  refine wpAnyH_ready (rs := [3]) (by kernel_rfl) (by simp) (AllReadyH.cons rfl (fun K hK => ?_) AllReadyH.nil)
  go_simp
  refine (C1.out _).mono ?_
  rintro e U1 ⟨rfl, hbc⟩
  refine hK.out _ _ (hS.trans (hbc.mono hS.size)) (fun hS => ?_)
  clear hK K hbc
  refine wpAnyH_takeL (i := 4) (v := ?_) rfl (by kernel_rfl) (by kernel_rfl) (by kernel_rfl) (fun _ _ _ h => h) (Or.inl ⟨by kernel_rfl, ?_⟩) hS ?_
  rotate_left
  · intro V hV
    go_simp
    (try with_reducible rfl)
  simp only [put_list, List.set_cons_succ, List.set_cons_zero]
  refine wpAnyH_done (by kernel_rfl) ?_ _
  have q0 := (hS.cell (p := ⟨w.heap.size, 0, none⟩) hlx).trans cx0
  clear cx0 cx1 cx2 cx3
  go_wp2_with fail
  refine bodyPost_ret (v := .tuple #[.int .u64 (x0 : Int), .bool true]) (by simp [results, Tryd.results73, go_sem]) rfl ⟨rfl, HBW.out.trans (hS.mono HBW.out.size)⟩

set_option maxHeartbeats 2000000 in
set_option maxRecDepth 100000 in
theorem small_out (X : Nat) (h : ¬ X % M256 < 18446744073709551616) (w : World) : Calls Tryd.prog 73 #[wv X] w fun e w' => e = .returned (.tuple #[.int .u64 0, .bool false]) ∧ Below w.heap.size w w' := by
  obtain ⟨x0, x1, x2, x3, h0, h1, h2, h3, eX, hX⟩ := wv_limbs X
  have c1 := fun W => of_any x0 h0 W
  rw [wv_small h0] at c1
  rw [eX, num_small h0] at h
  rw [hX]
  have heq : ∀ W : World, (Op.equalIn 10000 30 (.agg #[.int .u64 (x0 : Int), .int .u64 (x1 : Int), .int .u64 (x2 : Int), .int .u64 (x3 : Int)]) (.agg #[.int .u64 (x0 : Int), .int .u64 0, .int .u64 0, .int .u64 0])).run Tryd.prog W = .ok false W := fun W => by
    rw [eq_words]
    congr 1
    rw [Bool.eq_false_iff]
    intro hh
    simp only [Bool.and_eq_true, beq_iff_eq] at hh
    omega
  have C1 := hideP c1
  clear c1 hX h eX h0 h1 h2 h3
  go_enter Tryd.func73, Tryd.ntmps73
  go_wp2_with fail
  refine at_world_t (fun W0 hW0 => ?_)
  have HBx : W0.heap[w.heap.size]? = some (.cells #[.int .u64 (x0 : Int), .int .u64 (x1 : Int), .int .u64 (x2 : Int), .int .u64 (x3 : Int)] 30 (0, 0)) := by
    rw [hW0]
    exact heap_new _ _
  have HBW : Hid (Below w.heap.size w W0) := by
    show Below _ _ _
    rw [hW0]
    exact ((Below.refl _ w).alloc (Nat.le_refl _) _)
  clear hW0
  obtain ⟨cx0, cx1, cx2, cx3⟩ := cells4 HBx
  have hlx := lt_of_block HBx
  refine wp_region_heldS (S := fun V => Below W0.heap.size W0 V) (by kernel_rfl) (Below.refl _ _).drew (fun hS => ?_)
  refine wpAnyH_takeL (i := 0) (v := ?_) rfl (by kernel_rfl) (by kernel_rfl) (by kernel_rfl) (fun _ _ _ h => h) (Or.inl ⟨by kernel_rfl, ?_⟩) hS ?_
  rotate_left
  · intro V hV
    have k0 := (hV.cell (p := ⟨w.heap.size, 0, none⟩) hlx).trans cx0
    have k1 := (hV.cell (p := ⟨w.heap.size, 1, none⟩) hlx).trans cx1
    have k2 := (hV.cell (p := ⟨w.heap.size, 2, none⟩) hlx).trans cx2
    have k3 := (hV.cell (p := ⟨w.heap.size, 3, none⟩) hlx).trans cx3
    go_simp
    (try with_reducible rfl)
  simp only [put_list, List.set_cons_succ, List.set_cons_zero]
  refine wpAnyH_takeL (i := 1) (v := ?_) rfl (by kernel_rfl) (by kernel_rfl) (by kernel_rfl) (fun _ _ _ h => h) (Or.inl ⟨by kernel_rfl, ?_⟩) hS ?_
  rotate_left
  · intro V hV
    go_simp
    (try with_reducible rfl)
  simp only [put_list, List.set_cons_succ, List.set_cons_zero]
  refine wpAnyH_takeL (i := 2) (v := ?_) rfl (by kernel_rfl) (by kernel_rfl) (by kernel_rfl) (fun _ _ _ h => h) (Or.inl ⟨by kernel_rfl, ?_⟩) hS ?_
  rotate_left
  · intro V hV
    have k0 := (hV.cell (p := ⟨w.heap.size, 0, none⟩) hlx).trans cx0
    go_simp
    (try with_reducible rfl)
  simp only [put_list, List.set_cons_succ, List.set_cons_zero]
  refine wpAnyH_ready (rs := [3]) (by kernel_rfl) (by simp) (AllReadyH.cons rfl (fun K hK => ?_) AllReadyH.nil)
  go_simp
  refine (C1.out _).mono ?_
  rintro e U1 ⟨rfl, hbc⟩
  refine hK.out _ _ (hS.trans (hbc.mono hS.size)) (fun hS => ?_)
  clear hK K hbc
  refine wpAnyH_takeL (i := 4) (v := ?_) rfl (by kernel_rfl) (by kernel_rfl) (by kernel_rfl) (fun _ _ _ h => h) (Or.inl ⟨by kernel_rfl, ?_⟩) hS ?_
  rotate_left
  · intro V hV
    go_simp
    (try with_reducible rfl)
  simp only [put_list, List.set_cons_succ, List.set_cons_zero]
  refine wpAnyH_done (by kernel_rfl) ?_ _
  have q0 := (hS.cell (p := ⟨w.heap.size, 0, none⟩) hlx).trans cx0
  clear cx0 cx1 cx2 cx3
  go_wp2_with fail
  refine bodyPost_ret (v := .tuple #[.int .u64 0, .bool false]) (by simp [results, Tryd.results73, go_sem]) rfl ⟨rfl, HBW.out.trans (hS.mono HBW.out.size)⟩

/-- Four cells. -/
def c4 (g : Nat → Nat) : Array Value := #[.int .u64 (g 0), .int .u64 (g 1), .int .u64 (g 2), .int .u64 (g 3)]

/-- A byte of a number. -/
def byt (X k : Nat) : Nat := X / 2 ^ (8 * k) % 256

/-- Thirty-two cells. -/
def c32 (g : Nat → Nat) : Array Value := #[.int .u8 (g 0), .int .u8 (g 1), .int .u8 (g 2), .int .u8 (g 3), .int .u8 (g 4), .int .u8 (g 5), .int .u8 (g 6), .int .u8 (g 7), .int .u8 (g 8), .int .u8 (g 9), .int .u8 (g 10), .int .u8 (g 11), .int .u8 (g 12), .int .u8 (g 13), .int .u8 (g 14), .int .u8 (g 15), .int .u8 (g 16), .int .u8 (g 17), .int .u8 (g 18), .int .u8 (g 19), .int .u8 (g 20), .int .u8 (g 21), .int .u8 (g 22), .int .u8 (g 23), .int .u8 (g 24), .int .u8 (g 25), .int .u8 (g 26), .int .u8 (g 27), .int .u8 (g 28), .int .u8 (g 29), .int .u8 (g 30), .int .u8 (g 31)]

theorem set32 (g : Nat → Nat) {j : Nat} (v : Nat) (h : j < 32) : (c32 g).setIfInBounds j (.int .u8 v) = c32 (fun i => if i = j then v else g i) := by
  match j, h with
  | 0, _ => rfl
  | 1, _ => rfl
  | 2, _ => rfl
  | 3, _ => rfl
  | 4, _ => rfl
  | 5, _ => rfl
  | 6, _ => rfl
  | 7, _ => rfl
  | 8, _ => rfl
  | 9, _ => rfl
  | 10, _ => rfl
  | 11, _ => rfl
  | 12, _ => rfl
  | 13, _ => rfl
  | 14, _ => rfl
  | 15, _ => rfl
  | 16, _ => rfl
  | 17, _ => rfl
  | 18, _ => rfl
  | 19, _ => rfl
  | 20, _ => rfl
  | 21, _ => rfl
  | 22, _ => rfl
  | 23, _ => rfl
  | 24, _ => rfl
  | 25, _ => rfl
  | 26, _ => rfl
  | 27, _ => rfl
  | 28, _ => rfl
  | 29, _ => rfl
  | 30, _ => rfl
  | 31, _ => rfl
  | k + 32, h => exact absurd h (by omega)

theorem c32_congr {f g : Nat → Nat} (h : ∀ j, j < 32 → f j = g j) : c32 f = c32 g := by
  unfold c32
  rw [h 0 (by decide), h 1 (by decide), h 2 (by decide), h 3 (by decide), h 4 (by decide), h 5 (by decide), h 6 (by decide), h 7 (by decide), h 8 (by decide), h 9 (by decide), h 10 (by decide), h 11 (by decide), h 12 (by decide), h 13 (by decide), h 14 (by decide), h 15 (by decide), h 16 (by decide), h 17 (by decide), h 18 (by decide), h 19 (by decide), h 20 (by decide), h 21 (by decide), h 22 (by decide), h 23 (by decide), h 24 (by decide), h 25 (by decide), h 26 (by decide), h 27 (by decide), h 28 (by decide), h 29 (by decide), h 30 (by decide), h 31 (by decide)]

/-- Where the bytes have come to. -/
structure YI (t : Nat) (w wr : World) (A k : Nat) : Prop where
  x : wr.heap[w.heap.size]? = some (.cells (c4 (limb A)) t (0, 0))
  r : wr.heap[w.heap.size + 1]? = some (.cells (c32 (fun _ => 0)) 112 (0, 0))
  o : ∃ g : Nat → Nat, wr.heap[w.heap.size + 1 + 1]? = some (.cells (c32 g) 112 (0, 0)) ∧ ∀ j, j < 32 → 32 - k ≤ j → g j = byt A (31 - j)
  b : Below w.heap.size w wr

theorem YI.put {t : Nat} {w wr : World} {A k : Nat} (I : YI t w wr A k) (hk : k < 32) : YI t w (wr.setCell ⟨w.heap.size + 1 + 1, 31 - k, none⟩ (.int .u8 (byt A k))) A (k + 1) := by
  obtain ⟨g, hg, hj⟩ := I.o
  have o1 : ∀ b, b ≠ w.heap.size + 1 + 1 → (wr.setCell ⟨w.heap.size + 1 + 1, 31 - k, none⟩ (.int .u8 (byt A k))).heap[b]? = wr.heap[b]? := fun b h => Below.heap_setCell wr _ _ b h
  refine ⟨(o1 _ (by omega)).trans I.x, (o1 _ (by omega)).trans I.r, ⟨fun i => if i = 31 - k then byt A k else g i, ?_, fun j h1 h2 => ?_⟩, I.b.setCell (p := ⟨w.heap.size + 1 + 1, 31 - k, none⟩) (by simp <;> omega) _⟩
  · have := blk_set (o := 31 - k) hg (.int .u8 (byt A k))
    rw [set32 g _ (by omega)] at this
    exact this
  · show (if j = 31 - k then byt A k else g j) = _
    by_cases h : j = 31 - k
    · rw [if_pos h, h, show 31 - (31 - k) = k by omega]
    · rw [if_neg h]; exact hj j h1 (by omega)

theorem YI.done {t : Nat} {w wr : World} {A : Nat} (I : YI t w wr A 32) : wr.heap[w.heap.size + 1 + 1]? = some (.cells (c32 (fun j => byt A (31 - j))) 112 (0, 0)) := by
  obtain ⟨g, hg, hj⟩ := I.o
  rw [hg, c32_congr (fun j h => hj j h (by omega))]

theorem Tryd.bytes5 : (Tryd.prog.info? 5).map (fun i => (i.zero, i.size, i.bytes)) = some (some (.int .u8 0), 1, 1) := by kernel_rfl

/-- Words are equal just if their numbers are. -/
theorem eq_wv (X Y : Nat) (W : World) : (Op.equalIn 10000 30 (wv X) (wv Y)).run Tryd.prog W = .ok (decide (X % M256 = Y % M256)) W := by
  obtain ⟨x0, x1, x2, x3, hx0, hx1, hx2, hx3, eX, hX⟩ := wv_limbs X
  obtain ⟨y0, y1, y2, y3, hy0, hy1, hy2, hy3, eY, hY⟩ := wv_limbs Y
  rw [hX, hY, eq_words]
  congr 1
  rw [Bool.eq_iff_iff]
  simp only [Bool.and_eq_true, beq_iff_eq, decide_eq_true_eq]
  constructor
  · rintro ⟨a, b, c, d⟩
    rw [eX, eY, Int.ofNat.inj a, Int.ofNat.inj b, Int.ofNat.inj c, Int.ofNat.inj d]
  · intro h
    rw [eX, eY] at h
    unfold num at h
    omega

end Go.Proofs.YtaeadndihchbnaaDoor
