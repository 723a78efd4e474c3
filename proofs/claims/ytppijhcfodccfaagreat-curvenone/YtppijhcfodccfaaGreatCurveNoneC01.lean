/-
  What walks of package field take: limbs, sums and differences of limbs, products, boxes.
-/
import Derived.Test.YtppijhcfodccfaaGreatProg
import Derived.WalkKit
import Derived.WalkLawsBesides
import Derived.WalkSpells
import Derived.BigQuiet
import Derived.Deep.QuietTactic
import Derived.Laws.Externs
import Derived.Shelf.Spec.BitsCarry
import Derived.Lib.Mul64
import Derived.Laws.Bits64b
import Derived.Lib.Strings
import Derived.Lib.Slices
import Derived.Lib.Small
import Derived.Lib.Walk
import Derived.Lib.BitFns
import Derived.Deep.RegionHeld
import Derived.Deep.MidRow
namespace Go.Proofs.YtppijhcfodccfaaGreat
open Go.RowKit Go.Shelf

theorem blk_cell {w : World} {p t o : Nat} {cs : Array Value} {v : Value} (h : w.heap[p]? = some (.cells cs t (0, 0))) (hv : cs[o]? = some v) : w.cell? ⟨p, o, none⟩ = some v := by
  simp [World.cell?, h, hv]

theorem blk_free {w : World} {p t o : Nat} {cs : Array Value} (h : w.heap[p]? = some (.cells cs t (0, 0))) : w.frozen? ⟨p, o, none⟩ = false := by
  simp [World.frozen?, h]

theorem blk_set {w : World} {p t o : Nat} {cs : Array Value} (h : w.heap[p]? = some (.cells cs t (0, 0))) (v : Value) : (w.setCell ⟨p, o, none⟩ v).heap[p]? = some (.cells (cs.setIfInBounds o v) t (0, 0)) := by
  simp [World.setCell, Array.getElem?_modify, h]

theorem hideP {p : Prop} (h : p) : Hid p := h

theorem heap_new (w : World) (a : Obj) : (w.alloc a).heap[w.heap.size]? = some a := heap_alloc_new w a

theorem heap_new1 (w : World) (a b : Obj) : ((w.alloc a).alloc b).heap[w.heap.size + 1]? = some b := by
  have := heap_alloc_new (w.alloc a) b
  rwa [World.size_alloc] at this

theorem heap_new2 (w : World) (a b c : Obj) : (((w.alloc a).alloc b).alloc c).heap[w.heap.size + 1 + 1]? = some c := by
  have := heap_alloc_new ((w.alloc a).alloc b) c
  rwa [World.size_alloc, World.size_alloc] at this

theorem heap_new3 (w : World) (a b c d : Obj) : ((((w.alloc a).alloc b).alloc c).alloc d).heap[w.heap.size + 1 + 1 + 1]? = some d := by
  have := heap_alloc_new (((w.alloc a).alloc b).alloc c) d
  rwa [World.size_alloc, World.size_alloc, World.size_alloc] at this

theorem heap_old (w : World) (a : Obj) {k : Nat} (h : k < w.heap.size) : (w.alloc a).heap[k]? = w.heap[k]? := Below.heap_alloc w a k h

theorem add64_run (x y c : Nat) (hc : c ≤ 1) (w : World) :
    (callFunc 221 #[.int .u64 x, .int .u64 y, .int .u64 c]).run Tryz.prog w =
      .ok (.value (.tuple #[.int .u64 (((x + y + c) % 18446744073709551616 : Nat) : Int), .int .u64 (((x + y + c) / 18446744073709551616 : Nat) : Int)])) w := by
  rw [run_callFunc_extern Tryz.func221 (by kernel_rfl) (by kernel_rfl) (by kernel_rfl) (e := add64Entry) (by kernel_rfl), run_add64 x y c (by omega) (by omega) (by omega) (by omega)]
  simp only [Result.andThen]
  congr 5 <;> omega

theorem sub64_run (x y b : Nat) (hb : b ≤ 1) (w : World) :
    (callFunc 248 #[.int .u64 x, .int .u64 y, .int .u64 b]).run Tryz.prog w =
      .ok (.value (.tuple #[.int .u64 (((x + 18446744073709551616 - y - b) % 18446744073709551616 : Nat) : Int), .int .u64 ((if x < y + b then 1 else 0 : Nat) : Int)])) w := by
  rw [run_callFunc_extern Tryz.func248 (by kernel_rfl) (by kernel_rfl) (by kernel_rfl) (e := sub64Entry) (by kernel_rfl), run_sub64 x y b hb]
  rfl

/-- A sum of limbs. -/
theorem add64_ex (x y c : Nat) (hx : x < 18446744073709551616) (hy : y < 18446744073709551616) (hc : c ≤ 1) : ∃ s d : Nat, s < 18446744073709551616 ∧ d ≤ 1 ∧ x + y + c = s + 18446744073709551616 * d ∧
    ∀ w, (callFunc 221 #[.int .u64 x, .int .u64 y, .int .u64 c]).run Tryz.prog w = .ok (.value (.tuple #[.int .u64 s, .int .u64 d])) w :=
  ⟨_, _, by omega, by omega, by omega, fun w => add64_run x y c hc w⟩

theorem add64_ex0 (x y : Nat) (hx : x < 18446744073709551616) (hy : y < 18446744073709551616) : ∃ s d : Nat, s < 18446744073709551616 ∧ d ≤ 1 ∧ x + y = s + 18446744073709551616 * d ∧
    ∀ w, (callFunc 221 #[.int .u64 x, .int .u64 y, .int .u64 0]).run Tryz.prog w = .ok (.value (.tuple #[.int .u64 s, .int .u64 d])) w :=
  ⟨_, _, by omega, by omega, by omega, fun w => add64_run x y 0 (by omega) w⟩

/-- A difference of limbs. -/
theorem sub64_ex (x y b : Nat) (hx : x < 18446744073709551616) (hy : y < 18446744073709551616) (hb : b ≤ 1) : ∃ s d : Nat, s < 18446744073709551616 ∧ d ≤ 1 ∧ x + 18446744073709551616 * d = s + y + b ∧
    ∀ w, (callFunc 248 #[.int .u64 x, .int .u64 y, .int .u64 b]).run Tryz.prog w = .ok (.value (.tuple #[.int .u64 s, .int .u64 d])) w := by
  refine ⟨_, _, Nat.mod_lt _ (by decide), ?_, ?_, fun w => sub64_run x y b hb w⟩
  · split <;> omega
  · split <;> omega

namespace M64
theorem maskN (a : Nat) (ha : a < 18446744073709551616) : bits .and .u64 (a : Int) 4294967295 = ((a % 4294967296 : Nat) : Int) := by
  have h := bits_and_u64_nat a 4294967295 ha (by omega)
  have e : a &&& 4294967295 = a % 4294967296 := Nat.and_two_pow_sub_one_eq_mod a 32
  rw [e] at h
  exact h

theorem divN (a : Nat) : (a : Int) / 4294967296 = ((a / 4294967296 : Nat) : Int) := by omega

theorem mulN (a b : Nat) : (a : Int) * (b : Int) = ((a * b : Nat) : Int) := (Int.natCast_mul a b).symm

theorem addN (a b : Nat) : (a : Int) + (b : Int) = ((a + b : Nat) : Int) := (Int.natCast_add a b).symm

theorem wrapN (a : Nat) (ha : a < 18446744073709551616) : IntKind.u64.wrap (a : Int) = (a : Int) := by rw [IntKind.wrap_u64]; omega

theorem wrapM (a : Nat) : IntKind.u64.wrap (a : Int) = ((a % 18446744073709551616 : Nat) : Int) := by rw [IntKind.wrap_u64]; omega

end M64
set_option maxHeartbeats 1000000 in
theorem mul64_any (x y : Nat) (hx : x < 18446744073709551616) (hy : y < 18446744073709551616) (w : World) :
    Calls Tryz.prog 249 #[.int .u64 x, .int .u64 y] w fun e w' => e = .returned (.tuple #[.int .u64 ((x * y / 18446744073709551616 : Nat) : Int), .int .u64 ((x * y % 18446744073709551616 : Nat) : Int)]) ∧ w = w' := by
  obtain ⟨bd, bt, bw, hhi⟩ := Lib.mul64_hi x y hx hy
  have ba := Lib.half_mul_le (a := x / 4294967296) (b := y / 4294967296) (by omega) (by omega)
  have bb := Lib.half_mul_le (a := x / 4294967296) (b := y % 4294967296) (by omega) (by omega)
  have bc := Lib.half_mul_le (a := x % 4294967296) (b := y / 4294967296) (by omega) (by omega)
  have ba' : x / 4294967296 * (y / 4294967296) < 18446744073709551616 := by omega
  have bb' : x / 4294967296 * (y % 4294967296) < 18446744073709551616 := by omega
  have bc' : x % 4294967296 * (y / 4294967296) < 18446744073709551616 := by omega
  have bh1 : x / 4294967296 * (y / 4294967296) + (x / 4294967296 * (y % 4294967296) + x % 4294967296 * (y % 4294967296) / 4294967296) / 4294967296 < 18446744073709551616 := by omega
  have bh : x / 4294967296 * (y / 4294967296) + (x / 4294967296 * (y % 4294967296) + x % 4294967296 * (y % 4294967296) / 4294967296) / 4294967296 + ((x / 4294967296 * (y % 4294967296) + x % 4294967296 * (y % 4294967296) / 4294967296) % 4294967296 + x % 4294967296 * (y / 4294967296)) / 4294967296 < 18446744073709551616 := by omega
  go_enter Tryz.func249, Tryz.ntmps249
  go_wp2
  simp only [M64.maskN x hx, M64.maskN y hy, M64.divN, M64.mulN, M64.addN, M64.wrapN _ bd, M64.wrapN _ bb', M64.wrapN _ bt, M64.maskN _ bt, M64.wrapN _ bc', M64.wrapN _ bw, M64.wrapN _ ba', M64.wrapN _ bh1, M64.wrapN _ bh, M64.wrapM (x * y)]
  rw [hhi]
  go_ret2
  exact ⟨rfl, rfl⟩

theorem prod_le {x y B : Nat} (hx : x < B) (hy : y < B) : x * y + 2 * B ≤ B * B + 1 := by
  have h : x * y ≤ (B - 1) * (B - 1) := Nat.mul_le_mul (by omega) (by omega)
  obtain ⟨C, rfl⟩ : ∃ C, B = C + 1 := ⟨B - 1, by omega⟩
  simp only [Nat.add_sub_cancel] at h
  have e : (C + 1) * (C + 1) = C * C + 2 * C + 1 := by rw [Nat.add_mul, Nat.mul_add]; omega
  omega

set_option maxHeartbeats 400000 in
set_option maxRecDepth 100000 in
theorem multiplyAdd_any (x y a b : Nat) (hx : x < 18446744073709551616) (hy : y < 18446744073709551616) (ha : a < 18446744073709551616) (hb : b < 18446744073709551616) (w : World) :
    Calls Tryz.prog 220 #[.int .u64 x, .int .u64 y, .int .u64 a, .int .u64 b] w fun e w' => ∃ h l : Nat, e = .returned (.tuple #[.int .u64 h, .int .u64 l]) ∧ (h < 18446744073709551616 ∧ l < 18446744073709551616 ∧ x * y + a + b = l + 18446744073709551616 * h) ∧ w = w' := by
  have hm := mul64_any x y hx hy w
  have hle := prod_le hx hy
  obtain ⟨P, hP⟩ : ∃ P, P = x * y := ⟨_, rfl⟩
  rw [← hP] at hm hle ⊢
  clear hP
  have hlo : P % 18446744073709551616 < 18446744073709551616 := Nat.mod_lt _ (by decide)
  have hP := Nat.mod_add_div P 18446744073709551616
  generalize P % 18446744073709551616 = lo at hm hlo hP
  generalize P / 18446744073709551616 = hi at hm hP
  obtain ⟨l1, c1, i1, j1, e1, k1⟩ := add64_ex0 lo a hlo ha
  obtain ⟨l2, c2, i2, j2, e2, k2⟩ := add64_ex0 l1 b i1 hb
  have hh : hi + c1 + c2 < 18446744073709551616 := by omega
  have HR : Hid (hi + c1 + c2 < 18446744073709551616 ∧ l2 < 18446744073709551616 ∧ P + a + b = l2 + 18446744073709551616 * (hi + c1 + c2)) := ⟨hh, i2, by omega⟩
  have s1 : IntKind.u64.wrap ((hi : Int) + c1) = (hi : Int) + c1 := by rw [IntKind.wrap_u64]; omega
  have s2 : IntKind.u64.wrap ((hi : Int) + c1 + c2) = (hi : Int) + c1 + c2 := by rw [IntKind.wrap_u64]; omega
  clear hle hP hlo i1 j1 e1 i2 j2 e2 hh hx hy ha hb
  go_enter Tryz.func220, Tryz.ntmps220
  go_wp2_with (go_at_call 249; refine hm.mono ?_; rintro e w' ⟨rfl, rfl⟩)
  go_ret2
  exact ⟨hi + c1 + c2, l2, by simp, HR.out, rfl⟩

theorem multiplyAdd_ex (x y a b : Nat) (hx : x < 18446744073709551616) (hy : y < 18446744073709551616) (ha : a < 18446744073709551616) (hb : b < 18446744073709551616) :
    ∃ h l : Nat, h < 18446744073709551616 ∧ l < 18446744073709551616 ∧ x * y + a + b = l + 18446744073709551616 * h ∧
      ∀ w, Calls Tryz.prog 220 #[.int .u64 x, .int .u64 y, .int .u64 a, .int .u64 b] w fun e w' => e = .returned (.tuple #[.int .u64 h, .int .u64 l]) ∧ w = w' := by
  have hB : 0 < 18446744073709551616 := by decide
  have hle := prod_le hx hy
  refine ⟨(x * y + a + b) / 18446744073709551616, (x * y + a + b) % 18446744073709551616, ?_, Nat.mod_lt _ hB, (Nat.mod_add_div _ _).symm, fun w => ?_⟩
  · rw [Nat.div_lt_iff_lt_mul hB]; omega
  · refine (multiplyAdd_any x y a b hx hy ha hb w).mono ?_
    rintro e w' ⟨h, l, rfl, ⟨_, hl, he⟩, rfl⟩
    refine ⟨?_, rfl⟩
    have h1 : (x * y + a + b) / 18446744073709551616 = h := by rw [he, Nat.add_mul_div_left _ _ hB, Nat.div_eq_of_lt hl, Nat.zero_add]
    have h2 : (x * y + a + b) % 18446744073709551616 = l := by rw [he, Nat.add_mul_mod_self_left, Nat.mod_eq_of_lt hl]
    rw [h1, h2]

/-- A limb of a number. -/
def limb (N k : Nat) : Nat := N / 18446744073709551616 ^ k % 18446744073709551616

theorem limb_lt (N k : Nat) : limb N k < 18446744073709551616 := Nat.mod_lt _ (by decide)

set_option maxRecDepth 100000 in
theorem tab_size : (Lib.len8tab.size : Int) = 256 := by
  have : Lib.len8tab.size = 256 := by decide
  omega

theorem wrap_sum (k a b : Nat) (hk : k ≤ 56) (ha : a ≤ 8) (hb : b = k + a) : RowKit.wrap64 ((k : Int) + RowKit.wrap64 (a : Int)) = (b : Int) := by
  unfold RowKit.wrap64
  omega

theorem wrap_twice (a : Nat) (ha : a ≤ 8) : RowKit.wrap64 (RowKit.wrap64 (a : Int)) = (a : Int) := by
  unfold RowKit.wrap64
  omega

theorem tab_get (y : Int) (h : y.toNat < Lib.len8tab.size) : ((Lib.len8tab[y.toNat]'h).toNat : Int) = Lib.len8 y := by
  unfold Lib.len8
  rw [getElem?_pos Lib.len8tab y.toNat h]
  rfl

set_option maxHeartbeats 8000000 in
set_option maxRecDepth 1000000 in
theorem len64_int (x : Int) (w : World) (h0 : 0 ≤ x) (h1 : x ≤ 18446744073709551615) :
    Calls Tryz.prog 218 #[.int .u64 x] w fun e w' => e = .returned (.int .i64 (Lib.bitLen x.toNat)) ∧ w = w' := by
  go_enter Tryz.func218, Tryz.ntmps218
  go_wp2
  all_goals first
    | (go_ret; refine ⟨congrArg Ending.returned (congrArg (Value.int IntKind.i64) ?_), rfl⟩)
    | (exfalso
       have hs := tab_size
       omega)
  all_goals first
    | (rw [tab_get (x / 4294967296 / 65536 / 256) _, Lib.len8_of (x / 4294967296 / 65536 / 256) (by omega) (by omega)]
       have e : (x / 4294967296 / 65536 / 256).toNat = x.toNat / 72057594037927936 := by omega
       have l := Lib.bitLen_le8' (x / 4294967296 / 65536 / 256) (by omega) (by omega)
       have s := Lib.bitLen_shift56 x.toNat (by omega) (by omega)
       rw [e] at l ⊢
       exact wrap_sum 56 _ _ (by decide) l s)
    | (rw [tab_get (x / 4294967296 / 65536) _, Lib.len8_of (x / 4294967296 / 65536) (by omega) (by omega)]
       have e : (x / 4294967296 / 65536).toNat = x.toNat / 281474976710656 := by omega
       have l := Lib.bitLen_le8' (x / 4294967296 / 65536) (by omega) (by omega)
       have s := Lib.bitLen_shift48 x.toNat (by omega) (by omega)
       rw [e] at l ⊢
       exact wrap_sum 48 _ _ (by decide) l s)
    | (rw [tab_get (x / 4294967296 / 256) _, Lib.len8_of (x / 4294967296 / 256) (by omega) (by omega)]
       have e : (x / 4294967296 / 256).toNat = x.toNat / 1099511627776 := by omega
       have l := Lib.bitLen_le8' (x / 4294967296 / 256) (by omega) (by omega)
       have s := Lib.bitLen_shift40 x.toNat (by omega) (by omega)
       rw [e] at l ⊢
       exact wrap_sum 40 _ _ (by decide) l s)
    | (rw [tab_get (x / 4294967296) _, Lib.len8_of (x / 4294967296) (by omega) (by omega)]
       have e : (x / 4294967296).toNat = x.toNat / 4294967296 := by omega
       have l := Lib.bitLen_le8' (x / 4294967296) (by omega) (by omega)
       have s := Lib.bitLen_shift32 x.toNat (by omega) (by omega)
       rw [e] at l ⊢
       exact wrap_sum 32 _ _ (by decide) l s)
    | (rw [tab_get (x / 65536 / 256) _, Lib.len8_of (x / 65536 / 256) (by omega) (by omega)]
       have e : (x / 65536 / 256).toNat = x.toNat / 16777216 := by omega
       have l := Lib.bitLen_le8' (x / 65536 / 256) (by omega) (by omega)
       have s := Lib.bitLen_shift24 x.toNat (by omega) (by omega)
       rw [e] at l ⊢
       exact wrap_sum 24 _ _ (by decide) l s)
    | (rw [tab_get (x / 65536) _, Lib.len8_of (x / 65536) (by omega) (by omega)]
       have e : (x / 65536).toNat = x.toNat / 65536 := by omega
       have l := Lib.bitLen_le8' (x / 65536) (by omega) (by omega)
       have s := Lib.bitLen_shift16 x.toNat (by omega) (by omega)
       rw [e] at l ⊢
       exact wrap_sum 16 _ _ (by decide) l s)
    | (rw [tab_get (x / 256) _, Lib.len8_of (x / 256) (by omega) (by omega)]
       have e : (x / 256).toNat = x.toNat / 256 := by omega
       have l := Lib.bitLen_le8' (x / 256) (by omega) (by omega)
       have s := Lib.bitLen_shift8 x.toNat (by omega) (by omega)
       rw [e] at l ⊢
       exact wrap_sum 8 _ _ (by decide) l s)
    | (rw [tab_get x _, Lib.len8_of x (by omega) (by omega)]
       exact wrap_twice _ (Lib.bitLen_le8' x (by omega) (by omega)))

theorem len64_any (x : Nat) (w : World) (h : x < 18446744073709551616) :
    Calls Tryz.prog 218 #[.int .u64 x] w fun e w' => e = .returned (.int .i64 (Lib.bitLen x)) ∧ w = w' := by
  have := len64_int x w (by omega) (by omega)
  simpa using this

theorem bitLen_pos {x : Nat} (h : 0 < x) (hx : x < 18446744073709551616) : 1 ≤ Lib.bitLen x ∧ Lib.bitLen x ≤ 64 := by
  refine ⟨?_, Lib.bitLen_le x 64 (by omega) (by simpa using hx)⟩
  have := Lib.bitLen_half x (by omega) (by simpa using hx)
  omega

theorem bitLen_upper : ∀ (k x : Nat), x < 2 ^ 64 → Lib.bitLen x ≤ k → x < 2 ^ k
  | 0, x, hx, h => by
    rcases Nat.eq_zero_or_pos x with rfl | h0
    · simp
    · have := Lib.bitLen_half x (by omega) hx; omega
  | k + 1, x, hx, h => by
    rcases Nat.eq_zero_or_pos x with rfl | h0
    · exact Nat.two_pow_pos _
    · have h1 := Lib.bitLen_half x (by omega) hx
      have h2 := bitLen_upper k (x / 2) (by omega) (by omega)
      rw [Nat.pow_succ]; omega

theorem bitLen_lower {x k : Nat} (hk : k ≤ 64) (h : k < Lib.bitLen x) : 2 ^ k ≤ x := by
  apply Nat.le_of_not_lt
  intro hc
  have := Lib.bitLen_le x k hk hc
  omega

theorem wp_region_heldS {P : Program} {ops : Array Oper} {Q : Exit → Act → World → Prop} {S : World → Prop} {id : Nat} {a : Act} {w : World} (hm : P.follows .mixedOrders = true) (hS : S w.drew)
    (h : S w.drew → wpAnyH P .any ops Q S ops.size (Array.replicate ops.size false) a w.drew) : (Code.region id ops true).wp P Q a w :=
  wp_region_held hm (h hS)

theorem wpAnyH_takeL {P : Program} {l : List Oper} {Q : Exit → Act → World → Prop} {md : Region.Mode} {S : World → Prop} {i : Nat} {oi : Oper} {v : Value} {fuel : Nat} {listed : Array Bool} {a : Act} {w : World} (hi : l[i]? = some oi)
    (hs : Region.noSelect l.toArray = true) (hf : Region.free md l.toArray listed i = true) (hr : (Region.ready md l.toArray listed).contains i = true)
    (hQ : ∀ c a w, Q (.panic c) (a.put oi.dst v) w → Q (.panic c) a w) (hy : YieldsIf P l.toArray S oi v a) (hS : S w)
    (h : wpAnyH P md l.toArray Q S fuel (listed.setIfInBounds i true) (a.put oi.dst v) w) : wpAnyH P md l.toArray Q S (fuel + 1) listed a w :=
  wpAnyH_take (by simpa using hi) hs hf hr hQ hy hS h

theorem put_list (l : List Value) (ds : List Deferred) (d : Nat) (v : Value) : Act.put { tmps := l.toArray, defers := ds } (some d) v = { tmps := (l.set d v).toArray, defers := ds } := by
  simp [Act.put]

/-- The number of the first n limbs. -/
def val (g : Nat → Nat) : Nat → Nat
  | 0 => 0
  | n + 1 => val g n + g n * 18446744073709551616 ^ n

theorem val_lt {g : Nat → Nat} (n : Nat) (h : ∀ j, j < n → g j < 18446744073709551616) : val g n < 18446744073709551616 ^ n := by
  induction n with
  | zero => simp [val]
  | succ n ih =>
    have h1 := ih (fun j hj => h j (by omega))
    have h2 : (g n + 1) * 18446744073709551616 ^ n ≤ 18446744073709551616 * 18446744073709551616 ^ n := Nat.mul_le_mul_right _ (h n (by omega))
    rw [Nat.pow_succ, Nat.mul_comm _ 18446744073709551616]
    rw [Nat.add_mul, Nat.one_mul] at h2
    unfold val
    omega

theorem val_congr {f g : Nat → Nat} (n : Nat) (h : ∀ j, j < n → f j = g j) : val f n = val g n := by
  induction n with
  | zero => rfl
  | succ n ih => unfold val; rw [ih (fun j hj => h j (by omega)), h n (by omega)]

theorem val_add (g : Nat → Nat) (a n : Nat) : val g (a + n) = val g a + val (fun j => g (a + j)) n * 18446744073709551616 ^ a := by
  induction n with
  | zero => simp [val]
  | succ n ih =>
    rw [← Nat.add_assoc]
    show val g (a + n) + g (a + n) * 18446744073709551616 ^ (a + n) = val g a + (val (fun j => g (a + j)) n + g (a + n) * 18446744073709551616 ^ n) * 18446744073709551616 ^ a
    rw [ih, Nat.add_mul, Nat.pow_add, Nat.mul_assoc (g (a + n)), Nat.mul_comm (18446744073709551616 ^ a) (18446744073709551616 ^ n)]
    omega

theorem val_limb (N n : Nat) : val (limb N) n = N % 18446744073709551616 ^ n := by
  induction n with
  | zero => simp [val, Nat.mod_one]
  | succ n ih =>
    unfold val
    rw [ih]
    unfold limb
    rw [Nat.pow_succ, Nat.mod_mul, Nat.mul_comm (18446744073709551616 ^ n)]

theorem limb_val {g : Nat → Nat} (n : Nat) (h : ∀ j, j < n → g j < 18446744073709551616) {i : Nat} (hi : i < n) : limb (val g n) i = g i := by
  obtain ⟨d, rfl⟩ : ∃ d, n = i + 1 + d := ⟨n - (i + 1), by omega⟩
  rw [val_add]
  unfold limb
  have h1 := val_lt i (fun j hj => h j (by omega))
  have e : val g (i + 1) + val (fun j => g (i + 1 + j)) d * 18446744073709551616 ^ (i + 1) = val g i + 18446744073709551616 ^ i * (g i + 18446744073709551616 * val (fun j => g (i + 1 + j)) d) := by
    show val g i + g i * 18446744073709551616 ^ i + _ = _
    rw [Nat.pow_succ, Nat.mul_add, Nat.mul_comm (g i), ← Nat.mul_assoc (18446744073709551616 ^ i), Nat.mul_comm (val (fun j => g (i + 1 + j)) d)]
    omega
  rw [e, Nat.add_mul_div_left _ _ (Nat.pow_pos (by decide)), Nat.div_eq_of_lt h1, Nat.zero_add, Nat.add_mul_mod_self_left, Nat.mod_eq_of_lt (h i (by omega))]

/-- All but the block L is as it was. -/
structure But (L : Nat) (W V : World) : Prop where
  same : ∀ b, b ≠ L → V.heap[b]? = W.heap[b]?
  below : Below L W V

theorem But.refl (L : Nat) (W : World) : But L W W := ⟨fun _ _ => rfl, Below.refl _ _⟩

theorem But.set {L : Nat} {W V : World} (h : But L W V) (o : Nat) (v : Value) : But L W (V.setCell ⟨L, o, none⟩ v) :=
  ⟨fun b hb => (Below.heap_setCell V _ v b hb).trans (h.same b hb), h.below.setCell (p := ⟨L, o, none⟩) (Nat.le_refl _) v⟩

theorem But.drew {L : Nat} {W V : World} (h : But L W V) : But L W V.drew := ⟨h.same, h.below.drew⟩

theorem But.trans {L : Nat} {W V U : World} (h : But L W V) (g : But L V U) : But L W U := ⟨fun b hb => (g.same b hb).trans (h.same b hb), h.below.trans g.below⟩

theorem But.cell {L : Nat} {W V : World} (h : But L W V) {b o : Nat} (hb : b ≠ L) : V.cell? ⟨b, o, none⟩ = W.cell? ⟨b, o, none⟩ := by
  simp only [World.cell?, h.same b hb]

theorem at_world {P : Program} {c : Code} {Q : Exit → Act → World → Prop} {a : Act} {w : World} (h : ∀ W0, W0 = w → c.wp P Q a W0) : c.wp P Q a w := h w rfl

section
variable {W0 V V' : World} {R : Nat}
theorem lt_of_block {W : World} {b : Nat} {o : Obj} (h : W.heap[b]? = some o) : b < W.heap.size := (Array.getElem?_eq_some_iff.1 h).1

end

theorem top_zero_m {N m : Nat} (hN : N < 18446744073709551616 ^ m) : ∀ (d n : Nat), n + d = m → (∀ j, n ≤ j → j < m → limb N j = 0) → N < 18446744073709551616 ^ n := by
  intro d
  induction d with
  | zero => intro n h _; rwa [show n = m by omega]
  | succ d ih =>
    intro n h hz
    have h1 := ih (n + 1) (by omega) (fun j h1 h2 => hz j (by omega) h2)
    have h2 := hz n (Nat.le_refl _) (by omega)
    unfold limb at h2
    rw [Nat.mod_eq_of_lt (by rw [Nat.div_lt_iff_lt_mul (Nat.pow_pos (by decide)), Nat.mul_comm, ← Nat.pow_succ]; exact h1)] at h2
    exact (Nat.div_eq_zero_iff_lt (Nat.pow_pos (by decide))).1 h2

/-- How many bits a number has: the top limb's, and 64 for each limb below it. -/
theorem bits_lt {Z j : Nat} (ht : Z < 18446744073709551616 ^ (j + 1)) : Z < 2 ^ (64 * j + Lib.bitLen (limb Z j)) := by
  have hl := limb_lt Z j
  have hb := bitLen_upper _ (limb Z j) (by simpa using hl) (Nat.le_refl _)
  have hd : Z / 18446744073709551616 ^ j = limb Z j := by
    unfold limb
    rw [Nat.mod_eq_of_lt]
    rw [Nat.div_lt_iff_lt_mul (Nat.pow_pos (by decide)), Nat.mul_comm, ← Nat.pow_succ]
    exact ht
  have h2 : Z < (limb Z j + 1) * 18446744073709551616 ^ j := by
    rw [← hd]
    have := Nat.lt_mul_div_succ Z (Nat.pow_pos (n := j) (show 0 < 18446744073709551616 by decide))
    rw [Nat.mul_comm]
    exact this
  refine Nat.lt_of_lt_of_le h2 ?_
  rw [Nat.pow_add, Nat.mul_comm, show (18446744073709551616 : Nat) = 2 ^ 64 by decide, ← Nat.pow_mul]
  exact Nat.mul_le_mul_left _ hb

/-- How many bits a number has, from below. -/
theorem bits_ge {Z j : Nat} (hnz : limb Z j ≠ 0) : 2 ^ (64 * j + Lib.bitLen (limb Z j) - 1) ≤ Z := by
  have hl := limb_lt Z j
  obtain ⟨h1, h2⟩ := bitLen_pos (x := limb Z j) (by omega) hl
  have hb := bitLen_lower (x := limb Z j) (k := Lib.bitLen (limb Z j) - 1) (by omega) (by omega)
  have hd : limb Z j ≤ Z / 18446744073709551616 ^ j := Nat.mod_le _ _
  have h3 : limb Z j * 18446744073709551616 ^ j ≤ Z := Nat.le_trans (Nat.mul_le_mul_right _ hd) (Nat.div_mul_le_self _ _)
  refine Nat.le_trans ?_ h3
  rw [show 64 * j + Lib.bitLen (limb Z j) - 1 = (Lib.bitLen (limb Z j) - 1) + 64 * j by omega, Nat.pow_add, show (18446744073709551616 : Nat) = 2 ^ 64 by decide, ← Nat.pow_mul]
  exact Nat.mul_le_mul_right _ hb

theorem But.sets {L : Nat} {W : World} : ∀ (vs : List Value) (o : Nat) {V : World}, But L W V → But L W (V.setCells L o vs)
  | [], _, _, h => h
  | v :: r, o, _, h => by rw [World.setCells]; exact But.sets r (o + 1) (h.set o v)

/-- Values written into a row one after another. -/
def putAll (cs : Array Value) (o : Nat) : List Value → Array Value
  | [] => cs
  | v :: r => putAll (cs.setIfInBounds o v) (o + 1) r

theorem blk_sets {p t : Nat} : ∀ (vs : List Value) (o : Nat) {w : World} {cs : Array Value}, w.heap[p]? = some (.cells cs t (0, 0)) → (w.setCells p o vs).heap[p]? = some (.cells (putAll cs o vs) t (0, 0))
  | [], _, _, _, h => h
  | v :: r, o, _, _, h => by rw [World.setCells]; exact blk_sets r (o + 1) (blk_set h v)

theorem put_same (a : Act) (d : Nat) (v : Value) (h : d < a.tmps.size) : (a.put (some d) v).eval (.tmp d) = v := by
  simp [Act.put, Act.eval, Array.getD, h]

theorem put_ne (a : Act) {d j : Nat} (v : Value) (h : d ≠ j) : (a.put (some d) v).eval (.tmp j) = a.eval (.tmp j) :=
  Act.eval_put (fun d' hd' e => by cases hd'; cases e; exact h rfl)

theorem results_cell {P : Program} {fn : Func} {ts : Array Value} {w : World} {j ty : Nat} {p : Addr} {v : Value} (hf : fn.results = #[.cell j ty]) (hj : ts.getD j undef = .pointer (some p)) (h : (loadVar ty p).run P w = .ok v w) :
    (results fn ts).run P w = .ok v w := by
  unfold results
  rw [hf]
  rw [Array.getD_eq_getD_getElem?] at hj
  simp [hj, asAddr, h]

/-- A slot that is set, if the variable is made. -/
def setO (d : Nat) (p : Option Nat) (t : List Value) : List Value := match p with | none => t | some b => t.set d (.pointer (some ⟨b, 0, none⟩))

theorem setO_set {d c : Nat} {p : Option Nat} {t : List Value} {v : Value} (h : d ≠ c) : (setO d p t).set c v = setO d p (t.set c v) := by
  cases p with
  | none => rfl
  | some b => exact List.set_comm _ _ h

theorem setO_get {d s : Nat} {p : Option Nat} {t : List Value} (h : d ≠ s) : (setO d p t)[s]? = t[s]? := by
  cases p with
  | none => rfl
  | some b => exact List.getElem?_set_ne h

/-- A new variable of these cells. -/
def FreshZ (zc : Array Value) (t N : Nat) (w : World) (p : Option Nat) : Prop := ∀ b, p = some b → N ≤ b ∧ w.heap[b]? = some (.cells zc t (0, 0))

section
variable {zc : Array Value} {t N : Nat} {w w' : World} {p : Option Nat}
theorem FreshZ.none : FreshZ zc t N w none := fun _ h => by cases h

theorem FreshZ.call (h : FreshZ zc t N w p) (hb : Below w.heap.size w w') : FreshZ zc t N w' p := fun b e => by
  obtain ⟨h1, h2⟩ := h b e
  exact ⟨h1, (hb.block b (lt_of_block h2)).trans h2⟩

theorem FreshZ.alloc (h : FreshZ zc t N w p) (o : Obj) : FreshZ zc t N (w.alloc o) p := fun b e => by
  obtain ⟨h1, h2⟩ := h b e
  exact ⟨h1, (heap_old _ _ (lt_of_block h2)).trans h2⟩

theorem FreshZ.new (hN : N ≤ w.heap.size) : FreshZ zc t N (w.alloc (.cells zc t (0, 0))) (some w.heap.size) := fun b e => by
  cases e
  exact ⟨hN, heap_new _ _⟩

end

theorem wpOp_stepT {P : Program} {l : List Oper} {Q : Exit → Act → World → Prop} {i : Nat} {o : Oper} {K : Act → World → Prop} {a : Act} {w : World} (ho : l[i]? = some o)
    (h : ∀ K' : Act → World → Prop, (∀ a w, K a w → K' a w) → if Region.wanted o (yielded l.toArray a.tmps) = true then Oper.wp P o a w K' Q else K' (a.put o.dst undef) w) : wpOp P l.toArray Q i K a w :=
  wpOp_step (by simpa using ho) h

theorem at_world_q {P : Program} {f : FuncId} {args : Array Value} {w : World} {Q : Ending → World → Prop} (h : ∀ W0, W0 = w → Calls P f args W0 Q) : Calls P f args w Q := h w rfl

theorem rangeOf {w : World} {b t : Nat} {C : Array Value} (h : w.heap[b]? = some (.cells C t (0, 0))) : w.rangeAt b 0 C.toList := fun j v hv =>
  blk_cell (o := 0 + j) (v := v) h (by rw [Nat.zero_add]; rw [Array.getElem?_toList] at hv; exact hv)

theorem thereOf {w : World} {b t : Nat} {C : Array Value} (h : w.heap[b]? = some (.cells C t (0, 0))) : w.there b 0 C.size := fun j hj =>
  ⟨(rangeOf h).isSome j (by rw [Array.length_toList]; exact hj), blk_free h⟩

/-- A bit of a number. -/
def bt (X i : Nat) : Nat := X / 2 ^ i % 2

theorem put_none (a : Act) (v : Value) : a.put none v = a := rfl

section
variable {P : Program} {md : Region.Mode} {ops : Array Oper} {Q : Exit → Act → World → Prop} {S : World → Prop}
/-- A stage of a region that may end at several states. -/
theorem wpAnyH_stageE {Φ : Nat → Array Bool → Act → World → Prop}
    (hstep : ∀ k listed a w, Φ k listed a w → wpAnyH P md ops Q S k listed a w ∨ ∃ k', k = k' + 1 ∧ Region.ready md ops listed ≠ [] ∧ ∀ i ∈ Region.ready md ops listed, wpOp P ops Q i (fun a' w' => S w' ∧ Φ k' (listed.setIfInBounds i true) a' w') a w) :
    ∀ k listed a w, Φ k listed a w → wpAnyH P md ops Q S k listed a w := by
  intro k
  induction k with
  | zero =>
    intro listed a w h
    rcases hstep 0 listed a w h with h | ⟨k', e, _⟩
    · exact h
    · cases e
  | succ k ih =>
    intro listed a w h
    rcases hstep (k + 1) listed a w h with h | ⟨k', e, h1, h2⟩
    · exact h
    · cases e
      exact ⟨fun h0 => absurd h0 h1, fun i hi => wpOp_mono (fun a' w' h' => ⟨h'.1, ih _ a' w' h'.2⟩) (h2 i hi)⟩

end
/-- The slots behind so many calls. -/
def TC (cd : Nat → Nat) (V : Nat → Value) (l : List Value) : Nat → List Value
  | 0 => l
  | i + 1 => (TC cd V l i).set (cd i) (V i)

/-- One if it is made. -/
def one? (p : Option Nat) : Nat := if p.isSome then 1 else 0

theorem not_isEmpty {α : Type} {l : List α} (h : (!l.isEmpty) = true) : l ≠ [] := fun e => by rw [e] at h; cases h

/-- Which operations may come up, state by state. -/
def chkO (md : Region.Mode) (ops : Array Oper) (n : Nat) (ci : Nat → Nat) (a1 : Nat) (L : Nat → Bool → Array Bool) : Bool :=
  ((List.range n).all fun i => [false, true].all fun p =>
    !(Region.ready md ops (L i p)).isEmpty && ((Region.ready md ops (L i p)).all fun j => j == ci i || (j == a1 && !p)) &&
    decide ((L i p).setIfInBounds (ci i) true = L (i + 1) p) && decide ((L i false).setIfInBounds a1 true = L i true)) &&
  decide (Region.ready md ops (L n false) = [a1]) && decide ((L n false).setIfInBounds a1 true = L n true)

end Go.Proofs.YtppijhcfodccfaaGreat
