/-
  Calls through interfaces; structs that are built out of parts.
-/
import Derived.Test.YtcbdbnfgnonacaaGreatProg
import Derived.WalkKit
import Derived.WalkLawsBesides
import Derived.WalkSpells
import Derived.BigQuiet
import Derived.Deep.QuietTactic
import Derived.Laws.Externs
import Derived.Shelf.Spec.BitsCarry
import Derived.Lib.Mul64
import Derived.Laws.Bits64b
import Derived.Lib.Strings
import Derived.Lib.Slices
import Derived.Lib.Small
import Derived.Lib.Walk
import Derived.Lib.BitFns
import Derived.Deep.RegionHeld
import Derived.Deep.MidRow
set_option maxHeartbeats 8000000
set_option maxRecDepth 1000000
namespace Go.Proofs.YtcbdbnfgnonacaaGreat
open Go.RowKit Go.Shelf
theorem Zs {α : Type _} {a b : α} {l : List α} {n : Nat} : (a :: l).set (n + 1) b = a :: l.set n b := rfl
theorem Zz {α : Type _} {a b : α} {l : List α} : (a :: l).set 0 b = b :: l := rfl
theorem en {P : Program} {f : FuncId} {fn : Func} {c : Code} (hf : P.funcs[f]? = some fn) (hn : (fn.name == "runtime.NumGoroutine") = false := by kernel_rfl) (hb : fn.body = some c := by rfl) : Enters P f := enters_of hf hn hb
theorem Zac {w : World} {p t o : Nat} {cs : Array Value} {v : Value} (h : w.heap[p]? = some (.cells cs t (0, 0))) (hv : cs[o]? = some v) : w.cell? ⟨p, o, none⟩ = some v := by
  simp [World.cell?, h, hv]
theorem Zap {w : World} {p t o : Nat} {cs : Array Value} (h : w.heap[p]? = some (.cells cs t (0, 0))) : w.frozen? ⟨p, o, none⟩ = false := by
  simp [World.frozen?, h]
theorem Zaw {w : World} {p t o : Nat} {cs : Array Value} (h : w.heap[p]? = some (.cells cs t (0, 0))) (v : Value) : (w.setCell ⟨p, o, none⟩ v).heap[p]? = some (.cells (cs.setIfInBounds o v) t (0, 0)) := by
  simp [World.setCell, Array.getElem?_modify, h]
theorem hideP {p : Prop} (h : p) : Hid p := h
theorem Zaf (w : World) (a : Obj) : (w.alloc a).heap[w.heap.size]? = some a := heap_alloc_new w a
theorem Zat (w : World) (a b : Obj) : ((w.alloc a).alloc b).heap[w.heap.size + 1]? = some b := by
  have := heap_alloc_new (w.alloc a) b
  rwa [World.size_alloc] at this
theorem ZaG (w : World) (a b c : Obj) : (((w.alloc a).alloc b).alloc c).heap[w.heap.size + 1 + 1]? = some c := by
  have := heap_alloc_new ((w.alloc a).alloc b) c
  rwa [World.size_alloc, World.size_alloc] at this
theorem Zch (w : World) (a b c d : Obj) : ((((w.alloc a).alloc b).alloc c).alloc d).heap[w.heap.size + 1 + 1 + 1]? = some d := by
  have := heap_alloc_new (((w.alloc a).alloc b).alloc c) d
  rwa [World.size_alloc, World.size_alloc, World.size_alloc] at this
theorem Zah (w : World) (a : Obj) {k : Nat} (h : k < w.heap.size) : (w.alloc a).heap[k]? = w.heap[k]? := Below.heap_alloc w a k h
theorem Zf9 (x y c : Nat) (hc : c ≤ 1) (w : World) :
    (callFunc 221 #[.int .u64 x, .int .u64 y, .int .u64 c]).run Tryz.prog w =
      .ok (.value (.tuple #[.int .u64 (((x + y + c) % 18446744073709551616 : Nat) : Int), .int .u64 (((x + y + c) / 18446744073709551616 : Nat) : Int)])) w := by
  rw [run_callFunc_extern Tryz.func221 (by kernel_rfl) (by kernel_rfl) (by kernel_rfl) (e := add64Entry) (by kernel_rfl), run_add64 x y c (by omega) (by omega) (by omega) (by omega)]
  simp only [Result.andThen]
  congr 5 <;> omega
theorem Zic (x y b : Nat) (hb : b ≤ 1) (w : World) :
    (callFunc 248 #[.int .u64 x, .int .u64 y, .int .u64 b]).run Tryz.prog w =
      .ok (.value (.tuple #[.int .u64 (((x + 18446744073709551616 - y - b) % 18446744073709551616 : Nat) : Int), .int .u64 ((if x < y + b then 1 else 0 : Nat) : Int)])) w := by
  rw [run_callFunc_extern Tryz.func248 (by kernel_rfl) (by kernel_rfl) (by kernel_rfl) (e := sub64Entry) (by kernel_rfl), run_sub64 x y b hb]
  rfl
theorem ZeJ (x y c : Nat) (hx : x < 18446744073709551616) (hy : y < 18446744073709551616) (hc : c ≤ 1) : ∃ s d : Nat, s < 18446744073709551616 ∧ d ≤ 1 ∧ x + y + c = s + 18446744073709551616 * d ∧
    ∀ w, (callFunc 221 #[.int .u64 x, .int .u64 y, .int .u64 c]).run Tryz.prog w = .ok (.value (.tuple #[.int .u64 s, .int .u64 d])) w :=
  ⟨_, _, by omega, by omega, by omega, fun w => Zf9 x y c hc w⟩
theorem Zci (x y : Nat) (hx : x < 18446744073709551616) (hy : y < 18446744073709551616) : ∃ s d : Nat, s < 18446744073709551616 ∧ d ≤ 1 ∧ x + y = s + 18446744073709551616 * d ∧
    ∀ w, (callFunc 221 #[.int .u64 x, .int .u64 y, .int .u64 0]).run Tryz.prog w = .ok (.value (.tuple #[.int .u64 s, .int .u64 d])) w :=
  ⟨_, _, by omega, by omega, by omega, fun w => Zf9 x y 0 (by omega) w⟩
theorem Zds (x y b : Nat) (hx : x < 18446744073709551616) (hy : y < 18446744073709551616) (hb : b ≤ 1) : ∃ s d : Nat, s < 18446744073709551616 ∧ d ≤ 1 ∧ x + 18446744073709551616 * d = s + y + b ∧
    ∀ w, (callFunc 248 #[.int .u64 x, .int .u64 y, .int .u64 b]).run Tryz.prog w = .ok (.value (.tuple #[.int .u64 s, .int .u64 d])) w := by
  refine ⟨_, _, Nat.mod_lt _ (by decide), ?_, ?_, fun w => Zic x y b hb w⟩
  · split <;> omega
  · split <;> omega
namespace M64
theorem maskN (a : Nat) (ha : a < 18446744073709551616) : bits .and .u64 (a : Int) 4294967295 = ((a % 4294967296 : Nat) : Int) := by
  have h := bits_and_u64_nat a 4294967295 ha (by omega)
  have e : a &&& 4294967295 = a % 4294967296 := Nat.and_two_pow_sub_one_eq_mod a 32
  rw [e] at h
  exact h
theorem divN (a : Nat) : (a : Int) / 4294967296 = ((a / 4294967296 : Nat) : Int) := by omega
theorem mulN (a b : Nat) : (a : Int) * (b : Int) = ((a * b : Nat) : Int) := (Int.natCast_mul a b).symm
theorem addN (a b : Nat) : (a : Int) + (b : Int) = ((a + b : Nat) : Int) := (Int.natCast_add a b).symm
theorem wrapN (a : Nat) (ha : a < 18446744073709551616) : IntKind.u64.wrap (a : Int) = (a : Int) := by rw [IntKind.wrap_u64]; omega
theorem wrapM (a : Nat) : IntKind.u64.wrap (a : Int) = ((a % 18446744073709551616 : Nat) : Int) := by rw [IntKind.wrap_u64]; omega
end M64
theorem Zid (x y : Nat) (hx : x < 18446744073709551616) (hy : y < 18446744073709551616) (w : World) :
    Calls Tryz.prog 249 #[.int .u64 x, .int .u64 y] w fun e w' => e = .returned (.tuple #[.int .u64 ((x * y / 18446744073709551616 : Nat) : Int), .int .u64 ((x * y % 18446744073709551616 : Nat) : Int)]) ∧ w = w' := by
  obtain ⟨bd, bt, bw, hhi⟩ := Lib.mul64_hi x y hx hy
  have ba := Lib.half_mul_le (a := x / 4294967296) (b := y / 4294967296) (by omega) (by omega)
  have bb := Lib.half_mul_le (a := x / 4294967296) (b := y % 4294967296) (by omega) (by omega)
  have bc := Lib.half_mul_le (a := x % 4294967296) (b := y / 4294967296) (by omega) (by omega)
  have ba' : x / 4294967296 * (y / 4294967296) < 18446744073709551616 := by omega
  have bb' : x / 4294967296 * (y % 4294967296) < 18446744073709551616 := by omega
  have bc' : x % 4294967296 * (y / 4294967296) < 18446744073709551616 := by omega
  have bh1 : x / 4294967296 * (y / 4294967296) + (x / 4294967296 * (y % 4294967296) + x % 4294967296 * (y % 4294967296) / 4294967296) / 4294967296 < 18446744073709551616 := by omega
  have bh : x / 4294967296 * (y / 4294967296) + (x / 4294967296 * (y % 4294967296) + x % 4294967296 * (y % 4294967296) / 4294967296) / 4294967296 + ((x / 4294967296 * (y % 4294967296) + x % 4294967296 * (y % 4294967296) / 4294967296) % 4294967296 + x % 4294967296 * (y / 4294967296)) / 4294967296 < 18446744073709551616 := by omega
  go_enter Tryz.func249, Tryz.ntmps249
  go_wp2
  simp only [M64.maskN x hx, M64.maskN y hy, M64.divN, M64.mulN, M64.addN, M64.wrapN _ bd, M64.wrapN _ bb', M64.wrapN _ bt, M64.maskN _ bt, M64.wrapN _ bc', M64.wrapN _ bw, M64.wrapN _ ba', M64.wrapN _ bh1, M64.wrapN _ bh, M64.wrapM (x * y)]
  rw [hhi]
  go_ret2
  exact ⟨rfl, rfl⟩
theorem ZeK {x y B : Nat} (hx : x < B) (hy : y < B) : x * y + 2 * B ≤ B * B + 1 := by
  have h : x * y ≤ (B - 1) * (B - 1) := Nat.mul_le_mul (by omega) (by omega)
  obtain ⟨C, rfl⟩ : ∃ C, B = C + 1 := ⟨B - 1, by omega⟩
  simp only [Nat.add_sub_cancel] at h
  have e : (C + 1) * (C + 1) = C * C + 2 * C + 1 := by rw [Nat.add_mul, Nat.mul_add]; omega
  omega
theorem Zd3 (x y a b : Nat) (hx : x < 18446744073709551616) (hy : y < 18446744073709551616) (ha : a < 18446744073709551616) (hb : b < 18446744073709551616) (w : World) :
    Calls Tryz.prog 220 #[.int .u64 x, .int .u64 y, .int .u64 a, .int .u64 b] w fun e w' => ∃ h l : Nat, e = .returned (.tuple #[.int .u64 h, .int .u64 l]) ∧ (h < 18446744073709551616 ∧ l < 18446744073709551616 ∧ x * y + a + b = l + 18446744073709551616 * h) ∧ w = w' := by
  have hm := Zid x y hx hy w
  have hle := ZeK hx hy
  obtain ⟨P, hP⟩ : ∃ P, P = x * y := ⟨_, rfl⟩
  rw [← hP] at hm hle ⊢
  clear hP
  have hlo : P % 18446744073709551616 < 18446744073709551616 := Nat.mod_lt _ (by decide)
  have hP := Nat.mod_add_div P 18446744073709551616
  generalize P % 18446744073709551616 = lo at hm hlo hP
  generalize P / 18446744073709551616 = hi at hm hP
  obtain ⟨l1, c1, i1, j1, e1, k1⟩ := Zci lo a hlo ha
  obtain ⟨l2, c2, i2, j2, e2, k2⟩ := Zci l1 b i1 hb
  have hh : hi + c1 + c2 < 18446744073709551616 := by omega
  have HR : Hid (hi + c1 + c2 < 18446744073709551616 ∧ l2 < 18446744073709551616 ∧ P + a + b = l2 + 18446744073709551616 * (hi + c1 + c2)) := ⟨hh, i2, by omega⟩
  have s1 : IntKind.u64.wrap ((hi : Int) + c1) = (hi : Int) + c1 := by rw [IntKind.wrap_u64]; omega
  have s2 : IntKind.u64.wrap ((hi : Int) + c1 + c2) = (hi : Int) + c1 + c2 := by rw [IntKind.wrap_u64]; omega
  clear hle hP hlo i1 j1 e1 i2 j2 e2 hh hx hy ha hb
  go_enter Tryz.func220, Tryz.ntmps220
  go_wp2_with (go_at_call 249; refine hm.mono ?_; rintro e w' ⟨rfl, rfl⟩)
  go_ret2
  exact ⟨hi + c1 + c2, l2, by simp, HR.out, rfl⟩
theorem ZaU (x y a b : Nat) (hx : x < 18446744073709551616) (hy : y < 18446744073709551616) (ha : a < 18446744073709551616) (hb : b < 18446744073709551616) :
    ∃ h l : Nat, h < 18446744073709551616 ∧ l < 18446744073709551616 ∧ x * y + a + b = l + 18446744073709551616 * h ∧
      ∀ w, Calls Tryz.prog 220 #[.int .u64 x, .int .u64 y, .int .u64 a, .int .u64 b] w fun e w' => e = .returned (.tuple #[.int .u64 h, .int .u64 l]) ∧ w = w' := by
  have hB : 0 < 18446744073709551616 := by decide
  have hle := ZeK hx hy
  refine ⟨(x * y + a + b) / 18446744073709551616, (x * y + a + b) % 18446744073709551616, ?_, Nat.mod_lt _ hB, (Nat.mod_add_div _ _).symm, fun w => ?_⟩
  · rw [Nat.div_lt_iff_lt_mul hB]; omega
  · refine (Zd3 x y a b hx hy ha hb w).mono ?_
    rintro e w' ⟨h, l, rfl, ⟨_, hl, he⟩, rfl⟩
    refine ⟨?_, rfl⟩
    have h1 : (x * y + a + b) / 18446744073709551616 = h := by rw [he, Nat.add_mul_div_left _ _ hB, Nat.div_eq_of_lt hl, Nat.zero_add]
    have h2 : (x * y + a + b) % 18446744073709551616 = l := by rw [he, Nat.add_mul_mod_self_left, Nat.mod_eq_of_lt hl]
    rw [h1, h2]
def limb (N k : Nat) : Nat := N / 18446744073709551616 ^ k % 18446744073709551616
theorem Zaz (N k : Nat) : limb N k < 18446744073709551616 := Nat.mod_lt _ (by decide)
theorem Zku : (Lib.len8tab.size : Int) = 256 := by
  have : Lib.len8tab.size = 256 := by decide
  omega
theorem ZbW (k a b : Nat) (hk : k ≤ 56) (ha : a ≤ 8) (hb : b = k + a) : RowKit.wrap64 ((k : Int) + RowKit.wrap64 (a : Int)) = (b : Int) := by
  unfold RowKit.wrap64
  omega
theorem ZhB (a : Nat) (ha : a ≤ 8) : RowKit.wrap64 (RowKit.wrap64 (a : Int)) = (a : Int) := by
  unfold RowKit.wrap64
  omega
theorem Zcj (y : Int) (h : y.toNat < Lib.len8tab.size) : ((Lib.len8tab[y.toNat]'h).toNat : Int) = Lib.len8 y := by
  unfold Lib.len8
  rw [getElem?_pos Lib.len8tab y.toNat h]
  rfl
theorem Zie (x : Int) (w : World) (h0 : 0 ≤ x) (h1 : x ≤ 18446744073709551615) :
    Calls Tryz.prog 218 #[.int .u64 x] w fun e w' => e = .returned (.int .i64 (Lib.bitLen x.toNat)) ∧ w = w' := by
  go_enter Tryz.func218, Tryz.ntmps218
  go_wp2
  all_goals first
    | (go_ret; refine ⟨congrArg Ending.returned (congrArg (Value.int IntKind.i64) ?_), rfl⟩)
    | (exfalso
       have hs := Zku
       omega)
  all_goals first
    | (rw [Zcj (x / 4294967296 / 65536 / 256) _, Lib.len8_of (x / 4294967296 / 65536 / 256) (by omega) (by omega)]
       have e : (x / 4294967296 / 65536 / 256).toNat = x.toNat / 72057594037927936 := by omega
       have l := Lib.bitLen_le8' (x / 4294967296 / 65536 / 256) (by omega) (by omega)
       have s := Lib.bitLen_shift56 x.toNat (by omega) (by omega)
       rw [e] at l ⊢
       exact ZbW 56 _ _ (by decide) l s)
    | (rw [Zcj (x / 4294967296 / 65536) _, Lib.len8_of (x / 4294967296 / 65536) (by omega) (by omega)]
       have e : (x / 4294967296 / 65536).toNat = x.toNat / 281474976710656 := by omega
       have l := Lib.bitLen_le8' (x / 4294967296 / 65536) (by omega) (by omega)
       have s := Lib.bitLen_shift48 x.toNat (by omega) (by omega)
       rw [e] at l ⊢
       exact ZbW 48 _ _ (by decide) l s)
    | (rw [Zcj (x / 4294967296 / 256) _, Lib.len8_of (x / 4294967296 / 256) (by omega) (by omega)]
       have e : (x / 4294967296 / 256).toNat = x.toNat / 1099511627776 := by omega
       have l := Lib.bitLen_le8' (x / 4294967296 / 256) (by omega) (by omega)
       have s := Lib.bitLen_shift40 x.toNat (by omega) (by omega)
       rw [e] at l ⊢
       exact ZbW 40 _ _ (by decide) l s)
    | (rw [Zcj (x / 4294967296) _, Lib.len8_of (x / 4294967296) (by omega) (by omega)]
       have e : (x / 4294967296).toNat = x.toNat / 4294967296 := by omega
       have l := Lib.bitLen_le8' (x / 4294967296) (by omega) (by omega)
       have s := Lib.bitLen_shift32 x.toNat (by omega) (by omega)
       rw [e] at l ⊢
       exact ZbW 32 _ _ (by decide) l s)
    | (rw [Zcj (x / 65536 / 256) _, Lib.len8_of (x / 65536 / 256) (by omega) (by omega)]
       have e : (x / 65536 / 256).toNat = x.toNat / 16777216 := by omega
       have l := Lib.bitLen_le8' (x / 65536 / 256) (by omega) (by omega)
       have s := Lib.bitLen_shift24 x.toNat (by omega) (by omega)
       rw [e] at l ⊢
       exact ZbW 24 _ _ (by decide) l s)
    | (rw [Zcj (x / 65536) _, Lib.len8_of (x / 65536) (by omega) (by omega)]
       have e : (x / 65536).toNat = x.toNat / 65536 := by omega
       have l := Lib.bitLen_le8' (x / 65536) (by omega) (by omega)
       have s := Lib.bitLen_shift16 x.toNat (by omega) (by omega)
       rw [e] at l ⊢
       exact ZbW 16 _ _ (by decide) l s)
    | (rw [Zcj (x / 256) _, Lib.len8_of (x / 256) (by omega) (by omega)]
       have e : (x / 256).toNat = x.toNat / 256 := by omega
       have l := Lib.bitLen_le8' (x / 256) (by omega) (by omega)
       have s := Lib.bitLen_shift8 x.toNat (by omega) (by omega)
       rw [e] at l ⊢
       exact ZbW 8 _ _ (by decide) l s)
    | (rw [Zcj x _, Lib.len8_of x (by omega) (by omega)]
       exact ZhB _ (Lib.bitLen_le8' x (by omega) (by omega)))
theorem ZfA (x : Nat) (w : World) (h : x < 18446744073709551616) :
    Calls Tryz.prog 218 #[.int .u64 x] w fun e w' => e = .returned (.int .i64 (Lib.bitLen x)) ∧ w = w' := by
  have := Zie x w (by omega) (by omega)
  simpa using this
theorem ZcR {x : Nat} (h : 0 < x) (hx : x < 18446744073709551616) : 1 ≤ Lib.bitLen x ∧ Lib.bitLen x ≤ 64 := by
  refine ⟨?_, Lib.bitLen_le x 64 (by omega) (by simpa using hx)⟩
  have := Lib.bitLen_half x (by omega) (by simpa using hx)
  omega
theorem Zdh : ∀ (k x : Nat), x < 2 ^ 64 → Lib.bitLen x ≤ k → x < 2 ^ k
  | 0, x, hx, h => by
    rcases Nat.eq_zero_or_pos x with rfl | h0
    · simp
    · have := Lib.bitLen_half x (by omega) hx; omega
  | k + 1, x, hx, h => by
    rcases Nat.eq_zero_or_pos x with rfl | h0
    · exact Nat.two_pow_pos _
    · have h1 := Lib.bitLen_half x (by omega) hx
      have h2 := Zdh k (x / 2) (by omega) (by omega)
      rw [Nat.pow_succ]; omega
theorem ZfB {x k : Nat} (hk : k ≤ 64) (h : k < Lib.bitLen x) : 2 ^ k ≤ x := by
  apply Nat.le_of_not_lt
  intro hc
  have := Lib.bitLen_le x k hk hc
  omega
theorem Zai {P : Program} {ops : Array Oper} {Q : Exit → Act → World → Prop} {S : World → Prop} {id : Nat} {a : Act} {w : World} (hm : P.follows .mixedOrders = true) (hS : S w.drew)
    (h : S w.drew → wpAnyH P .any ops Q S ops.size (Array.replicate ops.size false) a w.drew) : (Code.region id ops true).wp P Q a w :=
  wp_region_held hm (h hS)
theorem ZcG {M n j : Nat} (h : M < 18446744073709551616 ^ n) (hj : n ≤ j) : limb M j = 0 := by
  unfold limb
  rw [Nat.div_eq_of_lt (Nat.lt_of_lt_of_le h (Nat.pow_le_pow_right (by decide) hj))]
theorem Zak {P : Program} {l : List Oper} {Q : Exit → Act → World → Prop} {md : Region.Mode} {S : World → Prop} {i : Nat} {oi : Oper} {v : Value} {fuel : Nat} {listed : Array Bool} {a : Act} {w : World} (hi : l[i]? = some oi)
    (hs : Region.noSelect l.toArray = true) (hf : Region.free md l.toArray listed i = true) (hr : (Region.ready md l.toArray listed).contains i = true)
    (hQ : ∀ c a w, Q (.panic c) (a.put oi.dst v) w → Q (.panic c) a w) (hy : YieldsIf P l.toArray S oi v a) (hS : S w)
    (h : wpAnyH P md l.toArray Q S fuel (listed.setIfInBounds i true) (a.put oi.dst v) w) : wpAnyH P md l.toArray Q S (fuel + 1) listed a w :=
  wpAnyH_take (by simpa using hi) hs hf hr hQ hy hS h
theorem tkI {P : Program} {l : List Oper} {Q : Exit → Act → World → Prop} {md : Region.Mode} {S : World → Prop} (i : Nat) {oi : Oper} (v : Value) {fuel : Nat} {listed : Array Bool} {a : Act} {w : World} (hS : S w) (hq : ∀ V, S V → (execOp (Act.eval a) oi).run P V = .ok (.value v) V)
 (h : wpAnyH P md l.toArray Q S fuel (listed.setIfInBounds i true) (a.put oi.dst v) w) (hi : l[i]? = some oi := by rfl) (hs : Region.noSelect l.toArray = true := by kernel_rfl) (hf : Region.free md l.toArray listed i = true := by kernel_rfl) (hr : (Region.ready md l.toArray listed).contains i = true := by kernel_rfl) (hw : Region.wanted oi (yielded l.toArray a.tmps) = true := by kernel_rfl) (hQ : ∀ c a w, Q (.panic c) (a.put oi.dst v) w → Q (.panic c) a w := by exact fun _ _ _ h => h) : wpAnyH P md l.toArray Q S (fuel + 1) listed a w :=
 Zak hi hs hf hr hQ (Or.inl ⟨hw, hq⟩) hS h
theorem tkG {P : Program} {l : List Oper} {Q : Exit → Act → World → Prop} {md : Region.Mode} {S : World → Prop} (i : Nat) {oi : Oper} {v : Value} {fuel : Nat} {listed : Array Bool} {a : Act} {w : World} (hS : S w)
 (h : wpAnyH P md l.toArray Q S fuel (listed.setIfInBounds i true) (a.put oi.dst v) w) (hi : l[i]? = some oi := by rfl) (hq : ∀ V, S V → (execOp (Act.eval a) oi).run P V = .ok (.value v) V := by intro V hV; go_simp; (try with_reducible rfl)) (hs : Region.noSelect l.toArray = true := by kernel_rfl) (hf : Region.free md l.toArray listed i = true := by kernel_rfl) (hr : (Region.ready md l.toArray listed).contains i = true := by kernel_rfl) (hw : Region.wanted oi (yielded l.toArray a.tmps) = true := by kernel_rfl) (hQ : ∀ c a w, Q (.panic c) (a.put oi.dst v) w → Q (.panic c) a w := by exact fun _ _ _ h => h) : wpAnyH P md l.toArray Q S (fuel + 1) listed a w :=
 Zak hi hs hf hr hQ (Or.inl ⟨hw, hq⟩) hS h
theorem rd1 {P : Program} {md : Region.Mode} {ops : Array Oper} {Q : Exit → Act → World → Prop} {S : World → Prop} (i : Nat) {o : Oper} {fuel : Nat} {listed : Array Bool} {a : Act} {w : World}
 (h : ∀ K' : Act → World → Prop, Shut (∀ a w, S w → (S w → wpAnyH P md ops Q S fuel (listed.setIfInBounds i true) a w) → K' a w) → if Region.wanted o (yielded ops a.tmps) = true then Oper.wp P o a w K' Q else K' (a.put o.dst undef) w) (ho : ops[i]? = some o := by rfl) (hr : Region.ready md ops listed = [i] := by kernel_rfl) : wpAnyH P md ops Q S (fuel + 1) listed a w := wpAnyH_ready hr (by simp) (AllReadyH.cons ho h AllReadyH.nil)
theorem Zaa (l : List Value) (ds : List Deferred) (d : Nat) (v : Value) : Act.put { tmps := l.toArray, defers := ds } (some d) v = { tmps := (l.set d v).toArray, defers := ds } := by
  simp [Act.put]
def val (g : Nat → Nat) : Nat → Nat
  | 0 => 0
  | n + 1 => val g n + g n * 18446744073709551616 ^ n
theorem ZbK {g : Nat → Nat} (n : Nat) (h : ∀ j, j < n → g j < 18446744073709551616) : val g n < 18446744073709551616 ^ n := by
  induction n with
  | zero => simp [val]
  | succ n ih =>
    have h1 := ih (fun j hj => h j (by omega))
    have h2 : (g n + 1) * 18446744073709551616 ^ n ≤ 18446744073709551616 * 18446744073709551616 ^ n := Nat.mul_le_mul_right _ (h n (by omega))
    rw [Nat.pow_succ, Nat.mul_comm _ 18446744073709551616]
    rw [Nat.add_mul, Nat.one_mul] at h2
    unfold val
    omega
theorem Za0 {f g : Nat → Nat} (n : Nat) (h : ∀ j, j < n → f j = g j) : val f n = val g n := by
  induction n with
  | zero => rfl
  | succ n ih => unfold val; rw [ih (fun j hj => h j (by omega)), h n (by omega)]
theorem ZeL (g : Nat → Nat) (a n : Nat) : val g (a + n) = val g a + val (fun j => g (a + j)) n * 18446744073709551616 ^ a := by
  induction n with
  | zero => simp [val]
  | succ n ih =>
    rw [← Nat.add_assoc]
    show val g (a + n) + g (a + n) * 18446744073709551616 ^ (a + n) = val g a + (val (fun j => g (a + j)) n + g (a + n) * 18446744073709551616 ^ n) * 18446744073709551616 ^ a
    rw [ih, Nat.add_mul, Nat.pow_add, Nat.mul_assoc (g (a + n)), Nat.mul_comm (18446744073709551616 ^ a) (18446744073709551616 ^ n)]
    omega
theorem ZeM (N n : Nat) : val (limb N) n = N % 18446744073709551616 ^ n := by
  induction n with
  | zero => simp [val, Nat.mod_one]
  | succ n ih =>
    unfold val
    rw [ih]
    unfold limb
    rw [Nat.pow_succ, Nat.mod_mul, Nat.mul_comm (18446744073709551616 ^ n)]
theorem Zcq {g : Nat → Nat} (n : Nat) (h : ∀ j, j < n → g j < 18446744073709551616) {i : Nat} (hi : i < n) : limb (val g n) i = g i := by
  obtain ⟨d, rfl⟩ : ∃ d, n = i + 1 + d := ⟨n - (i + 1), by omega⟩
  rw [ZeL]
  unfold limb
  have h1 := ZbK i (fun j hj => h j (by omega))
  have e : val g (i + 1) + val (fun j => g (i + 1 + j)) d * 18446744073709551616 ^ (i + 1) = val g i + 18446744073709551616 ^ i * (g i + 18446744073709551616 * val (fun j => g (i + 1 + j)) d) := by
    show val g i + g i * 18446744073709551616 ^ i + _ = _
    rw [Nat.pow_succ, Nat.mul_add, Nat.mul_comm (g i), ← Nat.mul_assoc (18446744073709551616 ^ i), Nat.mul_comm (val (fun j => g (i + 1 + j)) d)]
    omega
  rw [e, Nat.add_mul_div_left _ _ (Nat.pow_pos (by decide)), Nat.div_eq_of_lt h1, Nat.zero_add, Nat.add_mul_mod_self_left, Nat.mod_eq_of_lt (h i (by omega))]
structure But (L : Nat) (W V : World) : Prop where
  same : ∀ b, b ≠ L → V.heap[b]? = W.heap[b]?
  below : Below L W V
theorem But.refl (L : Nat) (W : World) : But L W W := ⟨fun _ _ => rfl, Below.refl _ _⟩
theorem But.set {L : Nat} {W V : World} (h : But L W V) (o : Nat) (v : Value) : But L W (V.setCell ⟨L, o, none⟩ v) :=
  ⟨fun b hb => (Below.heap_setCell V _ v b hb).trans (h.same b hb), h.below.setCell (p := ⟨L, o, none⟩) (Nat.le_refl _) v⟩
theorem But.drew {L : Nat} {W V : World} (h : But L W V) : But L W V.drew := ⟨h.same, h.below.drew⟩
theorem But.trans {L : Nat} {W V U : World} (h : But L W V) (g : But L V U) : But L W U := ⟨fun b hb => (g.same b hb).trans (h.same b hb), h.below.trans g.below⟩
theorem But.cell {L : Nat} {W V : World} (h : But L W V) {b o : Nat} (hb : b ≠ L) : V.cell? ⟨b, o, none⟩ = W.cell? ⟨b, o, none⟩ := by
  simp only [World.cell?, h.same b hb]
theorem Zaj {P : Program} {c : Code} {Q : Exit → Act → World → Prop} {a : Act} {w : World} (h : ∀ W0, W0 = w → c.wp P Q a W0) : c.wp P Q a w := h w rfl
section
variable {W0 V V' : World} {R : Nat}
theorem Zab {W : World} {b : Nat} {o : Obj} (h : W.heap[b]? = some o) : b < W.heap.size := (Array.getElem?_eq_some_iff.1 h).1
end
theorem ZbL {N m : Nat} (hN : N < 18446744073709551616 ^ m) : ∀ (d n : Nat), n + d = m → (∀ j, n ≤ j → j < m → limb N j = 0) → N < 18446744073709551616 ^ n := by
  intro d
  induction d with
  | zero => intro n h _; rwa [show n = m by omega]
  | succ d ih =>
    intro n h hz
    have h1 := ih (n + 1) (by omega) (fun j h1 h2 => hz j (by omega) h2)
    have h2 := hz n (Nat.le_refl _) (by omega)
    unfold limb at h2
    rw [Nat.mod_eq_of_lt (by rw [Nat.div_lt_iff_lt_mul (Nat.pow_pos (by decide)), Nat.mul_comm, ← Nat.pow_succ]; exact h1)] at h2
    exact (Nat.div_eq_zero_iff_lt (Nat.pow_pos (by decide))).1 h2
theorem Zif {Z j : Nat} (ht : Z < 18446744073709551616 ^ (j + 1)) : Z < 2 ^ (64 * j + Lib.bitLen (limb Z j)) := by
  have hl := Zaz Z j
  have hb := Zdh _ (limb Z j) (by simpa using hl) (Nat.le_refl _)
  have hd : Z / 18446744073709551616 ^ j = limb Z j := by
    unfold limb
    rw [Nat.mod_eq_of_lt]
    rw [Nat.div_lt_iff_lt_mul (Nat.pow_pos (by decide)), Nat.mul_comm, ← Nat.pow_succ]
    exact ht
  have h2 : Z < (limb Z j + 1) * 18446744073709551616 ^ j := by
    rw [← hd]
    have := Nat.lt_mul_div_succ Z (Nat.pow_pos (n := j) (show 0 < 18446744073709551616 by decide))
    rw [Nat.mul_comm]
    exact this
  refine Nat.lt_of_lt_of_le h2 ?_
  rw [Nat.pow_add, Nat.mul_comm, show (18446744073709551616 : Nat) = 2 ^ 64 by decide, ← Nat.pow_mul]
  exact Nat.mul_le_mul_left _ hb
theorem Zig {Z j : Nat} (hnz : limb Z j ≠ 0) : 2 ^ (64 * j + Lib.bitLen (limb Z j) - 1) ≤ Z := by
  have hl := Zaz Z j
  obtain ⟨h1, h2⟩ := ZcR (x := limb Z j) (by omega) hl
  have hb := ZfB (x := limb Z j) (k := Lib.bitLen (limb Z j) - 1) (by omega) (by omega)
  have hd : limb Z j ≤ Z / 18446744073709551616 ^ j := Nat.mod_le _ _
  have h3 : limb Z j * 18446744073709551616 ^ j ≤ Z := Nat.le_trans (Nat.mul_le_mul_right _ hd) (Nat.div_mul_le_self _ _)
  refine Nat.le_trans ?_ h3
  rw [show 64 * j + Lib.bitLen (limb Z j) - 1 = (Lib.bitLen (limb Z j) - 1) + 64 * j by omega, Nat.pow_add, show (18446744073709551616 : Nat) = 2 ^ 64 by decide, ← Nat.pow_mul]
  exact Nat.mul_le_mul_right _ hb
theorem But.sets {L : Nat} {W : World} : ∀ (vs : List Value) (o : Nat) {V : World}, But L W V → But L W (V.setCells L o vs)
  | [], _, _, h => h
  | v :: r, o, _, h => by rw [World.setCells]; exact But.sets r (o + 1) (h.set o v)
def putAll (cs : Array Value) (o : Nat) : List Value → Array Value
  | [] => cs
  | v :: r => putAll (cs.setIfInBounds o v) (o + 1) r
theorem Za9 {p t : Nat} : ∀ (vs : List Value) (o : Nat) {w : World} {cs : Array Value}, w.heap[p]? = some (.cells cs t (0, 0)) → (w.setCells p o vs).heap[p]? = some (.cells (putAll cs o vs) t (0, 0))
  | [], _, _, _, h => h
  | v :: r, o, _, _, h => by rw [World.setCells]; exact Za9 r (o + 1) (Zaw h v)
theorem Zcr (a : Act) (d : Nat) (v : Value) (h : d < a.tmps.size) : (a.put (some d) v).eval (.tmp d) = v := by
  simp [Act.put, Act.eval, Array.getD, h]
theorem Zdi (a : Act) {d j : Nat} (v : Value) (h : d ≠ j) : (a.put (some d) v).eval (.tmp j) = a.eval (.tmp j) :=
  Act.eval_put (fun d' hd' e => by cases hd'; cases e; exact h rfl)
theorem ZaD {P : Program} {fn : Func} {ts : Array Value} {w : World} {j ty : Nat} {p : Addr} {v : Value} (hf : fn.results = #[.cell j ty]) (hj : ts.getD j undef = .pointer (some p)) (h : (loadVar ty p).run P w = .ok v w) :
    (results fn ts).run P w = .ok v w := by
  unfold results
  rw [hf]
  rw [Array.getD_eq_getD_getElem?] at hj
  simp [hj, asAddr, h]
theorem ZaE {P : Program} {l : List Oper} {Q : Exit → Act → World → Prop} {i : Nat} {o : Oper} {K : Act → World → Prop} {a : Act} {w : World} (ho : l[i]? = some o)
    (h : ∀ K' : Act → World → Prop, (∀ a w, K a w → K' a w) → if Region.wanted o (yielded l.toArray a.tmps) = true then Oper.wp P o a w K' Q else K' (a.put o.dst undef) w) : wpOp P l.toArray Q i K a w :=
  wpOp_step (by simpa using ho) h
theorem ZcS {P : Program} {f : FuncId} {args : Array Value} {w : World} {Q : Ending → World → Prop} (h : ∀ W0, W0 = w → Calls P f args W0 Q) : Calls P f args w Q := h w rfl
theorem Zag {w : World} {b t : Nat} {C : Array Value} (h : w.heap[b]? = some (.cells C t (0, 0))) : w.rangeAt b 0 C.toList := fun j v hv =>
  Zac (o := 0 + j) (v := v) h (by rw [Nat.zero_add]; rw [Array.getElem?_toList] at hv; exact hv)
theorem ZcT {w : World} {b t : Nat} {C : Array Value} (h : w.heap[b]? = some (.cells C t (0, 0))) : w.there b 0 C.size := fun j hj =>
  ⟨(Zag h).isSome j (by rw [Array.length_toList]; exact hj), Zap h⟩
theorem Zas (a : Act) (v : Value) : a.put none v = a := rfl
section
variable {P : Program} {md : Region.Mode} {ops : Array Oper} {Q : Exit → Act → World → Prop} {S : World → Prop}
theorem ZeN {Φ : Nat → Array Bool → Act → World → Prop}
    (hstep : ∀ k listed a w, Φ k listed a w → wpAnyH P md ops Q S k listed a w ∨ ∃ k', k = k' + 1 ∧ Region.ready md ops listed ≠ [] ∧ ∀ i ∈ Region.ready md ops listed, wpOp P ops Q i (fun a' w' => S w' ∧ Φ k' (listed.setIfInBounds i true) a' w') a w) :
    ∀ k listed a w, Φ k listed a w → wpAnyH P md ops Q S k listed a w := by
  intro k
  induction k with
  | zero =>
    intro listed a w h
    rcases hstep 0 listed a w h with h | ⟨k', e, _⟩
    · exact h
    · cases e
  | succ k ih =>
    intro listed a w h
    rcases hstep (k + 1) listed a w h with h | ⟨k', e, h1, h2⟩
    · exact h
    · cases e
      exact ⟨fun h0 => absurd h0 h1, fun i hi => wpOp_mono (fun a' w' h' => ⟨h'.1, ih _ a' w' h'.2⟩) (h2 i hi)⟩
end
namespace MN
theorem round {B Bi S S' A V q M t b : Nat} (h : S * Bi = A * V + q * M) (e : S' * B = S + A * b + t * M) :
    S' * (Bi * B) = A * (V + b * Bi) + (q + t * Bi) * M := by
  grind
theorem bound {Bi S A V q M : Nat} (h : S * Bi = A * V + q * M) (hV : V < Bi) (hq : q < Bi) (hM : 0 < M) : S < A + M := by
  apply Nat.lt_of_mul_lt_mul_right (a := Bi)
  rw [h, Nat.add_mul]
  have h1 : A * V ≤ A * Bi := Nat.mul_le_mul_left _ (by omega)
  have h2 : q * M < M * Bi := by rw [Nat.mul_comm M]; exact Nat.mul_lt_mul_of_pos_right hq hM
  omega
theorem q_lt {B Bi q t : Nat} (hq : q < Bi) (ht : t < B) : q + t * Bi < Bi * B := by
  have h : (t + 1) * Bi ≤ B * Bi := Nat.mul_le_mul_right _ ht
  rw [Nat.add_mul, Nat.mul_comm B] at h
  omega
theorem mulstep {B Bk V C S A a b s h l : Nat} (hV : V + C * Bk = S + A * b) (e : a * b + s + C = l + B * h) :
    (V + l * Bk) + h * (Bk * B) = (S + s * Bk) + (A + a * Bk) * b := by
  grind
theorem fin {B Bl W V X S s top over above c1 c2 c A b t M : Nat} (h1 : V + c1 * (Bl * B) = X + A * b) (h2 : above + c1 = top + B * over)
    (h3 : B * W + c2 * (Bl * B) = V + t * M) (h4 : top + c2 = s + B * c) (hS : S = X + above * (Bl * B)) :
    (W + s * Bl + (over + c) * (Bl * B)) * B = S + A * b + t * M := by
  grind
theorem last {R S A V q M : Nat} (h : S * R = A * V + q * M) (hAV : A * V < R * M) (hq : q < R) (hM : 0 < M) : S < 2 * M := by
  apply Nat.lt_of_mul_lt_mul_right (a := R)
  have h2 : q * M < R * M := Nat.mul_lt_mul_of_pos_right hq hM
  rw [h, Nat.mul_assoc, Nat.mul_comm M R]
  omega
theorem Zih {m P Q : Nat} (ho : m % 2 = 1) (hle : P ≤ Q) (h : P * 2 % m = Q * 2 % m) : P % m = Q % m := by
  have hc : Nat.Coprime m 2 := by
    unfold Nat.Coprime
    rw [Nat.gcd_comm, Nat.gcd_rec, ho]
    rfl
  have hd : m ∣ Q * 2 - P * 2 := Nat.dvd_of_mod_eq_zero (Nat.sub_mod_eq_zero_of_mod_eq h.symm)
  rw [← Nat.sub_mul] at hd
  obtain ⟨k, hk⟩ := hc.dvd_of_dvd_mul_right hd
  have : Q = P + m * k := by omega
  rw [this, Nat.add_mul_mod_self_left]
theorem half {m P Q : Nat} (ho : m % 2 = 1) (h : P * 2 % m = Q * 2 % m) : P % m = Q % m := by
  rcases Nat.le_total P Q with hle | hle
  · exact Zih ho hle h
  · exact (Zih ho hle h.symm).symm
theorem halves {m P Q : Nat} (ho : m % 2 = 1) : ∀ k, P * 2 ^ k % m = Q * 2 ^ k % m → P % m = Q % m := by
  intro k
  induction k with
  | zero => intro h; simpa using h
  | succ k ih =>
    intro h
    apply ih
    apply half ho
    rw [Nat.mul_assoc, Nat.mul_assoc, ← Nat.pow_succ]
    exact h
theorem uniq {m P Q : Nat} (ho : m % 2 = 1) (k : Nat) (hP : P < m) (hQ : Q < m) (h : P * 2 ^ k % m = Q * 2 ^ k % m) : P = Q := by
  have := halves ho k h
  rwa [Nat.mod_eq_of_lt hP, Nat.mod_eq_of_lt hQ] at this
theorem inv_step (n x d K : Int) (h : (1 - n * x) % K = d % K) : (1 - n * (x * (2 - n * x))) % K = (d * d) % K := by
  have e : 1 - n * (x * (2 - n * x)) = (1 - n * x) * (1 - n * x) := by grind
  rw [e, Int.mul_emod, h, ← Int.mul_emod]
end MN
theorem Zae {P : Program} {Q : Exit → Act → World → Prop} {a : Act} {w : World} {x y : Code} (h : ∀ K : Act → World → Prop, Hid (∀ a w, y.wp P Q a w → K a w) → x.wp P (Exit.then K Q) a w) : (Code.seq x y).wp P Q a w :=
  wp_seq_k fun K hK => h K hK
theorem Zb5 {P : Program} {md : Region.Mode} {ops : Array Oper} {Q : Exit → Act → World → Prop} {S : World → Prop} {fuel : Nat} {listed : Array Bool} {a : Act} {w : World} (h : ∀ W0, W0 = w → wpAnyH P md ops Q S fuel listed a W0) : wpAnyH P md ops Q S fuel listed a w := h w rfl
theorem Za4 {P : Program} {fn : Func} {R : Ending → World → Prop} {Q : Exit → Act → World → Prop} {a : Act} {w : World} {id L o R0 i j k ty ty1 ty2 : Nat} {C : Array Value} {d : TypeDesc} {pos1 pos2 aft1 aft2} (hQ : ∀ a w, bodyPost P fn R .ret a w → Q .ret a w) (hf : fn.results = #[.cell j ty]) (hi : a.eval (.tmp i) = .pointer (some ⟨L, o, none⟩)) (hj : a.eval (.tmp j) = .pointer (some ⟨R0, 0, none⟩)) (hjk : k ≠ j) (hk : k < a.tmps.size) (hd : a.defers = [])
    (hu : P.underlying ty = some d) (hr : d.isRow = true) (hs : (P.info? ty).map (·.size) = some C.size) (h1 : C.all (·.oneCell') = true)
    (hL : w.rangeAt L o C.toList) (hR : w.there R0 0 C.size) (h : ∀ wS, But R0 w wS → R (.returned (.agg C)) wS) :
    ((Code.region id #[{ dst := some k, op := .load ty (.tmp i), type := ty1, pos := pos1, after := aft1, guard := none }, { dst := none, op := .store ty (.tmp j) (.tmp k), type := ty2, pos := pos2, after := aft2, guard := none }] false).seq .ret).wp P Q a w := by
  refine wp_seq ?_
  refine wp_region_list ?_
  have hj' : (a.put (some k) (.agg C)).eval (.tmp j) = .pointer (some ⟨R0, 0, none⟩) := by rw [Zdi _ _ hjk, hj]
  have hs' : (P.info? ty).map (·.size) = some C.toList.length := by rw [Array.length_toList]; exact hs
  refine wpList_load_mid rfl ty (.tmp i) rfl L o hi C.toList _ hL hu hr hs' ?_
  refine wpList_store_mid rfl ty (.tmp j) (.tmp k) rfl R0 0 C hj' (Zcr _ _ _ hk) hR hs h1 ?_
  refine wpList_nil ?_
  refine wp_ret ?_
  have hb := World.rangeAt_setCells_same w R0 0 C.toList (by rw [Array.length_toList]; exact hR)
  exact hQ _ _ (bodyPost_ret_by (ZaD hf hj' (run_loadVar_mid _ R0 0 ty C.toList _ hb hu hr hs')) hd (h _ (But.sets _ _ (But.refl _ _))))
theorem Zhk {P : Program} {fn : Func} {R : Ending → World → Prop} {Q : Exit → Act → World → Prop} {K : Act → World → Prop} {a : Act} {w : World} {R0 j k ty ty2 : Nat} {C : Array Value} {d : TypeDesc} {pos2 aft2} {ops : Array Oper} (hK : ∀ a w, Code.ret.wp P Q a w → K a w) (hQ : ∀ a w, bodyPost P fn R .ret a w → Q .ret a w) (hf : fn.results = #[.cell j ty]) (hk : a.eval (.tmp k) = .agg C) (hj : a.eval (.tmp j) = .pointer (some ⟨R0, 0, none⟩)) (hd : a.defers = [])
    (hu : P.underlying ty = some d) (hr : d.isRow = true) (hs : (P.info? ty).map (·.size) = some C.size) (h1 : C.all (·.oneCell') = true)
    (hR : w.there R0 0 C.size) (h : ∀ wS, But R0 w wS → R (.returned (.agg C)) wS) :
    wpList P ops (Exit.then K Q) [{ dst := none, op := .store ty (.tmp j) (.tmp k), type := ty2, pos := pos2, after := aft2, guard := none }] a w := by
  have hs' : (P.info? ty).map (·.size) = some C.toList.length := by rw [Array.length_toList]; exact hs
  refine wpList_store_mid rfl ty (.tmp j) (.tmp k) rfl R0 0 C hj hk hR hs h1 ?_
  refine wpList_nil ?_
  refine hK _ _ (wp_ret ?_)
  have hb := World.rangeAt_setCells_same w R0 0 C.toList (by rw [Array.length_toList]; exact hR)
  exact hQ _ _ (bodyPost_ret_by (ZaD hf hj (run_loadVar_mid _ R0 0 ty C.toList _ hb hu hr hs')) hd (h _ (But.sets _ _ (But.refl _ _))))
theorem Zbs {P : Program} {fn : Func} {ts : Array Value} {w : World} {j c ty : Nat} {p : Addr} {v x : Value} (hf : fn.results = #[.cell j ty, .tmp c]) (hj : ts.getD j undef = .pointer (some p)) (hc : ts.getD c undef = x) (h : (loadVar ty p).run P w = .ok v w) :
    (results fn ts).run P w = .ok (.tuple #[v, x]) w := by
  unfold results
  rw [hf]
  rw [Array.getD_eq_getD_getElem?] at hj hc
  simp [hj, hc, asAddr, h]
theorem Zkv {P : Program} {fn : Func} {R : Ending → World → Prop} {Q : Exit → Act → World → Prop} {a : Act} {w : World} {id L R0 i j k c ty ty1 ty2 ty3 : Nat} {C : Array Value} {v : Value} {d : TypeDesc} {pos1 pos2 pos3 aft1 aft2 aft3} (hQ : ∀ a w, bodyPost P fn R .ret a w → Q .ret a w) (hf : fn.results = #[.cell j ty, .tmp c]) (hi : a.eval (.tmp i) = .pointer (some ⟨L, 0, none⟩)) (hj : a.eval (.tmp j) = .pointer (some ⟨R0, 0, none⟩)) (hjk : k ≠ j) (hjc : c ≠ j) (hk : k < a.tmps.size) (hcs : c < a.tmps.size) (hd : a.defers = [])
    (hu : P.underlying ty = some d) (hr : d.isRow = true) (hs : (P.info? ty).map (·.size) = some C.size) (h1 : C.all (·.oneCell') = true)
    (hL : w.rangeAt L 0 C.toList) (hR : w.there R0 0 C.size) (h : ∀ wS, But R0 w wS → R (.returned (.tuple #[.agg C, v])) wS) :
    ((Code.region id #[{ dst := some k, op := .load ty (.tmp i), type := ty1, pos := pos1, after := aft1, guard := none }, { dst := none, op := .store ty (.tmp j) (.tmp k), type := ty2, pos := pos2, after := aft2, guard := none }, { dst := some c, op := .assign (.const v), type := ty3, pos := pos3, after := aft3, guard := none }] false).seq .ret).wp P Q a w := by
  refine wp_seq ?_
  refine wp_region_list ?_
  have hj' : (a.put (some k) (.agg C)).eval (.tmp j) = .pointer (some ⟨R0, 0, none⟩) := by rw [Zdi _ _ hjk, hj]
  have hs' : (P.info? ty).map (·.size) = some C.toList.length := by rw [Array.length_toList]; exact hs
  refine wpList_load_mid rfl ty (.tmp i) rfl L 0 hi C.toList _ hL hu hr hs' ?_
  refine wpList_store_mid rfl ty (.tmp j) (.tmp k) rfl R0 0 C hj' (Zcr _ _ _ hk) hR hs h1 ?_
  refine wpList_plain rfl fun K hK => ?_
  have hb := World.rangeAt_setCells_same w R0 0 C.toList (by rw [Array.length_toList]; exact hR)
  have hj2 : (((a.put (some k) (.agg C)).put none undef).put (some c) v).eval (.tmp j) = .pointer (some ⟨R0, 0, none⟩) := by rw [Zdi _ _ hjc, Zas]; exact hj'
  have hc2 : (((a.put (some k) (.agg C)).put none undef).put (some c) v).eval (.tmp c) = v := Zcr _ _ _ (by simp [Act.put]; exact hcs)
  refine hK (((a.put (some k) (.agg C)).put none undef).put (some c) v) _ (wpList_nil (wp_ret (hQ _ _ (bodyPost_ret_by (Zbs hf hj2 hc2 (run_loadVar_mid _ R0 0 ty C.toList _ hb hu hr hs')) hd (h _ (But.sets _ _ (But.refl _ _)))))))
theorem Zan {P : Program} {op : Oper} {a : Act} {w : World} {K : Act → World → Prop} {Q : Exit → Act → World → Prop} (ty : TypeId) (x y : Operand) (ho : op.op = .store ty x y) (hdst : op.dst = none)
    (b o : Nat) (cells : Array Value) (hx : a.eval x = .pointer (some ⟨b, o, none⟩)) (hy : a.eval y = .agg cells)
    (ht : w.there b o cells.size) (hi : (P.info? ty).map (·.size) = some cells.size) (h1 : cells.all (·.oneCell') = true)
    (h : K a (w.setCells b o cells.toList)) : op.wp P a w K Q :=
  wp_store_mid ty x y ho b o cells hx hy ht hi h1 (by rw [hdst]; exact h)
theorem Za8 {P : Program} {op : Oper} {l : List Value} {ds : List Deferred} {w : World} {K : Act → World → Prop} {Q : Exit → Act → World → Prop} (ty : TypeId) (x : Operand) (k : Nat) (ho : op.op = .load ty x) (hdst : op.dst = some k)
    (b o : Nat) (cells : Array Value) (hx : Act.eval { tmps := l.toArray, defers := ds } x = .pointer (some ⟨b, o, none⟩)) (d : TypeDesc) (hc : w.rangeAt b o cells.toList)
    (hu : P.underlying ty = some d) (hd : d.isRow = true) (hi : (P.info? ty).map (·.size) = some cells.toList.length)
    (h : K { tmps := (l.set k (.agg cells)).toArray, defers := ds } w) : op.wp P { tmps := l.toArray, defers := ds } w K Q :=
  wp_load_mid ty x ho b o hx cells.toList d hc hu hd hi (by rw [hdst, Zaa, Array.toArray_toList]; exact h)
theorem Za7 {c : Prop} [Decidable c] {a b : Prop} (h : c) (ha : a) : if c then a else b := by rw [if_pos h]; exact ha
theorem Zey (x y : Nat) (hx : x ≤ 1) (hy : y < 18446744073709551616) : ∃ s d : Nat, s < 18446744073709551616 ∧ d ≤ 1 ∧ x + y = s + 18446744073709551616 * d ∧
    ∀ w, (callFunc 221 #[.int .u64 x, .int .u64 y, .int .u64 0]).run Tryz.prog w = .ok (.value (.tuple #[.int .u64 s, .int .u64 d])) w :=
  Zci x y (by omega) hy
theorem Zii {l : List Oper} {o og : Oper} {T : List Value} {g d : Nat} {b : Bool} (ho : o.guard = some (g, b)) (hg : l[g]? = some og) (hd : og.dst = some d) (ht : T[d]? = some (.bool b)) : Region.wanted o (yielded l.toArray T.toArray) = true := by
  unfold Region.wanted
  rw [ho]
  simp [yielded, hg, hd, ht]
def waits (md : Region.Mode) (ops : Array Oper) (i j : Nat) : Bool := match ops[i]? with
  | some o => o.after.any fun e => Region.binds md e && e.on == j
  | none => false
def LF (L0 : Array Bool) (D : List Nat) (dn : Nat → Bool) : Array Bool := ((List.range L0.size).map fun j => L0.getD j false || (D.contains j && dn j)).toArray
theorem ZfC {L0 : Array Bool} {D : List Nat} {dn : Nat → Bool} {j : Nat} (hj : j < L0.size) : (LF L0 D dn).getD j false = (L0.getD j false || (D.contains j && dn j)) := by
  unfold LF
  rw [Array.getD_eq_getD_getElem?, List.getElem?_toArray]
  simp [hj]
theorem Zbz (L0 : Array Bool) (D : List Nat) (dn : Nat → Bool) : (LF L0 D dn).size = L0.size := by simp [LF]
theorem LF_set {L0 : Array Bool} {D : List Nat} {dn : Nat → Bool} {i : Nat} (hi : i ∈ D) : (LF L0 D dn).setIfInBounds i true = LF L0 D (fun x => x == i || dn x) := by
  refine Array.ext_getElem? fun j => ?_
  have hs := Zbz L0 D dn
  by_cases hj : j < L0.size
  · by_cases h : j = i
    · subst h
      rw [Array.getElem?_setIfInBounds_self_of_lt (by omega)]
      unfold LF
      rw [List.getElem?_toArray]
      simp [hj, hi]
    · rw [Array.getElem?_setIfInBounds_ne (by omega)]
      unfold LF
      have hb : (j == i) = false := beq_eq_false_iff_ne.2 h
      rw [List.getElem?_toArray, List.getElem?_toArray, List.getElem?_map, List.getElem?_map, List.getElem?_range hj]
      simp only [Option.map_some, hb, Bool.false_or]
  · rw [Array.getElem?_eq_none (by simp; omega), Array.getElem?_eq_none (by rw [Zbz]; omega)]
def TE (dst : Nat → Nat) (vs : Nat → Value) (D : List Nat) (l : List Value) : List Value := D.foldl (fun t i => t.set (dst i) (vs i)) l
theorem ZeO (dst : Nat → Nat) (vs : Nat → Value) (s : Nat) : ∀ (D : List Nat) (l : List Value), (∀ j ∈ D, dst j ≠ s) → (TE dst vs D l)[s]? = l[s]?
  | [], _, _ => rfl
  | i :: D, l, h => by
    show (TE dst vs D (l.set (dst i) (vs i)))[s]? = _
    rw [ZeO dst vs s D _ (fun j hj => h j (List.mem_cons_of_mem _ hj)), List.getElem?_set_ne (h i (List.mem_cons_self))]
theorem TE_at (dst : Nat → Nat) (vs : Nat → Value) (i : Nat) : ∀ (D : List Nat) (l : List Value), i ∈ D → (∀ j ∈ D, dst j = dst i → j = i) → dst i < l.length → (TE dst vs D l)[dst i]? = some (vs i)
  | k :: D, l, hi, hu, hl => by
    show (TE dst vs D (l.set (dst k) (vs k)))[dst i]? = _
    by_cases h : i ∈ D
    · exact TE_at dst vs i D _ h (fun j hj => hu j (List.mem_cons_of_mem _ hj)) (by simpa using hl)
    · have hk : i = k := by
        rcases List.mem_cons.1 hi with h' | h'
        · exact h'
        · exact absurd h' h
      subst hk
      rw [ZeO dst vs (dst i) D _ (fun j hj e => h (hu j (List.mem_cons_of_mem _ hj) e ▸ hj))]
      simp [hl]
theorem Zd4 {D : List Nat} (hn : D.Nodup) {dn : Nat → Bool} {i : Nat} (hi : i ∈ D) (hd : dn i = false) : (D.filter (fun x => !dn x)).length = (D.filter (fun x => !(x == i || dn x))).length + 1 := by
  induction D with
  | nil => cases hi
  | cons k D ih =>
    obtain ⟨h1, h2⟩ := List.nodup_cons.1 hn
    by_cases hk : k = i
    · subst hk
      have e : D.filter (fun x => !(x == k || dn x)) = D.filter (fun x => !dn x) := by
        refine List.filter_congr fun x hx => ?_
        have : (x == k) = false := beq_eq_false_iff_ne.2 (fun e => h1 (e ▸ hx))
        rw [this, Bool.false_or]
      rw [List.filter_cons, List.filter_cons, e, hd]
      simp
    · have hi' : i ∈ D := by
        rcases List.mem_cons.1 hi with h | h
        · exact absurd h.symm hk
        · exact h
      have ih' := ih h2 hi'
      have hb : (k == i) = false := beq_eq_false_iff_ne.2 hk
      rw [List.filter_cons, List.filter_cons, hb, Bool.false_or]
      cases dn k
      · simp [ih']
      · simp [ih']
theorem Zez : ∀ (vs pre rest : List Value), rest.length = vs.length → putAll (pre ++ rest).toArray pre.length vs = (pre ++ vs).toArray
  | [], pre, rest, h => by
    obtain rfl := List.eq_nil_of_length_eq_zero (by simpa using h)
    rfl
  | v :: vs, pre, [], h => by simp at h
  | v :: vs, pre, x :: rest, h => by
    have e : (pre ++ x :: rest).toArray.setIfInBounds pre.length v = ((pre ++ [v]) ++ rest).toArray := by simp
    rw [putAll, e]
    have := Zez vs (pre ++ [v]) rest (by simpa using h)
    rw [List.length_append, List.length_singleton] at this
    rw [this, List.append_assoc]
    rfl
theorem Zck {C C' : Array Value} (h : C.size = C'.size) : putAll C 0 C'.toList = C' := by
  have := Zez C'.toList [] C.toList (by simpa using h)
  simpa using this
theorem Zdt {w : World} {b t n : Nat} {C : Array Value} (h : w.heap[b]? = some (.cells C t (0, 0))) (hn : C.size = n) : w.there b 0 n := fun j hj => by
  refine ⟨?_, Zap h⟩
  rw [Nat.zero_add, Zac h (Array.getElem?_eq_getElem (by omega))]
  rfl
structure KQ (W : World) (R0 n ty : Nat) (V : World) : Prop where
  same : ∀ b, b < W.heap.size → b ≠ R0 → V.heap[b]? = W.heap[b]?
  below : Below R0 W V
  res : ∃ C : Array Value, V.heap[R0]? = some (.cells C ty (0, 0)) ∧ C.size = n
section
variable {W V V' : World} {R0 n ty : Nat}
theorem KQ.start {C : Array Value} (h : W.heap[R0]? = some (.cells C ty (0, 0))) (hn : C.size = n) : KQ W R0 n ty W := ⟨fun _ _ _ => rfl, Below.refl _ _, C, h, hn⟩
theorem KQ.init {C : Array Value} (h : W.heap[R0]? = some (.cells C ty (0, 0))) (hn : C.size = n) : KQ W R0 n ty W.drew := ⟨fun _ _ _ => rfl, (Below.refl _ _).drew, C, h, hn⟩
theorem KQ.size (h : KQ W R0 n ty V) : W.heap.size ≤ V.heap.size := h.below.size
theorem KQ.call (h : KQ W R0 n ty V) (hb : Below V.heap.size V V') : KQ W R0 n ty V' := by
  obtain ⟨g, hg, hn⟩ := h.res
  have hlt := Zab hg
  exact ⟨fun b h1 h2 => (hb.block b (Nat.lt_of_lt_of_le h1 h.size)).trans (h.same b h1 h2), h.below.trans (hb.mono (Nat.le_of_lt hlt)), g, (hb.block _ hlt).trans hg, hn⟩
theorem KQ.there (h : KQ W R0 n ty V) {C : Array Value} (hC : C.size = n) : V.there R0 0 C.size := by
  obtain ⟨g, hg, hn⟩ := h.res
  exact Zdt hg (by omega)
theorem KQ.put (h : KQ W R0 n ty V) {C : Array Value} (hC : C.size = n) : (V.setCells R0 0 C.toList).heap[R0]? = some (.cells C ty (0, 0)) := by
  obtain ⟨g, hg, hn⟩ := h.res
  have h1 := Za9 C.toList 0 hg
  rwa [Zck (by omega)] at h1
theorem KQ.store (h : KQ W R0 n ty V) {C : Array Value} (hC : C.size = n) : KQ W R0 n ty (V.setCells R0 0 C.toList) := by
  have hB := But.sets C.toList 0 (But.refl R0 V)
  exact ⟨fun b h1 h2 => (hB.same b h2).trans (h.same b h1 h2), h.below.trans hB.below, C, h.put hC, hC⟩
theorem KQ.box (h : KQ W R0 n ty V) {b t : Nat} {C : Array Value} (hb : W.heap[b]? = some (.cells C t (0, 0))) (hne : b ≠ R0) : V.heap[b]? = some (.cells C t (0, 0)) := (h.same b (Zab hb) hne).trans hb
end
theorem Zbt {w : World} {b t : Nat} {A B C : Array Value} (h : w.heap[b]? = some (.cells (A ++ (B ++ C)) t (0, 0))) {o : Nat} (ho : A.size = o) : w.rangeAt b o B.toList := fun j v hv => by
  have hj : j < B.size := by simpa using (List.getElem?_eq_some_iff.1 hv).1
  refine Zac h ?_
  rw [Array.getElem?_append_right (by omega), show o + j - A.size = j by omega, Array.getElem?_append_left hj, ← Array.getElem?_toList]
  exact hv
theorem Zkw {P : Program} {op : Oper} {a : Act} {w : World} {K : Act → World → Prop} {Q : Exit → Act → World → Prop} (x y : Operand) (tys : Array TypeId) {f : Nat} (ho : op.op = .call { callee := .value (.func f), args := #[x, y], argTypes := tys }) {xv yv : Value}
    (hx : a.eval x = xv) (hy : a.eval y = yv) (hm : ∀ av, (callFunc f av).run P w = .ok (.enter f av) w) {R : Ending → World → Prop} (hc : Calls P f #[xv, yv] w R) (h : ∀ e w', R e w' → ∃ v, e = .returned v ∧ K (a.put op.dst v) w') : op.wp P a w K Q := by
  unfold Oper.wp execOp
  have he : (do let d ← resolve a.eval { callee := .value (.func f), args := #[x, y], argTypes := tys } op.type; invoke d.target d.args).run P w = .ok (.enter f #[xv, yv]) w := by
    have hf : a.eval (.func f) = .func (.func f) #[] #[] := rfl
    simp only [resolve, invoke, Deferred.ofValue, hf, Sem.run_bind, Sem.run_pure, Result.andThen, List.map_toArray, List.map_cons, List.map_nil, hx, hy]
    simp [hm]
  simp only [ho]
  rw [he]
  refine hc.mono ?_
  intro e w' hR
  obtain ⟨v, rfl, hK⟩ := h e w' hR
  exact hK
theorem Zij (off : Nat) : ∀ (l : List Value) (k : Nat) (cs : Array Value), off + k + l.length ≤ cs.size → ∀ i, ((l.zipIdx k).foldl (fun cs (x : Value × Nat) => cs.setIfInBounds (off + x.2) x.1) cs)[i]? = if off + k ≤ i ∧ i < off + k + l.length then l[i - (off + k)]? else cs[i]?
  | [], k, cs, h, i => by simp; omega
  | v :: l, k, cs, h, i => by
    rw [List.zipIdx_cons, List.foldl_cons, Zij off l (k + 1) _ (by simp at h ⊢; omega)]
    simp only [List.length_cons] at h ⊢
    by_cases h1 : i = off + k
    · subst h1
      rw [if_neg (by omega), if_pos (by omega), Array.getElem?_setIfInBounds_self_of_lt (by omega), Nat.sub_self]
      rfl
    · rw [Array.getElem?_setIfInBounds_ne (by omega)]
      by_cases h2 : off + (k + 1) ≤ i ∧ i < off + (k + 1) + l.length
      · rw [if_pos h2, if_pos (by omega), show i - (off + k) = (i - (off + (k + 1))) + 1 by omega]
        rfl
      · rw [if_neg h2, if_neg (by omega)]
theorem Zb6 {place : Nat → Option (Nat × Nat)} {A B C X : Array Value} {v : Value} (hc : v.cells = X) {i off size : Nat} {rest : List (Nat × Value)} (hp : place i = some (off, size)) (hX : X.size = size) (hA : A.size = off) (hB : B.size = size) :
    Instr.fill place (A ++ (B ++ C)) ((i, v) :: rest) = Instr.fill place (A ++ (X ++ C)) rest := by
  rw [Instr.fill, hp]
  dsimp only
  rw [hc, if_neg (by simp; omega)]
  congr 1
  have e : X.zipIdx.foldl (fun cs (x : Value × Nat) => cs.setIfInBounds (off + x.2) x.1) (A ++ (B ++ C)) = A ++ (X ++ C) := by
    rw [← Array.foldl_toList, Array.toList_zipIdx]
    refine Array.ext_getElem? fun j => ?_
    rw [Zij off X.toList 0 _ (by simp; omega)]
    simp only [Nat.add_zero, Array.length_toList, Array.getElem?_toList]
    by_cases h : off ≤ j ∧ j < off + X.size
    · rw [if_pos h, Array.getElem?_append_right (by omega), Array.getElem?_append_left (by omega), hA]
    · rw [if_neg h]
      by_cases h1 : j < off
      · rw [Array.getElem?_append_left (by omega), Array.getElem?_append_left (by omega)]
      · rw [Array.getElem?_append_right (by omega), Array.getElem?_append_right (by omega), Array.getElem?_append_right (by omega), Array.getElem?_append_right (by omega), hB, hX]
  exact e
theorem ZbM {P : Program} {op : Oper} {l : List Value} {ds : List Deferred} {w : World} {K : Act → World → Prop} {Q : Exit → Act → World → Prop} (x y : Operand) (tys : Array TypeId) (d : Nat) {f : Nat} (ho : op.op = .call { callee := .value (.func f), args := #[x, y], argTypes := tys }) (hd : op.dst = some d) {xv yv : Value}
    (hx : Act.eval { tmps := l.toArray, defers := ds } x = xv) (hy : Act.eval { tmps := l.toArray, defers := ds } y = yv) (hm : ∀ av w, (callFunc f av).run P w = .ok (.enter f av) w) {v : Value} (hc : Calls P f #[xv, yv] w fun e w' => e = .returned v ∧ Below w.heap.size w w')
    (h : ∀ w', Below w.heap.size w w' → K { tmps := (l.set d v).toArray, defers := ds } w') : op.wp P { tmps := l.toArray, defers := ds } w K Q :=
  Zkw x y tys ho hx hy (fun av => hm av w) hc (fun e w' hR => ⟨v, hR.1, by rw [hd, Zaa]; exact h w' hR.2⟩)
theorem ZaX {P : Program} {op : Oper} {l : List Value} {ds : List Deferred} {w : World} {K : Act → World → Prop} {Q : Exit → Act → World → Prop} (args : Array Operand) (tys : Array TypeId) (d : Nat) {f : Nat} (ho : op.op = .call { callee := .value (.func f), args := args, argTypes := tys }) (hd : op.dst = some d) {av : Array Value}
    (hx : args.map (Act.eval { tmps := l.toArray, defers := ds }) = av) (hm : ∀ av w, (callFunc f av).run P w = .ok (.enter f av) w) {v : Value} (hc : Calls P f av w fun e w' => e = .returned v ∧ Below w.heap.size w w')
    (h : ∀ w', Below w.heap.size w w' → K { tmps := (l.set d v).toArray, defers := ds } w') : op.wp P { tmps := l.toArray, defers := ds } w K Q := by
  unfold Oper.wp execOp
  have he : (do let d ← resolve (Act.eval { tmps := l.toArray, defers := ds }) { callee := .value (.func f), args := args, argTypes := tys } op.type; invoke d.target d.args).run P w = .ok (.enter f av) w := by
    have hf : Act.eval { tmps := l.toArray, defers := ds } (.func f) = .func (.func f) #[] #[] := rfl
    simp only [resolve, invoke, Deferred.ofValue, hf, Sem.run_bind, Sem.run_pure, Result.andThen, hx]
    simp [hm]
  simp only [ho]
  rw [he]
  refine hc.mono ?_
  rintro e w' ⟨rfl, hb⟩
  show K _ _
  rw [hd, Zaa]
  exact h w' hb
theorem Zad {P : Program} {ops : Array Oper} {rest : List Oper} {op : Oper} {a : Act} {w : World} {Q : Exit → Act → World → Prop} (hgd : op.guard = none) (h : ∀ K : Act → World → Prop, (∀ a w, wpList P ops Q rest a w → K a w) → op.wp P a w K Q) : wpList P ops Q (op :: rest) a w :=
  wpList_plain hgd fun _ hK => h _ hK
theorem Zax {P : Program} {ops : Array Oper} {rest : List Oper} {op : Oper} {l : List Value} {ds : List Deferred} {w : World} {Q : Exit → Act → World → Prop} (hgd : op.guard = none) (ty : TypeId) (x : Operand) (k : Nat) (ho : op.op = .load ty x) (hdst : op.dst = some k)
    (b o : Nat) (cells : Array Value) (hx : Act.eval { tmps := l.toArray, defers := ds } x = .pointer (some ⟨b, o, none⟩)) (d : TypeDesc) (hc : w.rangeAt b o cells.toList)
    (hu : P.underlying ty = some d) (hd : d.isRow = true) (hi : (P.info? ty).map (·.size) = some cells.size)
    (h : wpList P ops Q rest { tmps := (l.set k (.agg cells)).toArray, defers := ds } w) : wpList P ops Q (op :: rest) { tmps := l.toArray, defers := ds } w :=
  Zad hgd fun _ hK => Za8 ty x k ho hdst b o cells hx d hc hu hd (by rw [Array.length_toList]; exact hi) (hK _ _ h)
theorem Zav {P : Program} {ops : Array Oper} {rest : List Oper} {op : Oper} {l : List Value} {ds : List Deferred} {w : World} {Q : Exit → Act → World → Prop} (hgd : op.guard = none) (ty : TypeId) (x y : Operand) (ho : op.op = .store ty x y) (hdst : op.dst = none)
    (b o : Nat) (cells : Array Value) (hx : Act.eval { tmps := l.toArray, defers := ds } x = .pointer (some ⟨b, o, none⟩)) (hy : Act.eval { tmps := l.toArray, defers := ds } y = .agg cells)
    (ht : w.there b o cells.size) (hi : (P.info? ty).map (·.size) = some cells.size) (h1 : cells.all (·.oneCell') = true)
    (h : wpList P ops Q rest { tmps := l.toArray, defers := ds } (w.setCells b o cells.toList)) : wpList P ops Q (op :: rest) { tmps := l.toArray, defers := ds } w :=
  Zad hgd fun _ hK => Zan ty x y ho hdst b o cells hx hy ht hi h1 (hK _ _ h)
theorem Zbu {P : Program} {ops : Array Oper} {S : World → Prop} {op : Oper} {a : Act} (hw : Region.wanted op (yielded ops a.tmps) = true) (ty : TypeId) (x : Operand) (ho : op.op = .load ty x)
    (b o : Nat) (hx : a.eval x = .pointer (some ⟨b, o, none⟩)) (C : Array Value) (d : TypeDesc) (hS : ∀ w, S w → w.rangeAt b o C.toList)
    (hu : P.underlying ty = some d) (hd : d.isRow = true) (hi : (P.info? ty).map (·.size) = some C.size) : YieldsIf P ops S op (.agg C) a := by
  have h := yieldsIf_load_mid (S := S) hw ty x ho b o hx C.toList d hS hu hd (by rw [Array.length_toList]; exact hi)
  rwa [Array.toArray_toList] at h
theorem loadC {P : Program} (w : World) (b o : Nat) (ty : TypeId) (C : Array Value) (d : TypeDesc) (hc : w.rangeAt b o C.toList)
    (hu : P.underlying ty = some d) (hd : d.isRow = true) (hi : (P.info? ty).map (·.size) = some C.size) : (loadVar ty ⟨b, o, none⟩).run P w = .ok (.agg C) w := by
  have h := run_loadVar_mid (P := P) w b o ty C.toList d hc hu hd (by rw [Array.length_toList]; exact hi)
  rwa [Array.toArray_toList] at h
theorem ZaT {P : Program} {ops : Array Oper} {rest : List Oper} {Q : Exit → Act → World → Prop} {a : Act} {w : World} (h : ∀ W0, W0 = w → wpList P ops Q rest a W0) : wpList P ops Q rest a w := h w rfl
theorem Zam {T : List Value} {ds : List Deferred} {k : Nat} {v : Value} (h : T[k]? = some v) : Act.eval { tmps := T.toArray, defers := ds } (.tmp k) = v := by
  simp [Act.eval, Array.getD_eq_getD_getElem?, h]
def fsOf : Option TypeDesc → Array Field
  | some (.struct fs) => fs
  | _ => #[]
theorem Zbv {P : Program} {t : TypeId} {w : World} {z cells : Array Value} {fs : Array Field} {places : Array (Nat × Nat)} {parts : Array (Nat × Value)} (hz : (zeroValue t).run P w = .ok (.agg z) w) (hu : (underlying t).run P w = .ok (.struct fs) w)
    (hp : (fs.mapM fun f => do pure (f.offset, ← sizeOf f.type) : Sem (Array (Nat × Nat))).run P w = .ok places w) (hf : Instr.fill (places[·]?) z parts.toList = some cells) : (Instr.build t parts).run P w = .ok (.agg cells) w := by
  have hc : (Value.agg z).cells = z := rfl
  unfold Instr.build
  simp only [Sem.run_bind, hz, hu, hp, hc, Result.andThen, hf, Sem.run_pure]
end Go.Proofs.YtcbdbnfgnonacaaGreat
